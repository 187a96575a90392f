/-
  The contract of the model's l2Divide.
-/
import Derived.Test.YtghiaflnlobopaaSub
import Derived.Test.YtghiaflnlobopaaPAdd
import Derived.Test.YtghiaflnlobopaaEx
import Derived.Test.YtghiaflnlobopaaApA
import Derived.Test.YtghiaflnlobopaaTail
import Derived.Deep.DeepCutAuto
namespace Go.Proofs.Ytghiaflnlobopaa
open Go.RowKit
/-- two rows of the call's own -/
def Made2 (R1 R2 : List Int) (w : World) (e : Ending) (w' : World) : Prop :=
  ∃ (A : Option Addr) (c : Nat) (A' : Option Addr) (c' : Nat), e = .returned (.tuple #[.slice A R1.length c, .slice A' R2.length c']) ∧ OI w' w.heap.size A R1.length c R1 ∧ OI w' w.heap.size A' R2.length c' R2 ∧ Apart (.slice A R1.length c) (.slice A' R2.length c') ∧ Below w.heap.size w w'
theorem apart_new {w1 : World} {B B' n c n' c' : Nat} {A A' : Option Addr} {xs ys : List Int} {w2 : World} (h : OI w1 B A n c xs) (h' : OI w2 B' A' n' c' ys) (hB : w1.heap.size ≤ B') : Apart (.slice A n c) (.slice A' n' c') := by
  unfold Apart
  by_cases ho : (Value.slice A n c).ownBlock = none
  · exact .inl ho
  · right
    intro e
    obtain ⟨q, hq⟩ := Option.ne_none_iff_exists'.1 ho
    have h1 := (h.lt q hq).2
    have h2 := (h'.lt q (e.symm.trans hq)).1
    omega
set_option maxRecDepth 100000 in
set_option maxHeartbeats 4000000 in
theorem specDivide (p : Int) (A : Option Addr) (n c b o : Nat) (f : List Int) (A' : Option Addr) (n' c' b' o' : Nat) (g : List Int) (w : World) (h : IA w A n b o f) (h' : IA w A' n' b' o' g) (hpr : primeB p = true)
    (hf : ∀ x ∈ f, numB p x = true) (hg : ∀ x ∈ g, numB p x = true) (hn : n ≤ 100000) (hn' : n' ≤ 100000) (h1 : 1 ≤ n') :
    Calls Try.prog 37 #[.int .i64 p, .slice A n c, .slice A' n' c'] w (Made2 (quoL p f g) (remL p f g) w) := by
  have hp := prime_ge hpr
  have HL := Lib.hid h.len
  have HL' := Lib.hid h'.len
  have H := Lib.hid h
  have H' := Lib.hid h'
  have HF := Lib.hid hf
  have HG := Lib.hid hg
  have HP := Lib.hid hpr
  obtain rfl := h'.adr (by omega)
  obtain ⟨l, hl, hlc⟩ := h'.cell (n' - 1) (by omega)
  have hlb := numB_bd (hg l (List.mem_of_getElem? hl))
  have hlast : co g (g.length - 1) = l := by unfold co; rw [h'.len]; exact getD_at hl
  obtain ⟨bk, hbk⟩ : ∃ bk, invM p l = bk := ⟨_, rfl⟩
  have hbkb : 0 ≤ bk ∧ bk < p := by rw [← hbk]; exact inv_bd hpr
  obtain ⟨N, hN⟩ : ∃ N, divN f g = N := ⟨_, rfl⟩
  have hNn : (n' ≤ n ∧ N + n' = n + 1) ∨ (n < n' ∧ N = 0) := by
    rw [← hN]; unfold divN; rw [h.len, h'.len]
    split
    · left; omega
    · right; omega
  have HD := Lib.hid (show divP p f g = divS p g bk N (List.replicate N 0) f by unfold divP; rw [hlast, hbk, hN])
  have HBK := Lib.hid hbk
  clear h h' hf hg hl hlast hN hbk hpr
  have hn1 : ((n' : Int) - 1).toNat = n' - 1 := by omega
  have hmk := run_make_row' (P := Try.prog) 23 3 (.int .i64 0) 8 Try.underlying23 infoInt rfl .i64 .i64 N (by omega) (by omega)
  have hNb : N ≤ 100001 := by omega
  have HN := Lib.hid hNn
  clear hNn
  go_enter Try.func37, Try.ntmps37
  go_upto_region 1 with (fail)
  go_cut [8] (fun v wx => ∃ (A2 : Option Addr) (c2 : Nat), v = .slice A2 n c2 ∧ OI wx w.heap.size A2 n c2 f ∧ Below w.heap.size w wx)
  case first =>
    go_wp2_with (at_builtin; refine wpList_app_any rfl (.tmp 14) (.tmp 15) rfl rfl A n c b o f rfl H.out (by omega) ?_)
    intro A2 c2 w2 hI2 hB2
    have HI2 := Lib.hid hI2
    have HB2 := Lib.hid hB2
    clear hI2 hB2
    go_wp2_with (fail)
    go_meet
    exact ⟨A2, c2, rfl, HI2.out, HB2.out⟩
  case rest =>
  obtain ⟨A2, c2, rfl, hI2, hB2⟩ := hcut
  obtain ⟨w2, rfl⟩ : ∃ w2 : World, w2 = wc := ⟨_, rfl⟩
  have HI2 := Lib.hid hI2
  have HB2 := Lib.hid hB2
  have hs2 := hB2.size
  clear hI2 hB2
  go_upto_region 2 with (fail)
  go_cut [9] (fun v wx => v = .slice (some ⟨w2.heap.size, 0, none⟩) N N ∧ wx = w2.alloc (.cells (madeCells #[.int .i64 0] N) 3))
  case first =>
    rcases HN.out with ⟨q1, q2⟩ | ⟨q1, q2⟩
    · have hNi : (n : Int) - (n' : Int) + 1 = (N : Int) := by omega
      have hm0 : decide ((N : Int) < 0) = false := by simp
      go_wp2_with (fail)
      all_goals (go_meet; exact ⟨rfl, rfl⟩)
    · subst q2
      have hmk0 : ∀ w : World, (Instr.makeSlice 23 (.int .i64 0) (.int .i64 0)).run Try.prog w = .ok (.slice (some ⟨w.heap.size, 0, none⟩) 0 0) (w.alloc (.cells (madeCells #[.int .i64 0] 0) 3)) := hmk
      clear hmk
      by_cases hq : n + 1 = n'
      · have hm0 : (n : Int) - (n' : Int) + 1 = 0 := by omega
        go_wp2_with (fail)
        all_goals (go_meet; exact ⟨rfl, rfl⟩)
      · have hm0 : decide ((n : Int) - (n' : Int) + 1 < 0) = true := decide_eq_true (by omega)
        have hm1 : (n : Int) - (n' : Int) + 1 < 0 := by omega
        go_wp2_with (fail)
        all_goals (go_meet; exact ⟨rfl, rfl⟩)
  case rest =>
  obtain ⟨rfl, rfl⟩ := hcut
  have hQ := made_ints w2 N (by omega)
  have HQ := Lib.hid (owns_mono hQ hs2)
  have HR2 := Lib.hid (OIb HI2.out ((Below.refl _ _).alloc (Nat.le_refl _) (.cells (madeCells #[.int .i64 0] N) 3)))
  have hNE : ∀ q, (Value.slice A2 n c2).ownBlock = some q → q ≠ w2.heap.size := fun q hq e => by have := (HI2.out.lt q hq).2; omega
  have HNE := Lib.hid hNE
  have HB3 := Lib.hid (HB2.out.alloc hs2 (.cells (madeCells #[.int .i64 0] N) 3))
  obtain ⟨w3, hw3⟩ : ∃ w3, w2.alloc (.cells (madeCells #[.int .i64 0] N) 3) = w3 := ⟨_, rfl⟩
  obtain ⟨B3, hB3e⟩ : ∃ B3, w2.heap.size = B3 := ⟨_, rfl⟩
  rw [hw3] at HQ HR2 HB3
  rw [hB3e] at HQ HNE
  rw [hw3, hB3e]
  have hlc3 := (keep_of_below HB3.out).cell hlc (fun h => h)
  clear hQ hNE hw3 hB3e hs2 hlc hmk HI2 HB2
  go_wp2_with (fail)
  refine (specBack p l _ HP.out hlb.1 hlb.2.1).mono ?_
  rintro e w4 ⟨rfl, rfl⟩
  rw [HBK.out]
  go_wp2_with (fail)
  go_loopw [11] (fun v wr => ∃ (z : Int) (m : Nat) (q r : List Int), v = .int .i64 z ∧ m ≤ N ∧ -100001 ≤ z ∧ (0 ≤ z → z + 1 = (m : Int)) ∧ (z < 0 → m = 0) ∧ OI wr w.heap.size (some ⟨B3, 0, none⟩) N N q ∧ OI wr w.heap.size A2 n c2 r ∧ Hid (divS p g bk m q r = divP p f g) ∧ Hid (∀ x ∈ r, numB p x = true) ∧ Below w.heap.size w wr) (fun v _ => (intOf v + 1).toNat)
  case atStart => exact ⟨(n : Int) - (n' : Int), N, List.replicate N 0, f, rfl, Nat.le_refl _, by omega, fun h => by have := HN.out; omega, fun h => by have := HN.out; omega, HQ.out, HR2.out, HD.out.symm, HF.out, HB3.out⟩
  case round =>
    obtain ⟨z, m, q, r, rfl, hm, hzlo, hz1, hz2, hoq, hor, hdiv, hrv, hbel⟩ := hrel
    by_cases hz : 0 ≤ z
    · obtain ⟨k, rfl⟩ : ∃ k : Nat, m = k + 1 := ⟨m - 1, by have := hz1 hz; omega⟩
      obtain rfl : z = (k : Int) := by have := hz1 hz; omega
      have hkn : k + n' ≤ n := by have := HN.out; omega
      have hrl := hor.len
      obtain ⟨g2, hA2, hg2⟩ : ∃ g2, A2 = some ⟨g2, 0, none⟩ ∧ g2 ≠ B3 := by
        rcases hor.adr with ⟨_, h0, _⟩ | ⟨g2, e, _, _⟩
        · omega
        · exact ⟨g2, e, HNE.out g2 (by rw [e]; rfl)⟩
      subst hA2
      have hql := hoq.len
      obtain ⟨y, hy⟩ : ∃ y, r[k + n' - 1]? = some y := ⟨_, List.getElem?_eq_getElem (by omega)⟩
      have hyb := numB_bd (hrv.out y (List.mem_of_getElem? hy))
      have hyc : wr.cell? ⟨g2, k + n' - 1, none⟩ = some (.int .i64 y) := by
        rw [World.ownsRow.cellAt hor _ (by omega)]; unfold ints; rw [List.getElem?_map, hy]; rfl
      have hmb := mul_bd hyb.1 (by omega) hbkb.1 (by omega)
      have hki : ((k : Int) + (n' : Int) - 1).toNat = k + n' - 1 := by omega
      have hqf := World.ownsRow.frozenAt hoq k
      obtain ⟨v0, hv0⟩ : ∃ v0, wr.cell? ⟨B3, k, none⟩ = some v0 := by
        rw [World.ownsRow.cellAt hoq _ (by omega)]; exact ⟨_, List.getElem?_eq_getElem (by simp [ints]; omega)⟩
      obtain ⟨T, hT⟩ : ∃ T, y * bk % p = T := ⟨_, rfl⟩
      have hTv : numB p T = true := by rw [← hT]; exact numB_emod HP.out _
      have hTb := numB_bd hTv
      have hdv : divS p g bk k (q.set k T) (subAt p T r g k) = divP p f g := by
        rw [← hdiv.out]
        show _ = divS p g bk k (q.set k (r.getD (k + g.length - 1) 0 * bk % p)) (subAt p (r.getD (k + g.length - 1) 0 * bk % p) r g k)
        rw [HL'.out, getD_at hy, hT]
      have HDV := Lib.hid hdv
      have hq2 := (World.ownsRow.stored hoq k (.int .i64 T)).1
      rw [ints_set] at hq2
      have hr2 := OIk hor (setCell_keep wr ⟨B3, k, none⟩ (.int .i64 T)) (fun gg hg => by simp only [Value.ownBlock, Option.some.injEq] at hg; subst hg; exact hg2)
      have hb2 := hbel.setCell (p := ⟨B3, k, none⟩) (hoq.lt B3 rfl).1 (.int .i64 T)
      have HT := Lib.hid hT
      have HOQ := Lib.hid (show OI _ w.heap.size _ N N (q.set k T) from hq2)
      have HOR := Lib.hid hr2
      have HBE := Lib.hid hb2
      have HRV := hrv
      have hg2lo := (hor.lt g2 rfl).1
      have hqlen : (q.set k T).length = N := by rw [List.length_set]; exact hql
      clear hoq hor hdiv hdv hq2 hr2 hb2 hrv hy hbel hT hTv hql hz1 hz2
      go_wp2_with (fail)
      rw [HT.out]
      obtain ⟨wq, hwq⟩ : ∃ wq, wr.setCell ⟨B3, k, none⟩ (.int .i64 T) = wq := ⟨_, rfl⟩
      rw [hwq] at HOQ HOR HBE ⊢
      clear hwq hv0 hqf hyc
      go_loopw [13] (fun v wi => ∃ j : Nat, j ≤ n' ∧ v = .int .i64 (j : Int) ∧ OI wi w.heap.size (some ⟨g2, 0, none⟩) n c2 (subTo p T r g k j) ∧ Keep (· = g2) wq wi) (fun v _ => n' - (intOf v).toNat)
      case atStart => exact ⟨0, by omega, rfl, by rw [subTo_zero]; exact HOR.out, Keep.refl _ _⟩
      case round =>
        obtain ⟨j, hj, rfl, hoj, hkj⟩ := hrel
        by_cases hjn : j < n'
        · have hkey : k + j < r.length := by omega
          have hgt := subTo_get p T r g k j hkey
          obtain ⟨x, hx⟩ : ∃ x, r.getD (k + j) 0 = x := ⟨_, rfl⟩
          rw [hx] at hgt
          have hxb := numB_bd (subTo_mem HP.out HRV.out x (List.mem_of_getElem? hgt))
          obtain ⟨u, hu, huw⟩ := H'.out.cell j hjn
          have huc := (hkj.cell ((keep_of_below HBE.out).cell huw (fun h => h)) (by have h1 : b' < w.heap.size := cell_lt huw; have h2 := hg2lo; show ¬ b' = g2; omega))
          have hub := numB_bd (HG.out u (List.mem_of_getElem? hu))
          have hmb := mul_bd hTb.1 (by omega) hub.1 (by omega)
          have hxc : wr.cell? ⟨g2, k + j, none⟩ = some (.int .i64 x) := by
            rw [World.ownsRow.cellAt hoj _ (by omega)]; unfold ints; rw [List.getElem?_map, hgt]; rfl
          have hfr := World.ownsRow.frozenAt hoj (k + j)
          have hsb := World.ownsRow.stored hoj (k + j) (.int .i64 ((x - T * u) % p))
          have hss := subTo_step p T r g k j
          rw [hx, getD_at hu] at hss
          rw [ints_set, hss] at hsb
          have HO := Lib.hid (show OI _ w.heap.size _ n c2 (subTo p T r g k (j + 1)) from hsb.1)
          have HK := Lib.hid (hkj.trans ((setCell_keep wr ⟨g2, k + j, none⟩ (.int .i64 ((x - T * u) % p))).mono (fun q _ hq => hq)))
          clear hgt hx hu huw hsb hss hoj hkj
          go_wp2_with (fail)
          refine wp_quiet_tail 19 (by kernel_rfl) (by kernel_rfl) ?_
          simp only [List.take_succ_cons, List.take_zero, List.drop_succ_cons, List.drop_zero]
          repeat (go_big_quiet_step ((go_at_call 40; exact quiet_same (l1Mod_any p _ _ hp.1 hp.2))))
          refine wpQuiet_nil ?_
          intro _ hw'
          obtain ⟨nq, hw''⟩ := hw'
          subst hw''
          go_wp2_with (fail)
          go_roundw
          case rel => exact ⟨j + 1, by omega, by go_num, owns_keep HO.out (drewN_keep (S := fun _ => False) _ _) (fun _ _ h => h), HK.out.drewN _⟩
          case measure => simp [intOf]; omega
        · obtain rfl : j = n' := by omega
          rw [show subTo p T r g k j = subAt p T r g k by rw [← HL'.out]; rfl] at hoj
          have HO := Lib.hid hoj
          have HQ2 := Lib.hid (OIk HOQ.out hkj (fun gg hg hs => by simp only [Value.ownBlock, Option.some.injEq] at hg; omega))
          have HB2 := Lib.hid (HBE.out.trans (hkj.below (B := w.heap.size) HBE.out.size (fun q hq => by omega)))
          clear hoj hkj
          go_wp2_with (fail)
          go_roundw
          case rel => exact ⟨(k : Int) - 1, k, q.set k T, subAt p T r g k, by go_num, by omega, by omega, fun _ => by omega, fun _ => by omega, HQ2.out, HO.out, HDV.out, by rw [← subTo_full, ]; exact fun x hx => subTo_mem HP.out HRV.out x hx, HB2.out⟩
          case measure => (first | (simp [intOf]; done) | (simp [intOf]; omega))
    · obtain rfl : m = 0 := hz2 (by omega)
      have hzn : z < 0 := by omega
      have hqr : (q, r) = divP p f g := hdiv.out
      have HQR := Lib.hid (show quoL p f g = trimL q ∧ remL p f g = trimL r by unfold quoL remL; rw [← hqr]; exact ⟨rfl, rfl⟩)
      obtain ⟨b8, hI8, hA8⟩ := OI.iaA hoq
      obtain ⟨b9, hI9, hA9⟩ := OI.iaA hor
      have hcap8 := OI.capLe hoq
      have hcap9 := OI.capLe hor
      have HI8 := Lib.hid hI8
      have HI9 := Lib.hid hI9
      have HBE := Lib.hid hbel
      have hs9 := hbel.size
      clear hqr hdiv hoq hor hI8 hI9 hbel hz1 hz2 hrv
      have hN2 : q.length = N := HI8.out.len
      have hn2 : r.length = n := HI9.out.len
      go_wp2_with (fail)
      refine (specTrim _ N N b8 0 q _ HI8.out (by omega) hcap8 hA8).mono ?_
      rintro e w5 ⟨A5, c5, rfl, hO5, hB5⟩
      have HO5 := Lib.hid hO5
      have HB5 := Lib.hid hB5
      have hs5 := hB5.size
      clear hO5 hB5
      go_wp2_with (fail)
      refine (specTrim _ n c2 b9 0 r _ (HI9.out.below HB5.out) (by omega) hcap9 hA9).mono ?_
      rintro e w6 ⟨A6, c6, rfl, hO6, hB6⟩
      have HO6 := Lib.hid hO6
      have HB6 := Lib.hid hB6
      have HO5' := Lib.hid (OIb HO5.out hB6)
      have HAP := Lib.hid (apart_new HO5.out hO6 (Nat.le_refl _))
      clear hO6 hB6
      go_wp2_with (fail)
      go_ret2
      rw [HQR.out.1, HQR.out.2]
      exact ⟨_, _, _, _, rfl, owns_mono HO5'.out hs9, owns_mono HO6.out (by omega), HAP.out, below_more (below_more HBE.out HB5.out) HB6.out⟩
end Go.Proofs.Ytghiaflnlobopaa

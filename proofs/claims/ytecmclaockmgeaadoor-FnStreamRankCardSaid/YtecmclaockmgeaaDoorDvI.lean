/-
  The contract of divide.
-/
import Derived.Test.YtecmclaockmgeaaDoorTi
import Derived.Test.YtecmclaockmgeaaDoorSub
namespace Go.Proofs.YtecmclaockmgeaaDoor
open Go.RowKit
/-- two rows of numbers with their prime, of the call's own -/
def MadeT2 (p : Int) (Q R : List Int) (w : World) (e : Ending) (w' : World) : Prop :=
  ∃ (A : Option Addr) (c : Nat) (A' : Option Addr) (c' : Nat), e = .returned (.tuple #[.slice A Q.length c, .slice A' R.length c']) ∧ OT w' w.heap.size A Q.length c p Q ∧ OT w' w.heap.size A' R.length c' p R ∧ Below w.heap.size w w'
theorem Box.keep {w w1 w2 : World} {sb : Nat} {p s : Int} {S : Nat → Prop} (h : Box w w1 sb p s) (k : Keep S w1 w2) (hs : ¬ S sb) (hb : Below w.heap.size w w2) : Box w w2 sb p s :=
  ⟨h.lo, Nat.lt_of_lt_of_le h.hi k.size, k.cell h.c0 hs, k.cell h.c1 hs, (k.frozen (p := ⟨sb, 0, none⟩) h.hi hs).trans h.f0, (k.frozen (p := ⟨sb, 1, none⟩) h.hi hs).trans h.f1, hb⟩
theorem quo_put (p t : Int) (q : List Int) (k : Nat) (hk : k < q.length) : (List.replicate (k + 1) ((0 : Int), (0 : Int)) ++ wp p (q.drop (k + 1))).set k (p, t) = List.replicate k (0, 0) ++ wp p ((q.set k t).drop k) := by
  have e : (q.set k t).drop k = t :: q.drop (k + 1) := by
    rw [List.drop_eq_getElem_cons (by rw [List.length_set]; exact hk), List.getElem_set_self]
    congr 1
    rw [List.drop_set_of_lt (by omega)]
  rw [e, List.replicate_succ', List.append_assoc, List.set_append_right _ _ (by simp)]
  simp [wp]
set_option maxRecDepth 100000 in
set_option maxHeartbeats 4000000 in
theorem divide_any (p : Int) (A : Option Addr) (n c b : Nat) (f : List Int) (A' : Option Addr) (n' c' b' : Nat) (g : List Int) (w : World) (h : IT w A n c b p f) (h' : IT w A' n' c' b' p g) (hpr : primeB p = true)
    (hf : ∀ x ∈ f, numB p x = true) (hg : ∀ x ∈ g, numB p x = true) (hn : n ≤ 100000) (hn' : n' ≤ 100000) (h1 : 1 ≤ n') (hlz : co g (g.length - 1) ≠ 0) (hft : trimL f = f) :
    Calls Tryd.prog 77 #[.slice A n c, .slice A' n' c'] w (MadeT2 p (divP p f g).1 (remL p f g) w) := by
  have hp := prime_ge hpr
  have HL := Lib.hid h.len
  have HL' := Lib.hid h'.len
  have H := Lib.hid h
  have H' := Lib.hid h'
  have HF := Lib.hid hf
  have HG := Lib.hid hg
  have HP := Lib.hid hpr
  have hcap := h.capn
  have hcap' := h'.capn
  have hbig := h.big
  have hbig' := h'.big
  obtain rfl : A' = some ⟨b', 0, none⟩ := by rcases h'.adr with ⟨_, h1, _⟩ | h1 <;> first | omega | exact h1
  obtain ⟨l, hl, hlp, hlc⟩ := h'.cell (n' - 1) (by omega)
  have hlast : co g (g.length - 1) = l := by unfold co; rw [h'.len]; exact getD_at hl
  rw [hlast] at hlz
  have hlv := hg l (List.mem_of_getElem? hl)
  obtain ⟨bk, hbk⟩ : ∃ bk, invM p l = bk := ⟨_, rfl⟩
  have hbkv : numB p bk = true := by rw [← hbk]; exact numB_mk hpr (inv_bd hpr).1 (inv_bd hpr).2
  obtain ⟨N, hN⟩ : ∃ N, divN f g = N := ⟨_, rfl⟩
  have HD := Lib.hid (show divP p f g = divS p g bk N (List.replicate N 0) f by unfold divP; rw [hlast, hbk, hN])
  have HV := Lib.hid (And.intro (And.intro hlv hlz) hbkv)
  have HBK := Lib.hid hbk
  by_cases hlt : n < n'
  · have hN0 : N = 0 := by rw [← hN]; unfold divN; rw [h.len, h'.len, if_neg (by omega)]
    have HR := Lib.hid (show (divP p f g).1 = [] ∧ remL p f g = f by unfold remL; rw [HD.out, hN0]; exact ⟨rfl, hft⟩)
    clear h h' hf hg hl hlast hN hbk hpr hft hlz hlv hbkv hlp hlc
    go_enter Tryd.func77, Tryd.ntmps77
    go_wp2_with (fail)
    refine (clone_any p A n c b f _ H.out (by omega)).mono ?_
    rintro e w1 ⟨A1, c1, rfl, hO, hB⟩
    rw [HL.out] at hO ⊢
    have HO := Lib.hid hO
    have HB := Lib.hid hB
    clear hO hB
    go_wp2_with (fail)
    go_ret2
    rw [HR.out.1, HR.out.2]
    exact ⟨none, 0, A1, c1, by rw [HL.out]; rfl, World.ownsRow_nil _ _ _ _, by rw [HL.out]; exact HO.out, HB.out⟩
  · have hNn : N + n' = n + 1 := by rw [← hN]; unfold divN; rw [h.len, h'.len, if_pos (by omega)]; omega
    have hn1 : ((n' : Int) - 1).toNat = n' - 1 := by omega
    have hNi : (n : Int) - ((n' : Int) - 1) = (N : Int) := by omega
    have hmk := run_make_two (P := Tryd.prog) 67 71 (.int .i64 0) (.int .i64 0) 16 Tryd.underlying67 infoRes .i64 .i64 N (by omega) (by omega)
    clear h h' hf hg hl hlast hN hbk hpr hft hlz hlv hbkv
    go_enter Tryd.func77, Tryd.ntmps77
    go_wp2_with (fail)
    refine (clone_any p A n c b f _ H.out (by omega)).mono ?_
    rintro e w1 ⟨A1, c1, rfl, hO, hB⟩
    rw [HL.out] at hO ⊢
    obtain ⟨g1, rfl, hg1, hg1b, hnc1, hcc1⟩ : ∃ g, A1 = some ⟨g, 0, none⟩ ∧ w.heap.size ≤ g ∧ g < w1.heap.size ∧ n ≤ c1 ∧ c1 ≤ 9223372036854775807 := by
      rcases OZ.adr hO with ⟨_, h1, _⟩ | h1
      · omega
      · exact h1
    have HO := Lib.hid hO
    have HB := Lib.hid hB
    have hs1 := hB.size
    have hBq : Below w1.heap.size w1 (w1.alloc (.cells (madeCells #[.int .i64 0, .int .i64 0] (N * 2)) 71)) := (Below.refl _ _).alloc (Nat.le_refl _) _
    have hlp1 := (keep_of_below hBq).cell ((keep_of_below hB).cell hlp (fun h => h)) (fun h => h)
    have hlc1 := (keep_of_below hBq).cell ((keep_of_below hB).cell hlc (fun h => h)) (fun h => h)
    have HBq := Lib.hid (below_more hB hBq)
    have HOq := Lib.hid (OZ.below hO hBq)
    have HQq := Lib.hid (made_two w1 N (by omega))
    have hsq := hBq.size
    have hszq : (w1.alloc (.cells (madeCells #[.int .i64 0, .int .i64 0] (N * 2)) 71)).heap.size = w1.heap.size + 1 := by simp
    clear hO hB hlp hlc hBq
    go_wp2_with (fail)
    refine (res_back p l _ HV.out.1.1 HV.out.1.2).mono ?_
    rw [HBK.out]
    rintro e w3 ⟨rfl, hB3⟩
    have HO3 := Lib.hid (OZ.below HOq.out hB3)
    have HQ3 := Lib.hid (OZ.mono (OZ.below HQq.out hB3) hs1)
    have HB3 := Lib.hid (below_more HBq.out hB3)
    have hs3 := hB3.size
    have HBX := Lib.hid (Box.new (p := p) (s := bk) HB3.out 71)
    have HO4 := Lib.hid (OZ.below HO3.out ((Below.refl _ _).alloc (Nat.le_refl _) (.cells #[.int .i64 p, .int .i64 bk] 71)))
    have HQ4 := Lib.hid (OZ.below HQ3.out ((Below.refl _ _).alloc (Nat.le_refl _) (.cells #[.int .i64 p, .int .i64 bk] 71)))
    have hg3 : g1 < w3.heap.size := by omega
    have hq3 : w1.heap.size < w3.heap.size := by omega
    clear hB3 hlp1 hlc1 hmk HOq HQq HBq
    go_wp2_with (fail)
    go_loopw [10] (fun v wr => ∃ (z : Int) (m : Nat) (q r : List Int), v = .int .i64 z ∧ m ≤ N ∧ -100001 ≤ z ∧ (0 ≤ z → z + 1 = (m : Int)) ∧ (z < 0 → m = 0) ∧ OZ wr w.heap.size (some ⟨w1.heap.size, 0, none⟩) N N (List.replicate m (0, 0) ++ wp p (q.drop m)) ∧ OT wr w.heap.size (some ⟨g1, 0, none⟩) n c1 p r ∧ Hid (q.length = N) ∧ Hid (divS p g bk m q r = divP p f g) ∧ Hid (∀ x ∈ r, numB p x = true) ∧ Box w wr w3.heap.size p bk) (fun v _ => (intOf v + 1).toNat)
    case atStart => exact ⟨(n : Int) - (n' : Int), N, List.replicate N 0, f, rfl, Nat.le_refl _, by omega, fun _ => by omega, fun _ => by omega, by rw [List.drop_of_length_le (by simp)]; simpa [wp] using HQ4.out, HO4.out, by simp [Hid], HD.out.symm, HF.out, HBX.out⟩
    case round =>
      obtain ⟨z, m, q, r, rfl, hm, hzlo, hz1, hz2, hoq, hor, hql, hdiv, hrv, hbx⟩ := hrel
      obtain ⟨wo, rfl⟩ : ∃ wo : World, wo = wr := ⟨_, rfl⟩
      by_cases hz : 0 ≤ z
      · obtain ⟨k, rfl⟩ : ∃ k : Nat, m = k + 1 := ⟨m - 1, by have := hz1 hz; omega⟩
        obtain rfl : z = (k : Int) := by have := hz1 hz; omega
        have hkn : k + n' ≤ n := by omega
        have hrl := OT.len hor
        obtain ⟨M, hM⟩ : ∃ M : Nat, M = k + n' - 1 := ⟨_, rfl⟩
        have hMi : (k : Int) + ((n' : Int) - 1) = (M : Int) := by omega
        have hMi2 : (k : Int) + (n' : Int) - 1 = (M : Int) := by omega
        have hMw1 : IntKind.i64.wrap ((k : Int) + ((n' : Int) - 1)) = (M : Int) := by rw [hMi]; exact IntWalk.i64_in _ ⟨by omega, by omega⟩
        have hMw2 : wrap64 ((k : Int) + ((n' : Int) - 1)) = (M : Int) := by unfold wrap64; omega
        have hMw : IntKind.i64.wrap (M : Int) = (M : Int) := IntWalk.i64_in _ ⟨by omega, by omega⟩
        have hM0 : (0 : Int) ≤ (M : Int) := by omega
        have hM1 : (M : Int) < (n : Int) := by omega
        obtain ⟨y, hy⟩ : ∃ y, r[M]? = some y := ⟨_, List.getElem?_eq_getElem (by omega)⟩
        have hyv := hrv.out y (List.mem_of_getElem? hy)
        obtain ⟨e1, e2, _, _⟩ := OZ.cells hor (wp_get (p := p) hy)
        obtain ⟨T, hT⟩ : ∃ T, y * bk % p = T := ⟨_, rfl⟩
        have hTv : numB p T = true := by rw [← hT]; exact numB_emod HP.out _
        have hdv : divS p g bk k (q.set k T) (subAt p T r g k) = divP p f g := by
          rw [← hdiv.out]
          show _ = divS p g bk k (q.set k (r.getD (k + g.length - 1) 0 * bk % p)) (subAt p (r.getD (k + g.length - 1) 0 * bk % p) r g k)
          rw [HL'.out, ← hM, getD_at hy, hT]
        have HDV := Lib.hid hdv
        have HT := Lib.hid hT
        have HTV := Lib.hid hTv
        have HYV := Lib.hid hyv
        have HOQ := Lib.hid hoq
        have HOR := Lib.hid hor
        have HBB := Lib.hid hbx
        have y1 := hbx.c0
        have y2 := hbx.c1
        have y3 := hbx.hi
        have hg1o : g1 < wo.heap.size := (hor.lt g1 rfl).2
        have hqo : w1.heap.size < wo.heap.size := (hoq.lt w1.heap.size rfl).2
        have hne1 : wo.heap.size ≠ g1 := by omega
        have hne2 : wo.heap.size ≠ w3.heap.size := by omega
        have HM := Lib.hid hM
        clear hoq hor hdiv hdv hy hyv hT hTv hz1 hz2 hbx hM
        go_upto_region 10 with (fail)
        go_cut [11] (fun v wx => ∃ tb, v = .pointer (some ⟨tb, 0, none⟩) ∧ Box wo wx tb p T)
        case first =>
          go_region_held3 (fun w' => w'.cell? ⟨g1, M * 2, none⟩ = some (.int .i64 p) ∧ w'.cell? ⟨g1, M * 2 + 1, none⟩ = some (.int .i64 y) ∧ w'.cell? ⟨w3.heap.size, 0, none⟩ = some (.int .i64 p) ∧ w'.cell? ⟨w3.heap.size, 1, none⟩ = some (.int .i64 bk)) (first | assumption | exact ⟨e1, e2, y1, y2⟩ | go_keep) ((go_at_call 102; refine (res_times p y bk _ HYV.out HV.out.2).mono ?_; rw [HT.out]; rintro e w' ⟨rfl, hB⟩; have z1 := (keep_of_below hB).cell (p := ⟨g1, M * 2, none⟩) (v := .int .i64 p) (by first | assumption | (simp [*]; done)) (fun h => h); have z2 := (keep_of_below hB).cell (p := ⟨g1, M * 2 + 1, none⟩) (v := .int .i64 y) (by first | assumption | (simp [*]; done)) (fun h => h); have z3 := (keep_of_below hB).cell (p := ⟨w3.heap.size, 0, none⟩) (v := .int .i64 p) (by first | assumption | (simp [*]; done)) (fun h => h); have z4 := (keep_of_below hB).cell (p := ⟨w3.heap.size, 1, none⟩) (v := .int .i64 bk) (by first | assumption | (simp [*]; done)) (fun h => h); have zz := And.intro z1 (And.intro z2 (And.intro z3 z4)); have hcl := cellsOf hB; have hfz := frozenOf hB))
          all_goals
            go_wp2_with (fail)
            go_meet
            first
              | exact ⟨_, rfl, Box.new (w := wo) ⟨hB.os, hB.tape, hB.output, hB.size, hB.block⟩ _⟩
              | exact ⟨_, rfl, Box.put (Box.below (Box.new' (p := 0) (s := 0) (Below.refl wo.heap.size wo) rfl 71) ⟨hB.os, hB.tape, hB.output, by simpa using hB.size, fun k hk => hB.block k (by simpa using hk)⟩)⟩
        case rest =>
        obtain ⟨tb, rfl, hbt⟩ := hcut
        have htlo := hbt.lo
        have hthi := hbt.hi
        have HOQ2 := Lib.hid (OZ.below HOQ.out hbt.bel)
        have HOR2 := Lib.hid (OZ.below HOR.out hbt.bel)
        have HBB2 := Lib.hid (Box.below HBB.out hbt.bel)
        have HBT := Lib.hid (show Box w wc tb p T from ⟨by have := HBB.out.bel.size; omega, hbt.hi, hbt.c0, hbt.c1, hbt.f0, hbt.f1, below_more HBB.out.bel hbt.bel⟩)
        have t1 := hbt.c0
        have t2 := hbt.c1
        have hlz := OZ.len HOQ2.out
        obtain ⟨zq, hzq⟩ : ∃ zq, (List.replicate (k + 1) ((0 : Int), (0 : Int)) ++ wp p (q.drop (k + 1)))[k]? = some zq := ⟨_, List.getElem?_eq_getElem (by omega)⟩
        obtain ⟨c1q, c2q, c3q, c4q⟩ := OZ.cells HOQ2.out hzq
        have hqs := (HOQ2.out).put k p T
        rw [quo_put p T q k (by rw [hql.out]; omega)] at hqs
        have htq : tb ≠ w1.heap.size := by omega
        have htg : tb ≠ g1 := by omega
        have hqg : w1.heap.size ≠ g1 := by omega
        have hqb3 : w1.heap.size ≠ w3.heap.size := by omega
        have hKq : Keep (· = w1.heap.size) wc ((wc.setCell ⟨w1.heap.size, k * 2, none⟩ (.int .i64 p)).setCell ⟨w1.heap.size, k * 2 + 1, none⟩ (.int .i64 T)) := (setCell_keep wc ⟨w1.heap.size, k * 2, none⟩ _).trans (setCell_keep _ ⟨w1.heap.size, k * 2 + 1, none⟩ _)
        have HQS := Lib.hid hqs
        have HRS := Lib.hid (owns_keep HOR2.out hKq (fun gg hg => by simp only [Value.ownBlock, Option.some.injEq] at hg; omega))
        have HBS := Lib.hid (Box.keep HBB2.out hKq (by omega) ((HBB2.out.bel.setCell (p := ⟨w1.heap.size, k * 2, none⟩) (by have := (HOQ2.out.lt w1.heap.size rfl).1; omega) _).setCell (p := ⟨w1.heap.size, k * 2 + 1, none⟩) (by have := (HOQ2.out.lt w1.heap.size rfl).1; omega) _))
        have HTS := Lib.hid (Box.keep HBT.out hKq (by omega) ((HBT.out.bel.setCell (p := ⟨w1.heap.size, k * 2, none⟩) (by have := (HOQ2.out.lt w1.heap.size rfl).1; omega) _).setCell (p := ⟨w1.heap.size, k * 2 + 1, none⟩) (by have := (HOQ2.out.lt w1.heap.size rfl).1; omega) _))
        have hqlen : Hid ((q.set k T).length = N) := by unfold Hid; rw [List.length_set]; exact hql.out
        clear hbt hlz hzq hqs hKq e1 e2 y1 y2 hne1 hne2 hql
        go_wp2_with (fail)
        obtain ⟨wq, hwq⟩ : ∃ wq, (wc.setCell ⟨w1.heap.size, k * 2, none⟩ (.int .i64 p)).setCell ⟨w1.heap.size, k * 2 + 1, none⟩ (.int .i64 T) = wq := ⟨_, rfl⟩
        rw [hwq] at HQS HRS HBS HTS ⊢
        clear hwq c1q c2q c3q c4q t1 t2 HOQ HOR HBB HOQ2 HOR2 HBB2 HBT
        have hwq1 := HTS.out.hi
        go_loopw [60] (fun v wi => ∃ j : Nat, j ≤ n' ∧ v = .int .i64 (j : Int) ∧ OT wi w.heap.size (some ⟨g1, 0, none⟩) n c1 p (subTo p T r g k j) ∧ Box w wi tb p T ∧ Keep (· = g1) wq wi) (fun v _ => n' - (intOf v).toNat)
        case atStart => exact ⟨0, by omega, rfl, by rw [subTo_zero]; exact HRS.out, HTS.out, Keep.refl _ _⟩
        case round =>
          obtain ⟨j, hj, rfl, hoj, hbj, hkj⟩ := hrel
          obtain ⟨wi, rfl⟩ : ∃ wi : World, wi = wr := ⟨_, rfl⟩
          by_cases hjn : j < n'
          · have hkey : k + j < r.length := by omega
            have hgt := subTo_get p T r g k j hkey
            have hss := subTo_step p T r g k j
            obtain ⟨J, hJ⟩ : ∃ J, k + j = J := ⟨_, rfl⟩
            rw [hJ] at hgt hss hkey
            have hJi : (k : Int) + (j : Int) = (J : Int) := by omega
            have hJ0 : (0 : Int) ≤ (J : Int) := by omega
            have hJ1 : (J : Int) < (n : Int) := by omega
            have hJw : IntKind.i64.wrap (J : Int) = (J : Int) := IntWalk.i64_in _ ⟨by omega, by omega⟩
            have hJw1 : IntKind.i64.wrap ((k : Int) + (j : Int)) = (J : Int) := by rw [hJi]; exact hJw
            clear hJ
            obtain ⟨x, hx⟩ : ∃ x, r.getD J 0 = x := ⟨_, rfl⟩
            rw [hx] at hgt
            have hxv := subTo_mem HP.out hrv.out x (List.mem_of_getElem? hgt)
            obtain ⟨u, hu, hup, huc⟩ := (H'.out.below hbj.bel).cell j hjn
            have huv := HG.out u (List.mem_of_getElem? hu)
            rw [hx, getD_at hu] at hss
            have hz := wp_get (p := p) hgt
            obtain ⟨A1v, hA1v⟩ : ∃ v, T * u % p = v := ⟨_, rfl⟩
            have hA1n : numB p A1v = true := by rw [← hA1v]; exact numB_emod HP.out _
            obtain ⟨A2v, hA2v⟩ : ∃ v, (p - A1v) % p = v := ⟨_, rfl⟩
            have hA2n : numB p A2v = true := by rw [← hA2v]; exact numB_emod HP.out _
            have hsum : (x + A2v) % p = (x - T * u) % p := by
              rw [← hA2v, ← hA1v]
              apply mod_of_near
              have h1 := near_mod p (T * u)
              have h2 := near_mod p (p - T * u % p)
              generalize T * u % p = a at h1 h2 ⊢
              generalize (p - a) % p = b at h2 ⊢
              have h3 := Int.dvd_add (Int.dvd_add h2 (Int.dvd_neg.2 h1)) (Int.dvd_refl p)
              rwa [show b - (p - a) + -(a - T * u) + p = x + b - (x - T * u) by omega] at h3
            have hbox := Below.refl wi.heap.size wi |>.alloc (Nat.le_refl _) (.cells #[.int .i64 p, .int .i64 u] 71)
            have HO0 := Lib.hid (OZ.below hoj hbox)
            have HT0 := Lib.hid (Box.below hbj hbox)
            have HBO := Lib.hid hbox
            have HZ := Lib.hid hz
            have HSS := Lib.hid hss
            have HSM := Lib.hid hsum
            have HA1 := Lib.hid hA1v
            have HA2 := Lib.hid hA2v
            have HVV := Lib.hid (And.intro (And.intro hxv huv) (And.intro hA1n hA2n))
            have HKJ := Lib.hid hkj
            obtain ⟨e1, e2, e3, e4⟩ := OZ.cells (OZ.below hoj hbox) hz
            have t1 := (Box.below hbj hbox).c0
            have t2 := (Box.below hbj hbox).c1
            clear hgt hx hxv hu huv hss hz hA1v hA1n hA2v hA2n hsum hbox hoj hkj hbj
            go_upto_block 3 with (fail)
            go_cut [] (fun wx => OT wx w.heap.size (some ⟨g1, 0, none⟩) n c1 p (subTo p T r g k (j + 1)) ∧ Box w wx tb p T ∧ Keep (· = g1) wq wx)
            case first =>
              go_wp2_with (fail)
              go_region_with (first | (go_at_call 102; refine (res_times p T u _ HTV.out HVV.out.1.2).mono ?_; rw [HA1.out]; rintro e w' ⟨rfl, hB⟩; have HO1 := Lib.hid (OZ.below HO0.out ⟨hB.os, hB.tape, hB.output, hB.size, hB.block⟩); have HT1 := Lib.hid (Box.below HT0.out ⟨hB.os, hB.tape, hB.output, hB.size, hB.block⟩); have HB1 := Lib.hid (below_more HBO.out ⟨hB.os, hB.tape, hB.output, hB.size, hB.block⟩); have x1 := (OZ.cells HO1.out HZ.out).1; have x2 := (OZ.cells HO1.out HZ.out).2.1; clear hB) | (go_at_call 100; refine (res_negative p A1v _ HVV.out.2.1).mono ?_; rw [HA2.out]; rintro e w' ⟨rfl, hB⟩; have HO2 := Lib.hid (OZ.below HO1.out ⟨hB.os, hB.tape, hB.output, hB.size, hB.block⟩); have HT2 := Lib.hid (Box.below HT1.out ⟨hB.os, hB.tape, hB.output, hB.size, hB.block⟩); have HB2 := Lib.hid (below_more HB1.out ⟨hB.os, hB.tape, hB.output, hB.size, hB.block⟩); have x3 := (OZ.cells HO2.out HZ.out).1; have x4 := (OZ.cells HO2.out HZ.out).2.1; clear hB) | (go_at_call 101; refine (res_plus p x A2v _ HVV.out.1.1 HVV.out.2.2).mono ?_; rw [HSM.out]; rintro e w' ⟨rfl, hB⟩; have HO3 := Lib.hid (OZ.below HO2.out ⟨hB.os, hB.tape, hB.output, hB.size, hB.block⟩); have HT3 := Lib.hid (Box.below HT2.out ⟨hB.os, hB.tape, hB.output, hB.size, hB.block⟩); have HB3 := Lib.hid (below_more HB2.out ⟨hB.os, hB.tape, hB.output, hB.size, hB.block⟩); have x5 := (OZ.cells HO3.out HZ.out).1; have x6 := (OZ.cells HO3.out HZ.out).2.1; have x7 := (OZ.cells HO3.out HZ.out).2.2.1; have x8 := (OZ.cells HO3.out HZ.out).2.2.2; clear hB))
              all_goals
                go_wp2_with (fail)
                go_meet
                refine ⟨?_, Box.keep HT3.out ((setCell_keep _ ⟨g1, J * 2, none⟩ _).trans (setCell_keep _ ⟨g1, J * 2 + 1, none⟩ _)) (fun e => htg e) ((HT3.out.bel.setCell (p := ⟨g1, J * 2, none⟩) hg1 _).setCell (p := ⟨g1, J * 2 + 1, none⟩) hg1 _), HKJ.out.trans (((keep_of_below HB3.out).mono (fun _ _ h => h.elim)).trans ((setCell_keep _ ⟨g1, J * 2, none⟩ _).trans (setCell_keep _ ⟨g1, J * 2 + 1, none⟩ _)))⟩
                have hfin := OZ.put HO3.out J p ((x - T * u) % p)
                rw [wp_set, HSS.out] at hfin
                exact hfin
            case rest =>
            obtain ⟨hO9, hB9, hK9⟩ := hcut
            have HO9 := Lib.hid hO9
            have HB9 := Lib.hid hB9
            have HK9 := Lib.hid hK9
            clear hO9 hB9 hK9
            go_wp2_with (fail)
            go_roundw
            case rel => exact ⟨j + 1, by omega, by go_num, HO9.out, HB9.out, HK9.out⟩
            case measure => simp [intOf]; omega
          · obtain rfl : j = n' := by omega
            rw [show subTo p T r g k j = subAt p T r g k by rw [← HL'.out]; rfl] at hoj
            have HO := Lib.hid hoj
            have HQ2 := Lib.hid (owns_keep HQS.out hkj (fun gg hg hs => by simp only [Value.ownBlock, Option.some.injEq] at hg; omega))
            have HB2 := Lib.hid (Box.keep HBS.out hkj (by omega) hbj.bel)
            clear hoj hkj hbj
            go_wp2_with (fail)
            go_roundw
            case rel => exact ⟨(k : Int) - 1, k, q.set k T, subAt p T r g k, by go_num, by omega, by omega, fun _ => by omega, fun _ => by omega, HQ2.out, HO.out, hqlen, HDV.out, by rw [← subTo_full]; exact fun x hx => subTo_mem HP.out hrv.out x hx, HB2.out⟩
            case measure => (first | (simp [intOf]; done) | (simp [intOf]; omega))
      · obtain rfl : m = 0 := hz2 (by omega)
        have hqr : (q, r) = divP p f g := hdiv.out
        have HQR := Lib.hid (show (divP p f g).1 = q ∧ remL p f g = trimL r by unfold remL; rw [← hqr]; exact ⟨rfl, rfl⟩)
        have HOQ := Lib.hid (show OT wo w.heap.size (some ⟨w1.heap.size, 0, none⟩) N N p q from by unfold OT; have := hoq; simpa using this)
        obtain ⟨b9, hI9⟩ := OT.it hor
        have HI9 := Lib.hid hI9
        have HOR := Lib.hid hor
        have HBE := Lib.hid hbx.bel
        have HRL := Lib.hid (OT.len hor)
        have hzn : z < 0 := by omega
        clear hqr hdiv hoq hor hI9 hbx hz1 hz2 hrv
        go_wp2_with (fail)
        refine (trimmed_any p _ n c1 b9 r _ HI9.out).mono ?_
        rintro e w5 ⟨rfl, hB5⟩
        have hT := OT.take (OZ.below HOR.out hB5) (k := (trimL r).length) (by rw [← HRL.out]; exact trim_le r)
        rw [take_trim r] at hT
        have HT := Lib.hid hT
        have HQ5 := Lib.hid (OZ.below HOQ.out hB5)
        have HB5 := Lib.hid (below_more HBE.out hB5)
        clear hT hB5
        go_wp2_with (fail)
        go_ret2
        rw [HQR.out.1, HQR.out.2]
        exact ⟨_, _, _, _, by rw [hql.out]; rfl, by rw [hql.out]; exact HQ5.out, HT.out, HB5.out⟩
end Go.Proofs.YtecmclaockmgeaaDoor

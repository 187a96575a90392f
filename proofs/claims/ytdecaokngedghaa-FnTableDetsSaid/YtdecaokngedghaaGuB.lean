/-
  The contract of divide.
  The contracts of PolyDivide, of the program and of its model.
  The contract of bits.Len at the numbers up to a million.
  Powers, square by square, from the first bit on.
  The contract of the program's PowerRest.
  The contracts of the model's l2Times and l2Series.
  The contracts of the model's l2Power and PowerRest.
  RecFar: what it answers, and the program's contract.
  The contract of the model's RecFar.
-/
import Derived.Test.YtdecaokngedghaaTi
import Derived.Test.YtdecaokngedghaaSub
import Derived.Test.YtdecaokngedghaaDvS
import Derived.Test.YtdecaokngedghaaPolN
import Derived.OwnWalk
import Derived.Test.YtdecaokngedghaaRows
import Derived.WalkKit
import Derived.ProofKit
import Derived.Lib.Strings
import Derived.Lib.Small
import Derived.Lib.Walk
import Derived.Lib.BitFns
import Derived.Lib.RabinKarpLaws
import Derived.Test.YtdecaokngedghaaPAdd
import Derived.Test.YtdecaokngedghaaTrim
import Derived.Deep.RegionHeld3
import Derived.Test.YtdecaokngedghaaSRPol
import Derived.Test.YtdecaokngedghaaEq
import Derived.Test.YtdecaokngedghaaBxs
import Derived.Test.YtdecaokngedghaaRowV
namespace Go.Proofs.Ytdecaokngedghaa
open Go.RowKit
/-- two rows of numbers with their prime, of the call's own -/
def MadeT2 (p : Int) (Q R : List Int) (w : World) (e : Ending) (w' : World) : Prop :=
  ∃ (A : Option Addr) (c : Nat) (A' : Option Addr) (c' : Nat), e = .returned (.tuple #[.slice A Q.length c, .slice A' R.length c']) ∧ OT w' w.heap.size A Q.length c p Q ∧ OT w' w.heap.size A' R.length c' p R ∧ Below w.heap.size w w'
theorem Box.keep {w w1 w2 : World} {sb : Nat} {p s : Int} {S : Nat → Prop} (h : Box w w1 sb p s) (k : Keep S w1 w2) (hs : ¬ S sb) (hb : Below w.heap.size w w2) : Box w w2 sb p s :=
  ⟨h.lo, Nat.lt_of_lt_of_le h.hi k.size, k.cell h.c0 hs, k.cell h.c1 hs, (k.frozen (p := ⟨sb, 0, none⟩) h.hi hs).trans h.f0, (k.frozen (p := ⟨sb, 1, none⟩) h.hi hs).trans h.f1, hb⟩
theorem quo_put (p t : Int) (q : List Int) (k : Nat) (hk : k < q.length) : (List.replicate (k + 1) ((0 : Int), (0 : Int)) ++ wp p (q.drop (k + 1))).set k (p, t) = List.replicate k (0, 0) ++ wp p ((q.set k t).drop k) := by
  have e : (q.set k t).drop k = t :: q.drop (k + 1) := by
    rw [List.drop_eq_getElem_cons (by rw [List.length_set]; exact hk), List.getElem_set_self]
    congr 1
    rw [List.drop_set_of_lt (by omega)]
  rw [e, List.replicate_succ', List.append_assoc, List.set_append_right _ _ (by simp)]
  simp [wp]
set_option maxRecDepth 100000 in
set_option maxHeartbeats 4000000 in
theorem divide_any (p : Int) (A : Option Addr) (n c b : Nat) (f : List Int) (A' : Option Addr) (n' c' b' : Nat) (g : List Int) (w : World) (h : IT w A n c b p f) (h' : IT w A' n' c' b' p g) (hpr : primeB p = true)
    (hf : ∀ x ∈ f, numB p x = true) (hg : ∀ x ∈ g, numB p x = true) (hn : n ≤ 100000) (hn' : n' ≤ 100000) (h1 : 1 ≤ n') (hlz : co g (g.length - 1) ≠ 0) (hft : trimL f = f) :
    Calls Try.prog 97 #[.slice A n c, .slice A' n' c'] w (MadeT2 p (divP p f g).1 (remL p f g) w) := by
  have hp := prime_ge hpr
  have HL := Lib.hid h.len
  have HL' := Lib.hid h'.len
  have H := Lib.hid h
  have H' := Lib.hid h'
  have HF := Lib.hid hf
  have HG := Lib.hid hg
  have HP := Lib.hid hpr
  have hcap := h.capn
  have hcap' := h'.capn
  have hbig := h.big
  have hbig' := h'.big
  obtain rfl : A' = some ⟨b', 0, none⟩ := by rcases h'.adr with ⟨_, h1, _⟩ | h1 <;> first | omega | exact h1
  obtain ⟨l, hl, hlp, hlc⟩ := h'.cell (n' - 1) (by omega)
  have hlast : co g (g.length - 1) = l := by unfold co; rw [h'.len]; exact getD_at hl
  rw [hlast] at hlz
  have hlv := hg l (List.mem_of_getElem? hl)
  obtain ⟨bk, hbk⟩ : ∃ bk, invM p l = bk := ⟨_, rfl⟩
  have hbkv : numB p bk = true := by rw [← hbk]; exact numB_mk hpr (inv_bd hpr).1 (inv_bd hpr).2
  obtain ⟨N, hN⟩ : ∃ N, divN f g = N := ⟨_, rfl⟩
  have HD := Lib.hid (show divP p f g = divS p g bk N (List.replicate N 0) f by unfold divP; rw [hlast, hbk, hN])
  have HV := Lib.hid (And.intro (And.intro hlv hlz) hbkv)
  have HBK := Lib.hid hbk
  by_cases hlt : n < n'
  · have hN0 : N = 0 := by rw [← hN]; unfold divN; rw [h.len, h'.len, if_neg (by omega)]
    have HR := Lib.hid (show (divP p f g).1 = [] ∧ remL p f g = f by unfold remL; rw [HD.out, hN0]; exact ⟨rfl, hft⟩)
    clear h h' hf hg hl hlast hN hbk hpr hft hlz hlv hbkv hlp hlc
    go_enter Try.func97, Try.ntmps97
    go_wp2_with (fail)
    refine (clone_any p A n c b f _ H.out (by omega)).mono ?_
    rintro e w1 ⟨A1, c1, rfl, hO, hB⟩
    rw [HL.out] at hO ⊢
    have HO := Lib.hid hO
    have HB := Lib.hid hB
    clear hO hB
    go_wp2_with (fail)
    go_ret2
    rw [HR.out.1, HR.out.2]
    exact ⟨none, 0, A1, c1, by rw [HL.out]; rfl, World.ownsRow_nil _ _ _ _, by rw [HL.out]; exact HO.out, HB.out⟩
  · have hNn : N + n' = n + 1 := by rw [← hN]; unfold divN; rw [h.len, h'.len, if_pos (by omega)]; omega
    have hn1 : ((n' : Int) - 1).toNat = n' - 1 := by omega
    have hNi : (n : Int) - ((n' : Int) - 1) = (N : Int) := by omega
    have hmk := run_make_two (P := Try.prog) 54 57 (.int .i64 0) (.int .i64 0) 16 Try.underlying54 infoRes .i64 .i64 N (by omega) (by omega)
    clear h h' hf hg hl hlast hN hbk hpr hft hlz hlv hbkv
    go_enter Try.func97, Try.ntmps97
    go_wp2_with (fail)
    refine (clone_any p A n c b f _ H.out (by omega)).mono ?_
    rintro e w1 ⟨A1, c1, rfl, hO, hB⟩
    rw [HL.out] at hO ⊢
    obtain ⟨g1, rfl, hg1, hg1b, hnc1, hcc1⟩ : ∃ g, A1 = some ⟨g, 0, none⟩ ∧ w.heap.size ≤ g ∧ g < w1.heap.size ∧ n ≤ c1 ∧ c1 ≤ 9223372036854775807 := by
      rcases OZ.adr hO with ⟨_, h1, _⟩ | h1
      · omega
      · exact h1
    have HO := Lib.hid hO
    have HB := Lib.hid hB
    have hs1 := hB.size
    have hBq : Below w1.heap.size w1 (w1.alloc (.cells (madeCells #[.int .i64 0, .int .i64 0] (N * 2)) 57)) := (Below.refl _ _).alloc (Nat.le_refl _) _
    have hlp1 := (keep_of_below hBq).cell ((keep_of_below hB).cell hlp (fun h => h)) (fun h => h)
    have hlc1 := (keep_of_below hBq).cell ((keep_of_below hB).cell hlc (fun h => h)) (fun h => h)
    have HBq := Lib.hid (below_more hB hBq)
    have HOq := Lib.hid (OZ.below hO hBq)
    have HQq := Lib.hid (made_two w1 N (by omega))
    have hsq := hBq.size
    have hszq : (w1.alloc (.cells (madeCells #[.int .i64 0, .int .i64 0] (N * 2)) 57)).heap.size = w1.heap.size + 1 := by simp
    clear hO hB hlp hlc hBq
    go_wp2_with (fail)
    refine (res_back p l _ HV.out.1.1 HV.out.1.2).mono ?_
    rw [HBK.out]
    rintro e w3 ⟨rfl, hB3⟩
    have HO3 := Lib.hid (OZ.below HOq.out hB3)
    have HQ3 := Lib.hid (OZ.mono (OZ.below HQq.out hB3) hs1)
    have HB3 := Lib.hid (below_more HBq.out hB3)
    have hs3 := hB3.size
    have HBX := Lib.hid (Box.new (p := p) (s := bk) HB3.out 57)
    have HO4 := Lib.hid (OZ.below HO3.out ((Below.refl _ _).alloc (Nat.le_refl _) (.cells #[.int .i64 p, .int .i64 bk] 57)))
    have HQ4 := Lib.hid (OZ.below HQ3.out ((Below.refl _ _).alloc (Nat.le_refl _) (.cells #[.int .i64 p, .int .i64 bk] 57)))
    have hg3 : g1 < w3.heap.size := by omega
    have hq3 : w1.heap.size < w3.heap.size := by omega
    clear hB3 hlp1 hlc1 hmk HOq HQq HBq
    go_wp2_with (fail)
    go_loopw [10] (fun v wr => ∃ (z : Int) (m : Nat) (q r : List Int), v = .int .i64 z ∧ m ≤ N ∧ -100001 ≤ z ∧ (0 ≤ z → z + 1 = (m : Int)) ∧ (z < 0 → m = 0) ∧ OZ wr w.heap.size (some ⟨w1.heap.size, 0, none⟩) N N (List.replicate m (0, 0) ++ wp p (q.drop m)) ∧ OT wr w.heap.size (some ⟨g1, 0, none⟩) n c1 p r ∧ Hid (q.length = N) ∧ Hid (divS p g bk m q r = divP p f g) ∧ Hid (∀ x ∈ r, numB p x = true) ∧ Box w wr w3.heap.size p bk) (fun v _ => (intOf v + 1).toNat)
    case atStart => exact ⟨(n : Int) - (n' : Int), N, List.replicate N 0, f, rfl, Nat.le_refl _, by omega, fun _ => by omega, fun _ => by omega, by rw [List.drop_of_length_le (by simp)]; simpa [wp] using HQ4.out, HO4.out, by simp [Hid], HD.out.symm, HF.out, HBX.out⟩
    case round =>
      obtain ⟨z, m, q, r, rfl, hm, hzlo, hz1, hz2, hoq, hor, hql, hdiv, hrv, hbx⟩ := hrel
      obtain ⟨wo, rfl⟩ : ∃ wo : World, wo = wr := ⟨_, rfl⟩
      by_cases hz : 0 ≤ z
      · obtain ⟨k, rfl⟩ : ∃ k : Nat, m = k + 1 := ⟨m - 1, by have := hz1 hz; omega⟩
        obtain rfl : z = (k : Int) := by have := hz1 hz; omega
        have hkn : k + n' ≤ n := by omega
        have hrl := OT.len hor
        obtain ⟨M, hM⟩ : ∃ M : Nat, M = k + n' - 1 := ⟨_, rfl⟩
        have hMi : (k : Int) + ((n' : Int) - 1) = (M : Int) := by omega
        have hMi2 : (k : Int) + (n' : Int) - 1 = (M : Int) := by omega
        have hMw1 : IntKind.i64.wrap ((k : Int) + ((n' : Int) - 1)) = (M : Int) := by rw [hMi]; exact IntWalk.i64_in _ ⟨by omega, by omega⟩
        have hMw2 : wrap64 ((k : Int) + ((n' : Int) - 1)) = (M : Int) := by unfold wrap64; omega
        have hMw : IntKind.i64.wrap (M : Int) = (M : Int) := IntWalk.i64_in _ ⟨by omega, by omega⟩
        have hM0 : (0 : Int) ≤ (M : Int) := by omega
        have hM1 : (M : Int) < (n : Int) := by omega
        obtain ⟨y, hy⟩ : ∃ y, r[M]? = some y := ⟨_, List.getElem?_eq_getElem (by omega)⟩
        have hyv := hrv.out y (List.mem_of_getElem? hy)
        obtain ⟨e1, e2, _, _⟩ := OZ.cells hor (wp_get (p := p) hy)
        obtain ⟨T, hT⟩ : ∃ T, y * bk % p = T := ⟨_, rfl⟩
        have hTv : numB p T = true := by rw [← hT]; exact numB_emod HP.out _
        have hdv : divS p g bk k (q.set k T) (subAt p T r g k) = divP p f g := by
          rw [← hdiv.out]
          show _ = divS p g bk k (q.set k (r.getD (k + g.length - 1) 0 * bk % p)) (subAt p (r.getD (k + g.length - 1) 0 * bk % p) r g k)
          rw [HL'.out, ← hM, getD_at hy, hT]
        have HDV := Lib.hid hdv
        have HT := Lib.hid hT
        have HTV := Lib.hid hTv
        have HYV := Lib.hid hyv
        have HOQ := Lib.hid hoq
        have HOR := Lib.hid hor
        have HBB := Lib.hid hbx
        have y1 := hbx.c0
        have y2 := hbx.c1
        have y3 := hbx.hi
        have hg1o : g1 < wo.heap.size := (hor.lt g1 rfl).2
        have hqo : w1.heap.size < wo.heap.size := (hoq.lt w1.heap.size rfl).2
        have hne1 : wo.heap.size ≠ g1 := by omega
        have hne2 : wo.heap.size ≠ w3.heap.size := by omega
        have HM := Lib.hid hM
        clear hoq hor hdiv hdv hy hyv hT hTv hz1 hz2 hbx hM
        go_upto_region 10 with (fail)
        go_cut [11] (fun v wx => ∃ tb, v = .pointer (some ⟨tb, 0, none⟩) ∧ Box wo wx tb p T)
        case first =>
          go_region_held3 (fun w' => w'.cell? ⟨g1, M * 2, none⟩ = some (.int .i64 p) ∧ w'.cell? ⟨g1, M * 2 + 1, none⟩ = some (.int .i64 y) ∧ w'.cell? ⟨w3.heap.size, 0, none⟩ = some (.int .i64 p) ∧ w'.cell? ⟨w3.heap.size, 1, none⟩ = some (.int .i64 bk)) (first | assumption | exact ⟨e1, e2, y1, y2⟩ | go_keep) ((go_at_call 65; refine (res_times p y bk _ HYV.out HV.out.2).mono ?_; rw [HT.out]; rintro e w' ⟨rfl, hB⟩; have z1 := (keep_of_below hB).cell (p := ⟨g1, M * 2, none⟩) (v := .int .i64 p) (by first | assumption | (simp [*]; done)) (fun h => h); have z2 := (keep_of_below hB).cell (p := ⟨g1, M * 2 + 1, none⟩) (v := .int .i64 y) (by first | assumption | (simp [*]; done)) (fun h => h); have z3 := (keep_of_below hB).cell (p := ⟨w3.heap.size, 0, none⟩) (v := .int .i64 p) (by first | assumption | (simp [*]; done)) (fun h => h); have z4 := (keep_of_below hB).cell (p := ⟨w3.heap.size, 1, none⟩) (v := .int .i64 bk) (by first | assumption | (simp [*]; done)) (fun h => h); have zz := And.intro z1 (And.intro z2 (And.intro z3 z4)); have hcl := cellsOf hB; have hfz := frozenOf hB))
          all_goals
            go_wp2_with (fail)
            go_meet
            first
              | exact ⟨_, rfl, Box.new (w := wo) ⟨hB.os, hB.tape, hB.output, hB.size, hB.block⟩ _⟩
              | exact ⟨_, rfl, Box.put (Box.below (Box.new' (p := 0) (s := 0) (Below.refl wo.heap.size wo) rfl 57) ⟨hB.os, hB.tape, hB.output, by simpa using hB.size, fun k hk => hB.block k (by simpa using hk)⟩)⟩
        case rest =>
        obtain ⟨tb, rfl, hbt⟩ := hcut
        have htlo := hbt.lo
        have hthi := hbt.hi
        have HOQ2 := Lib.hid (OZ.below HOQ.out hbt.bel)
        have HOR2 := Lib.hid (OZ.below HOR.out hbt.bel)
        have HBB2 := Lib.hid (Box.below HBB.out hbt.bel)
        have HBT := Lib.hid (show Box w wc tb p T from ⟨by have := HBB.out.bel.size; omega, hbt.hi, hbt.c0, hbt.c1, hbt.f0, hbt.f1, below_more HBB.out.bel hbt.bel⟩)
        have t1 := hbt.c0
        have t2 := hbt.c1
        have hlz := OZ.len HOQ2.out
        obtain ⟨zq, hzq⟩ : ∃ zq, (List.replicate (k + 1) ((0 : Int), (0 : Int)) ++ wp p (q.drop (k + 1)))[k]? = some zq := ⟨_, List.getElem?_eq_getElem (by omega)⟩
        obtain ⟨c1q, c2q, c3q, c4q⟩ := OZ.cells HOQ2.out hzq
        have hqs := (HOQ2.out).put k p T
        rw [quo_put p T q k (by rw [hql.out]; omega)] at hqs
        have htq : tb ≠ w1.heap.size := by omega
        have htg : tb ≠ g1 := by omega
        have hqg : w1.heap.size ≠ g1 := by omega
        have hqb3 : w1.heap.size ≠ w3.heap.size := by omega
        have hKq : Keep (· = w1.heap.size) wc ((wc.setCell ⟨w1.heap.size, k * 2, none⟩ (.int .i64 p)).setCell ⟨w1.heap.size, k * 2 + 1, none⟩ (.int .i64 T)) := (setCell_keep wc ⟨w1.heap.size, k * 2, none⟩ _).trans (setCell_keep _ ⟨w1.heap.size, k * 2 + 1, none⟩ _)
        have HQS := Lib.hid hqs
        have HRS := Lib.hid (owns_keep HOR2.out hKq (fun gg hg => by simp only [Value.ownBlock, Option.some.injEq] at hg; omega))
        have HBS := Lib.hid (Box.keep HBB2.out hKq (by omega) ((HBB2.out.bel.setCell (p := ⟨w1.heap.size, k * 2, none⟩) (by have := (HOQ2.out.lt w1.heap.size rfl).1; omega) _).setCell (p := ⟨w1.heap.size, k * 2 + 1, none⟩) (by have := (HOQ2.out.lt w1.heap.size rfl).1; omega) _))
        have HTS := Lib.hid (Box.keep HBT.out hKq (by omega) ((HBT.out.bel.setCell (p := ⟨w1.heap.size, k * 2, none⟩) (by have := (HOQ2.out.lt w1.heap.size rfl).1; omega) _).setCell (p := ⟨w1.heap.size, k * 2 + 1, none⟩) (by have := (HOQ2.out.lt w1.heap.size rfl).1; omega) _))
        have hqlen : Hid ((q.set k T).length = N) := by unfold Hid; rw [List.length_set]; exact hql.out
        clear hbt hlz hzq hqs hKq e1 e2 y1 y2 hne1 hne2 hql
        go_wp2_with (fail)
        obtain ⟨wq, hwq⟩ : ∃ wq, (wc.setCell ⟨w1.heap.size, k * 2, none⟩ (.int .i64 p)).setCell ⟨w1.heap.size, k * 2 + 1, none⟩ (.int .i64 T) = wq := ⟨_, rfl⟩
        rw [hwq] at HQS HRS HBS HTS ⊢
        clear hwq c1q c2q c3q c4q t1 t2 HOQ HOR HBB HOQ2 HOR2 HBB2 HBT
        have hwq1 := HTS.out.hi
        go_loopw [60] (fun v wi => ∃ j : Nat, j ≤ n' ∧ v = .int .i64 (j : Int) ∧ OT wi w.heap.size (some ⟨g1, 0, none⟩) n c1 p (subTo p T r g k j) ∧ Box w wi tb p T ∧ Keep (· = g1) wq wi) (fun v _ => n' - (intOf v).toNat)
        case atStart => exact ⟨0, by omega, rfl, by rw [subTo_zero]; exact HRS.out, HTS.out, Keep.refl _ _⟩
        case round =>
          obtain ⟨j, hj, rfl, hoj, hbj, hkj⟩ := hrel
          obtain ⟨wi, rfl⟩ : ∃ wi : World, wi = wr := ⟨_, rfl⟩
          by_cases hjn : j < n'
          · have hkey : k + j < r.length := by omega
            have hgt := subTo_get p T r g k j hkey
            have hss := subTo_step p T r g k j
            obtain ⟨J, hJ⟩ : ∃ J, k + j = J := ⟨_, rfl⟩
            rw [hJ] at hgt hss hkey
            have hJi : (k : Int) + (j : Int) = (J : Int) := by omega
            have hJ0 : (0 : Int) ≤ (J : Int) := by omega
            have hJ1 : (J : Int) < (n : Int) := by omega
            have hJw : IntKind.i64.wrap (J : Int) = (J : Int) := IntWalk.i64_in _ ⟨by omega, by omega⟩
            have hJw1 : IntKind.i64.wrap ((k : Int) + (j : Int)) = (J : Int) := by rw [hJi]; exact hJw
            clear hJ
            obtain ⟨x, hx⟩ : ∃ x, r.getD J 0 = x := ⟨_, rfl⟩
            rw [hx] at hgt
            have hxv := subTo_mem HP.out hrv.out x (List.mem_of_getElem? hgt)
            obtain ⟨u, hu, hup, huc⟩ := (H'.out.below hbj.bel).cell j hjn
            have huv := HG.out u (List.mem_of_getElem? hu)
            rw [hx, getD_at hu] at hss
            have hz := wp_get (p := p) hgt
            obtain ⟨A1v, hA1v⟩ : ∃ v, T * u % p = v := ⟨_, rfl⟩
            have hA1n : numB p A1v = true := by rw [← hA1v]; exact numB_emod HP.out _
            obtain ⟨A2v, hA2v⟩ : ∃ v, (p - A1v) % p = v := ⟨_, rfl⟩
            have hA2n : numB p A2v = true := by rw [← hA2v]; exact numB_emod HP.out _
            have hsum : (x + A2v) % p = (x - T * u) % p := by
              rw [← hA2v, ← hA1v]
              apply mod_of_near
              have h1 := near_mod p (T * u)
              have h2 := near_mod p (p - T * u % p)
              generalize T * u % p = a at h1 h2 ⊢
              generalize (p - a) % p = b at h2 ⊢
              have h3 := Int.dvd_add (Int.dvd_add h2 (Int.dvd_neg.2 h1)) (Int.dvd_refl p)
              rwa [show b - (p - a) + -(a - T * u) + p = x + b - (x - T * u) by omega] at h3
            have hbox := Below.refl wi.heap.size wi |>.alloc (Nat.le_refl _) (.cells #[.int .i64 p, .int .i64 u] 57)
            have HO0 := Lib.hid (OZ.below hoj hbox)
            have HT0 := Lib.hid (Box.below hbj hbox)
            have HBO := Lib.hid hbox
            have HZ := Lib.hid hz
            have HSS := Lib.hid hss
            have HSM := Lib.hid hsum
            have HA1 := Lib.hid hA1v
            have HA2 := Lib.hid hA2v
            have HVV := Lib.hid (And.intro (And.intro hxv huv) (And.intro hA1n hA2n))
            have HKJ := Lib.hid hkj
            obtain ⟨e1, e2, e3, e4⟩ := OZ.cells (OZ.below hoj hbox) hz
            have t1 := (Box.below hbj hbox).c0
            have t2 := (Box.below hbj hbox).c1
            clear hgt hx hxv hu huv hss hz hA1v hA1n hA2v hA2n hsum hbox hoj hkj hbj
            go_upto_block 3 with (fail)
            go_cut [] (fun wx => OT wx w.heap.size (some ⟨g1, 0, none⟩) n c1 p (subTo p T r g k (j + 1)) ∧ Box w wx tb p T ∧ Keep (· = g1) wq wx)
            case first =>
              go_wp2_with (fail)
              go_region_with (first | (go_at_call 65; refine (res_times p T u _ HTV.out HVV.out.1.2).mono ?_; rw [HA1.out]; rintro e w' ⟨rfl, hB⟩; have HO1 := Lib.hid (OZ.below HO0.out ⟨hB.os, hB.tape, hB.output, hB.size, hB.block⟩); have HT1 := Lib.hid (Box.below HT0.out ⟨hB.os, hB.tape, hB.output, hB.size, hB.block⟩); have HB1 := Lib.hid (below_more HBO.out ⟨hB.os, hB.tape, hB.output, hB.size, hB.block⟩); have x1 := (OZ.cells HO1.out HZ.out).1; have x2 := (OZ.cells HO1.out HZ.out).2.1; clear hB) | (go_at_call 117; refine (res_negative p A1v _ HVV.out.2.1).mono ?_; rw [HA2.out]; rintro e w' ⟨rfl, hB⟩; have HO2 := Lib.hid (OZ.below HO1.out ⟨hB.os, hB.tape, hB.output, hB.size, hB.block⟩); have HT2 := Lib.hid (Box.below HT1.out ⟨hB.os, hB.tape, hB.output, hB.size, hB.block⟩); have HB2 := Lib.hid (below_more HB1.out ⟨hB.os, hB.tape, hB.output, hB.size, hB.block⟩); have x3 := (OZ.cells HO2.out HZ.out).1; have x4 := (OZ.cells HO2.out HZ.out).2.1; clear hB) | (go_at_call 118; refine (res_plus p x A2v _ HVV.out.1.1 HVV.out.2.2).mono ?_; rw [HSM.out]; rintro e w' ⟨rfl, hB⟩; have HO3 := Lib.hid (OZ.below HO2.out ⟨hB.os, hB.tape, hB.output, hB.size, hB.block⟩); have HT3 := Lib.hid (Box.below HT2.out ⟨hB.os, hB.tape, hB.output, hB.size, hB.block⟩); have HB3 := Lib.hid (below_more HB2.out ⟨hB.os, hB.tape, hB.output, hB.size, hB.block⟩); have x5 := (OZ.cells HO3.out HZ.out).1; have x6 := (OZ.cells HO3.out HZ.out).2.1; have x7 := (OZ.cells HO3.out HZ.out).2.2.1; have x8 := (OZ.cells HO3.out HZ.out).2.2.2; clear hB))
              all_goals
                go_wp2_with (fail)
                go_meet
                refine ⟨?_, Box.keep HT3.out ((setCell_keep _ ⟨g1, J * 2, none⟩ _).trans (setCell_keep _ ⟨g1, J * 2 + 1, none⟩ _)) (fun e => htg e) ((HT3.out.bel.setCell (p := ⟨g1, J * 2, none⟩) hg1 _).setCell (p := ⟨g1, J * 2 + 1, none⟩) hg1 _), HKJ.out.trans (((keep_of_below HB3.out).mono (fun _ _ h => h.elim)).trans ((setCell_keep _ ⟨g1, J * 2, none⟩ _).trans (setCell_keep _ ⟨g1, J * 2 + 1, none⟩ _)))⟩
                have hfin := OZ.put HO3.out J p ((x - T * u) % p)
                rw [wp_set, HSS.out] at hfin
                exact hfin
            case rest =>
            obtain ⟨hO9, hB9, hK9⟩ := hcut
            have HO9 := Lib.hid hO9
            have HB9 := Lib.hid hB9
            have HK9 := Lib.hid hK9
            clear hO9 hB9 hK9
            go_wp2_with (fail)
            go_roundw
            case rel => exact ⟨j + 1, by omega, by go_num, HO9.out, HB9.out, HK9.out⟩
            case measure => simp [intOf]; omega
          · obtain rfl : j = n' := by omega
            rw [show subTo p T r g k j = subAt p T r g k by rw [← HL'.out]; rfl] at hoj
            have HO := Lib.hid hoj
            have HQ2 := Lib.hid (owns_keep HQS.out hkj (fun gg hg hs => by simp only [Value.ownBlock, Option.some.injEq] at hg; omega))
            have HB2 := Lib.hid (Box.keep HBS.out hkj (by omega) hbj.bel)
            clear hoj hkj hbj
            go_wp2_with (fail)
            go_roundw
            case rel => exact ⟨(k : Int) - 1, k, q.set k T, subAt p T r g k, by go_num, by omega, by omega, fun _ => by omega, fun _ => by omega, HQ2.out, HO.out, hqlen, HDV.out, by rw [← subTo_full]; exact fun x hx => subTo_mem HP.out hrv.out x hx, HB2.out⟩
            case measure => (first | (simp [intOf]; done) | (simp [intOf]; omega))
      · obtain rfl : m = 0 := hz2 (by omega)
        have hqr : (q, r) = divP p f g := hdiv.out
        have HQR := Lib.hid (show (divP p f g).1 = q ∧ remL p f g = trimL r by unfold remL; rw [← hqr]; exact ⟨rfl, rfl⟩)
        have HOQ := Lib.hid (show OT wo w.heap.size (some ⟨w1.heap.size, 0, none⟩) N N p q from by unfold OT; have := hoq; simpa using this)
        obtain ⟨b9, hI9⟩ := OT.it hor
        have HI9 := Lib.hid hI9
        have HOR := Lib.hid hor
        have HBE := Lib.hid hbx.bel
        have HRL := Lib.hid (OT.len hor)
        have hzn : z < 0 := by omega
        clear hqr hdiv hoq hor hI9 hbx hz1 hz2 hrv
        go_wp2_with (fail)
        refine (trimmed_any p _ n c1 b9 r _ HI9.out).mono ?_
        rintro e w5 ⟨rfl, hB5⟩
        have hT := OT.take (OZ.below HOR.out hB5) (k := (trimL r).length) (by rw [← HRL.out]; exact trim_le r)
        rw [take_trim r] at hT
        have HT := Lib.hid hT
        have HQ5 := Lib.hid (OZ.below HOQ.out hB5)
        have HB5 := Lib.hid (below_more HBE.out hB5)
        clear hT hB5
        go_wp2_with (fail)
        go_ret2
        rw [HQR.out.1, HQR.out.2]
        exact ⟨_, _, _, _, by rw [hql.out]; rfl, by rw [hql.out]; exact HQ5.out, HT.out, HB5.out⟩
end Go.Proofs.Ytdecaokngedghaa
namespace Go.Proofs.Ytdecaokngedghaa
open Go.RowKit
theorem divS_len (p : Int) (g : List Int) (bk : Int) : ∀ (k : Nat) (q r : List Int), (divS p g bk k q r).1.length = q.length
  | 0, q, r => rfl
  | k + 1, q, r => by
    show (divS p g bk k (q.set k _) _).1.length = _
    rw [divS_len p g bk k, List.length_set]
theorem divP_len (p : Int) (f g : List Int) : (divP p f g).1.length = divN f g := by
  unfold divP; rw [divS_len, List.length_replicate]
theorem quo_full {p : Int} {f g : List Int} (hf : polB p f = true) (hg : polB p g = true) (h1 : 1 ≤ g.length) : (divP p f g).1 = quoL p f g := by
  obtain ⟨q1, q2, q3, q4, q5⟩ := div_law (polB_ser hf) hg h1
  have hlen := divP_len p f g
  symm
  unfold quoL
  refine trim_pol ?_
  by_cases hN : divN f g = 0
  · left; rw [hlen, hN]
  right
  intro h0
  have hNn : divN f g + g.length = f.length + 1 := by unfold divN at hN ⊢; split at hN <;> (split <;> omega)
  have hq0 : ∀ k, divN f g - 1 ≤ k → co (quoL p f g) k = 0 := fun k hk => by
    by_cases e : k = divN f g - 1
    · rw [e]; unfold quoL; rw [co_trim, ← hlen]; exact h0
    · exact co_far (by omega)
  have h5 := q5 (f.length - 1)
  have hcv : cv (co g) (co (quoL p f g)) (f.length - 1) = 0 := by
    rw [show f.length - 1 = (g.length - 1) + (divN f g - 1) by omega, cv_top (fun k hk => co_far (by omega)) (fun k hk => hq0 k (by omega)), hq0 _ (Nat.le_refl _), Int.mul_zero]
  rw [hcv, co_far (f := remL p f g) (by omega)] at h5
  simp only [Int.add_zero, Int.sub_zero] at h5
  have hb := co_bd (polB_ser hf) (f.length - 1)
  have hz := near_zero h5 hb.1 hb.2
  rcases polB_last hf with h | h
  · omega
  · exact h hz
def polDiv (p : Int) (f g : List Int) : Option (List Int × List Int) := if polB p f = true ∧ polB p g = true ∧ g.length ≠ 0 then some (quoL p f g, remL p f g) else none
theorem polDiv_bd (p : Int) (f g : List Int) : ((polDiv p f g).getD ([], [])).1.length ≤ 1048576 ∧ ((polDiv p f g).getD ([], [])).2.length ≤ 1048576 := by
  unfold polDiv
  split
  · rename_i h
    obtain ⟨q1, q2, _, _, _⟩ := div_law (polB_ser h.1) h.2.1 (by have := h.2.2; omega)
    have h1 := (serB_true (polB_ser q1)).2.1
    have h2 := (serB_true (polB_ser q2)).2.1
    exact ⟨by show (quoL p f g).length ≤ _; omega, by show (remL p f g).length ≤ _; omega⟩
  · simp
/-- two rows and whether there are -/
def MadeO2 (R : Option (List Int × List Int)) (w : World) (e : Ending) (w' : World) : Prop :=
  ∃ (A : Option Addr) (c : Nat) (A' : Option Addr) (c' : Nat), e = .returned (.tuple #[.slice A (R.getD ([], [])).1.length c, .slice A' (R.getD ([], [])).2.length c', .bool R.isSome]) ∧ OI w' w.heap.size A (R.getD ([], [])).1.length c (R.getD ([], [])).1 ∧ OI w' w.heap.size A' (R.getD ([], [])).2.length c' (R.getD ([], [])).2 ∧ Apart (.slice A (R.getD ([], [])).1.length c) (.slice A' (R.getD ([], [])).2.length c') ∧ Below w.heap.size w w'
theorem made2_no {w w1 : World} (hb : Below w.heap.size w w1) : MadeO2 none w (.returned (.tuple #[.slice (some ⟨w1.heap.size, 0, none⟩) 0 0, .slice (some ⟨w1.heap.size + 1, 0, none⟩) 0 0, .bool false])) ((w1.alloc (.cells #[] 3)).alloc (.cells #[] 3)) := by
  have h2 : OI ((w1.alloc (.cells #[] 3)).alloc (.cells #[] 3)) (w1.alloc (.cells #[] 3)).heap.size (some ⟨(w1.alloc (.cells #[] 3)).heap.size, 0, none⟩) 0 0 [] := OI.empty _
  have e : (w1.alloc (.cells #[] 3)).heap.size = w1.heap.size + 1 := by simp
  rw [e] at h2
  exact ⟨_, 0, _, 0, rfl, owns_mono (World.ownsRow.alloc (OI.empty w1) _) hb.size, owns_mono h2 (by have := hb.size; omega), .inr (by simp [Value.ownBlock]), (hb.alloc hb.size _).alloc (by have := hb.size; simp; omega) _⟩
end Go.Proofs.Ytdecaokngedghaa
namespace Go.Proofs.Ytdecaokngedghaa
open Go.RowKit
theorem tab_len (b : Int) (h : b.toNat < Lib.len8tab.size) : ((Lib.len8tab[b.toNat]'h).toNat : Int) = Lib.len8 b := by
  unfold Lib.len8; rw [getElem?_pos Lib.len8tab b.toNat h]; rfl
set_option maxHeartbeats 4000000 in
set_option maxRecDepth 100000 in
theorem len64_any (x : Int) (w : World) (h0 : 0 ≤ x) (h1 : x ≤ 1000000) :
    Calls Try.prog 101 #[.int .u64 x] w fun e w' => e = .returned (.int .i64 (Lib.bitLen x.toNat)) ∧ w = w' := by
  go_enter Try.func101, Try.ntmps101
  by_cases c1 : x < 256
  · go_wp2
    go_ret
    refine ⟨congrArg Ending.returned (congrArg (Value.int IntKind.i64) ?_), rfl⟩
    rw [tab_len, Lib.len8_of (x) (by omega) (by omega)]
    have l := Lib.bitLen_le8' x (by omega) (by omega)
    unfold wrap64
    omega
  by_cases c2 : x < 65536
  · have hi : 0 ≤ x / 256 ∧ x / 256 < (Lib.len8tab.size : Int) := by have := Lib.len8tab_size; omega
    go_wp2
    go_ret
    refine ⟨congrArg Ending.returned (congrArg (Value.int IntKind.i64) ?_), rfl⟩
    rw [tab_len, Lib.len8_of (x / 256) (by omega) (by omega)]
    have e : (x / 256).toNat = x.toNat / 256 := by omega
    have l := Lib.bitLen_le8' (x / 256) (by omega) (by omega)
    have s := Lib.bitLen_shift8 x.toNat (by omega) (by omega)
    rw [e] at l ⊢
    unfold wrap64
    omega
  · have hi : 0 ≤ x / 65536 ∧ x / 65536 < (Lib.len8tab.size : Int) := by have := Lib.len8tab_size; omega
    go_wp2
    go_ret
    refine ⟨congrArg Ending.returned (congrArg (Value.int IntKind.i64) ?_), rfl⟩
    rw [tab_len, Lib.len8_of (x / 65536) (by omega) (by omega)]
    have e : (x / 65536).toNat = x.toNat / 65536 := by omega
    have l := Lib.bitLen_le8' (x / 65536) (by omega) (by omega)
    have s := Lib.bitLen_shift16 x.toNat (by omega) (by omega)
    rw [e] at l ⊢
    unfold wrap64
    omega
theorem len_any (x : Int) (w : World) (h0 : 0 ≤ x) (h1 : x ≤ 1000000) :
    Calls Try.prog 96 #[.int .u64 x] w fun e w' => e = .returned (.int .i64 (Lib.bitLen x.toNat)) ∧ w = w' := by
  go_enter Try.func96, Try.ntmps96
  go_wp2_with (fail)
  refine (len64_any x _ h0 h1).mono ?_
  rintro e w' ⟨rfl, rfl⟩
  go_wp2_with (fail)
  go_ret
  exact ⟨rfl, rfl⟩
end Go.Proofs.Ytdecaokngedghaa
namespace Go.Proofs.Ytdecaokngedghaa
open Go.RowKit
theorem mulR_law' {p : Int} {g a b : List Int} (hg : polB p g = true) (h1 : 1 ≤ g.length) (hgl : g.length ≤ 12) (ha : polB p a = true) (hb : polB p b = true) (hal : a.length < g.length) (hbl : b.length ≤ g.length) :
    polB p (mulR p g a b) = true ∧ (mulR p g a b).length < g.length ∧ CG p (co g) (co (mulR p g a b)) (cv (co a) (co b)) ∧ trimL (tmsL p a b) = tmsL p a b ∧ polB p (tmsL p a b) = true := by
  have ht : polB p (tmsL p a b) = true := tmsL_pol ha hb (by unfold tmsN; split <;> omega)
  have e := trim_pol (polB_last ht)
  obtain ⟨_, r2, _, r4, _⟩ := div_law (polB_ser ht) hg h1
  unfold mulR
  rw [e]
  refine ⟨r2, r4, (CG.rem (polB_ser ht) hg h1).symm.trans (CG.near fun k => ?_), rfl, ht⟩
  rw [co_tmsL]; exact near_mod _ _
/-- a row is the rest of the power with this exponent -/
def PS (p : Int) (g R : List Int) (e : Nat) : Prop := polB p R = true ∧ R.length < g.length ∧ CG p (co g) (co R) (mono e)
theorem one_pol {p : Int} (hp : primeB p = true) : polB p [1] = true ∧ polB p [0, 1] = true := by
  obtain ⟨h1, h2⟩ := serB_one hp
  exact ⟨polB_of h1 (.inr (by decide)), polB_of h2 (.inr (by decide))⟩
theorem co_one : co [1] = mono 0 := by
  funext k
  match k with
  | 0 => rfl
  | k + 1 => unfold co mono; simp
theorem co_var : co [0, 1] = mono 1 := by
  funext k
  match k with
  | 0 => rfl
  | 1 => rfl
  | k + 2 => unfold co mono; simp
theorem mono_far (k : Nat) : ∀ j, k + 1 ≤ j → mono k j = 0 := fun j hj => by unfold mono; rw [if_neg (by omega)]
theorem ps_one {p : Int} {g : List Int} (hp : primeB p = true) (h2 : 2 ≤ g.length) : PS p g [1] 0 := ⟨(one_pol hp).1, (show 1 < g.length by omega), by rw [co_one]; exact CG.refl _ _ _⟩
theorem ps_sq {p : Int} {g R : List Int} {e : Nat} (hg : polB p g = true) (h1 : 2 ≤ g.length) (hgl : g.length ≤ 12) (h : PS p g R e) : PS p g (mulR p g R R) (e + e) := by
  obtain ⟨r1, r2, r3⟩ := h
  obtain ⟨s1, s2, s3, _⟩ := mulR_law' hg (by omega) hgl r1 r1 r2 (by omega)
  have := s3.trans (r3.mul2 r3 (fun k hk => co_far hk) (mono_far e))
  rw [show cv (mono e) (mono e) = mono (e + e) from funext (mono_cv e e)] at this
  exact ⟨s1, s2, this⟩
theorem ps_var {p : Int} {g R : List Int} {e : Nat} (hg : polB p g = true) (h1 : 2 ≤ g.length) (hgl : g.length ≤ 12) (h : PS p g R e) : PS p g (mulR p g R [0, 1]) (e + 1) := by
  obtain ⟨r1, r2, r3⟩ := h
  have hp := (serB_true (polB_ser hg)).1
  obtain ⟨s1, s2, s3, _⟩ := mulR_law' hg (by omega) hgl r1 (one_pol hp).2 r2 (by simpa using h1)
  have hv : CG p (co g) (co [0, 1]) (mono 1) := by rw [co_var]; exact CG.refl _ _ _
  have := s3.trans (r3.mul2 hv (fun k hk => co_far hk) (mono_far e))
  rw [show cv (mono e) (mono 1) = mono (e + 1) from funext (mono_cv e 1)] at this
  exact ⟨s1, s2, this⟩
theorem ps_end {p : Int} {g R : List Int} {n : Nat} (hg : polB p g = true) (h1 : 2 ≤ g.length) (hgl : g.length ≤ 12) (h : PS p g R n) : R = powR p g n := by
  obtain ⟨r1, r2, r3⟩ := h
  obtain ⟨s1, s2, s3⟩ := powR_law hg (by omega) hgl n
  exact CG.same hg (by omega) r1 s1 r2 s2 (r3.trans s3.symm)
theorem lt_aux : ∀ (f x : Nat), x < 2 ^ f → x < 2 ^ Lib.bitLenAux f x
  | 0, x, h => by simpa [Lib.bitLenAux] using h
  | f + 1, x, h => by
    unfold Lib.bitLenAux
    split
    · rename_i h0; subst h0; simp
    · have := lt_aux f (x / 2) (by rw [Nat.pow_succ] at h; omega)
      rw [Nat.add_comm, Nat.pow_succ]
      omega
theorem lt_bitLen {x : Nat} (h : x ≤ 1000000) : x < 2 ^ Lib.bitLen x := lt_aux 64 x (Nat.lt_of_le_of_lt h (by decide))
theorem bitLen_small {x : Nat} (h : x ≤ 1000000) : Lib.bitLen x ≤ 20 := Lib.bitLenAux_le 64 x 20 (Nat.lt_of_le_of_lt h (by decide))
theorem bit_step (n m : Nat) : n / 2 ^ m = n / 2 ^ (m + 1) + n / 2 ^ (m + 1) + n / 2 ^ m % 2 := by
  rw [Nat.pow_succ, ← Nat.div_div_eq_div_mul]; omega
def powO (p : Int) (g : List Int) (n : Int) : Option (List Int) := if polB p g = true ∧ 2 ≤ g.length ∧ g.length ≤ 12 ∧ 0 ≤ n ∧ n ≤ 1000000 then some (powR p g n.toNat) else none
theorem powO_bd (p : Int) (g : List Int) (n : Int) : ((powO p g n).getD []).length ≤ 1048576 := by
  unfold powO
  split
  · rename_i h
    have := (powR_law h.1 (by omega) h.2.2.1 n.toNat).2.1
    simp only [Option.getD_some]; omega
  · simp
end Go.Proofs.Ytdecaokngedghaa
namespace Go.Proofs.Ytdecaokngedghaa
open Go.RowKit
theorem IA.fresh1 {w : World} (x : Int) : IA (w.alloc (.cells #[.int .i64 x] 3)) (some ⟨w.heap.size, 0, none⟩) 1 w.heap.size 0 [x] := by
  have h := World.ownsRow_lit (e := 3) (base := w.heap.size) (size := 1) w #[.int .i64 x] 1 (Nat.le_refl _) (by unfold maxLen; omega) (by simp)
  obtain ⟨b, h1, h2⟩ := OI.iaA (show OI (w.alloc (.cells #[.int .i64 x] 3)) w.heap.size (some ⟨w.heap.size, 0, none⟩) 1 1 [x] by unfold OI ints; exact h)
  rcases h2 with ⟨h3, _⟩ | h3
  · cases h3
  · cases h3; exact h1
theorem IA.fresh2' {w : World} (x y : Int) : IA (w.alloc (.cells #[.int .i64 x, .int .i64 y] 3)) (some ⟨w.heap.size, 0, none⟩) 2 w.heap.size 0 [x, y] := by
  have h := World.ownsRow_lit (e := 3) (base := w.heap.size) (size := 1) w #[.int .i64 x, .int .i64 y] 2 (Nat.le_refl _) (by unfold maxLen; omega) (by simp)
  obtain ⟨b, h1, h2⟩ := OI.iaA (show OI (w.alloc (.cells #[.int .i64 x, .int .i64 y] 3)) w.heap.size (some ⟨w.heap.size, 0, none⟩) 2 2 [x, y] by unfold OI ints; exact h)
  rcases h2 with ⟨h3, _⟩ | h3
  · cases h3
  · cases h3; exact h1
/-- the step of a square, and of a product with the variable: what the two calls want -/
theorem step_facts {p : Int} {g a b : List Int} (hg : polB p g = true) (h2 : 2 ≤ g.length) (hgl : g.length ≤ 12) (ha : polB p a = true) (hb : polB p b = true) (hal : a.length < g.length) (hbl : b.length ≤ g.length) :
    (∀ x ∈ a, numB p x = true) ∧ (∀ x ∈ b, numB p x = true) ∧ (∀ x ∈ trimL (tmsL p a b), numB p x = true) ∧ (trimL (tmsL p a b)).length ≤ 24 ∧ trimL (trimL (tmsL p a b)) = trimL (tmsL p a b) := by
  obtain ⟨_, _, _, e, ht⟩ := mulR_law' hg (by omega) hgl ha hb hal hbl
  rw [e]
  exact ⟨(serB_true (polB_ser ha)).2.2, (serB_true (polB_ser hb)).2.2, (serB_true (polB_ser ht)).2.2, (serB_true (polB_ser ht)).2.1, e⟩
set_option maxRecDepth 100000 in
set_option maxHeartbeats 3000000 in
theorem implPowerRest (p : Int) (A : Option Addr) (n c b o : Nat) (g : List Int) (x : Int) (w : World) (h : IA w A n b o g) :
    Calls Try.prog 74 #[.int .i64 p, .slice A n c, .int .i64 x] w (MadeO (powO p g x) w) := by
  have hl := h.len
  have H := Lib.hid h
  clear h
  rcases hv : polB p g
  · have HV := Lib.hid hv
    have HR := Lib.hid (show powO p g x = none by unfold powO; rw [if_neg (by simp [hv])])
    clear hv
    go_enter Try.func74, Try.ntmps74
    go_wp2_with (fail)
    refine (implPolyValid p A n c b o g _ H.out).mono ?_
    rintro e w1 ⟨rfl, rfl⟩
    rw [HV.out]
    go_wp2_with (fail)
    go_ret2
    rw [HR.out]; exact ⟨none, 0, rfl, World.ownsRow_nil _ _ _ _, Below.refl _ _⟩
  have HV := Lib.hid hv
  by_cases hc : 2 ≤ n ∧ n ≤ 12 ∧ 0 ≤ x ∧ x ≤ 1000000
  case neg =>
    have HR := Lib.hid (show powO p g x = none by unfold powO; rw [if_neg (by rw [hl]; exact fun h => hc h.2)])
    clear hv
    go_enter Try.func74, Try.ntmps74
    go_wp2_with (fail)
    refine (implPolyValid p A n c b o g _ H.out).mono ?_
    rintro e w1 ⟨rfl, rfl⟩
    rw [HV.out]
    by_cases c1 : 2 ≤ n
    · by_cases c2 : n ≤ 12
      · by_cases c3 : 0 ≤ x
        · have c4 : 1000000 < x := by omega
          go_wp2_with (fail)
          go_ret2
          rw [HR.out]; exact ⟨none, 0, rfl, World.ownsRow_nil _ _ _ _, Below.refl _ _⟩
        · go_wp2_with (fail)
          go_ret2
          rw [HR.out]; exact ⟨none, 0, rfl, World.ownsRow_nil _ _ _ _, Below.refl _ _⟩
      · go_wp2_with (fail)
        go_ret2
        rw [HR.out]; exact ⟨none, 0, rfl, World.ownsRow_nil _ _ _ _, Below.refl _ _⟩
    · go_wp2_with (fail)
      go_ret2
      rw [HR.out]; exact ⟨none, 0, rfl, World.ownsRow_nil _ _ _ _, Below.refl _ _⟩
  obtain ⟨hn2, hn12, hx0, hx1⟩ := hc
  obtain ⟨N, rfl⟩ : ∃ N : Nat, x = N := ⟨x.toNat, by omega⟩
  have HR := Lib.hid (show powO p g N = some (powR p g N) by unfold powO; rw [if_pos ⟨hv, by omega, by omega, hx0, hx1⟩]; rfl)
  obtain ⟨hp, _, hgv⟩ := serB_true (polB_ser hv)
  have HP := Lib.hid hp
  have HGV := Lib.hid hgv
  have HGL := Lib.hid (show co g (g.length - 1) ≠ 0 from (polB_last hv).resolve_left (by omega))
  have HG2 := Lib.hid (show 2 ≤ g.length by omega)
  have HG12 := Lib.hid (show g.length ≤ 12 by omega)
  have hbl := bitLen_small (x := N) (by omega)
  have hbt := lt_bitLen (x := N) (by omega)
  obtain ⟨L, hL⟩ : ∃ L, Lib.bitLen N = L := ⟨_, rfl⟩
  rw [hL] at hbl hbt
  have HBT := Lib.hid hbt
  have HL := Lib.hid hL
  have hwL : IntKind.i64.wrap ((L : Int) - 1) = (L : Int) - 1 := IntWalk.i64_in _ ⟨by omega, by omega⟩
  clear hv hp hgv hbt hL
  go_enter Try.func74, Try.ntmps74
  go_wp2_with (fail)
  refine (implPolyValid p A n c b o g _ H.out).mono ?_
  rintro e w1 ⟨rfl, rfl⟩
  rw [HV.out]
  go_wp2_with (fail)
  refine (termsOf_any p A n c b o g _ H.out (by omega)).mono ?_
  rintro e w3 ⟨A3, c3, rfl, hO3, hB3⟩
  rw [hl] at hO3 ⊢
  obtain ⟨b3, hI3⟩ := OT.it hO3
  have HI3 := Lib.hid hI3
  have HB3 := Lib.hid hB3
  clear hO3 hI3 hB3
  go_wp2_with (fail)
  refine (termsOf_any p _ 2 2 _ 0 [0, 1] _ (IA.fresh2' 0 1) (by omega)).mono ?_
  rintro e w4 ⟨A4, c4, rfl, hO4, hB4⟩
  obtain ⟨b4, hI4⟩ := OT.it hO4
  have HI4 := Lib.hid hI4
  have hB4 := ((Below.refl w3.heap.size w3).alloc (Nat.le_refl _) (.cells #[.int .i64 0, .int .i64 1] 3)).trans (hB4.mono (by simp))
  have HI3 := Lib.hid (HI3.out.below hB4)
  have HB4 := Lib.hid (below_more HB3.out hB4)
  clear hO4 hI4 hB4
  go_wp2_with (fail)
  refine (termsOf_any p _ 1 1 _ 0 [1] _ (IA.fresh1 1) (by omega)).mono ?_
  rintro e w5 ⟨A5, c5, rfl, hO5, hB5⟩
  obtain ⟨b5, hI5⟩ := OT.it hO5
  have HI5 := Lib.hid hI5
  have hB5 := ((Below.refl w4.heap.size w4).alloc (Nat.le_refl _) (.cells #[.int .i64 1] 3)).trans (hB5.mono (by simp))
  have HI3 := Lib.hid (HI3.out.below hB5)
  have HI4 := Lib.hid (HI4.out.below hB5)
  have HB5 := Lib.hid (below_more HB4.out hB5)
  clear hO5 hI5 hB5
  go_wp2_with (fail)
  refine (len_any N _ (by omega) (by omega)).mono ?_
  rintro e w6 ⟨rfl, rfl⟩
  rw [show ((N : Int)).toNat = N from rfl, HL.out]
  go_wp2_with (fail)
  go_loopw [10, 11] (fun v i wr => ∃ (m : Nat) (R : List Int) (AR : Option Addr) (cR bR : Nat), m ≤ L ∧ i = .int .i64 ((m : Int) - 1) ∧ v = .slice AR R.length cR ∧ Hid (PS p g R (N / 2 ^ m)) ∧ IT wr AR R.length cR bR p R ∧ Below w5.heap.size w5 wr) (fun _ i _ => (intOf i + 1).toNat)
  case atStart => exact ⟨L, [1], A5, c5, b5, Nat.le_refl _, rfl, rfl, by rw [Nat.div_eq_of_lt HBT.out]; exact ps_one HP.out HG2.out, HI5.out, Below.refl _ _⟩
  case round =>
    obtain ⟨m, R, AR, cR, bR, hm, rfl, rfl, hps, hIR, hBr⟩ := hrel
    have HBR := Lib.hid (below_more HB5.out hBr)
    have HBS := Lib.hid hBr
    have HG3 := Lib.hid (HI3.out.below hBr)
    have HV4 := Lib.hid (HI4.out.below hBr)
    have HIR := Lib.hid hIR
    have hRl := hps.out.2.1
    clear hBr hIR
    cases m with
    | zero =>
      have HE := Lib.hid (show powR p g N = R from (ps_end HV.out HG2.out HG12.out (by have h0 := hps.out; rwa [Nat.pow_zero, Nat.div_one] at h0)).symm)
      go_wp2_with (fail)
      refine (numbersOf_any p AR _ cR bR R _ HIR.out (by omega)).mono ?_
      rintro e w7 ⟨A7, c7, rfl, hO7, hB7⟩
      have HO7 := Lib.hid hO7
      have HB7 := Lib.hid hB7
      clear hO7 hB7
      go_wp2_with (fail)
      go_ret2
      rw [HR.out, HE.out]
      exact ⟨A7, c7, rfl, owns_mono HO7.out HBR.out.size, below_more HBR.out HB7.out⟩
    | succ m =>
      have hgi : ((m + 1 : Nat) : Int) - 1 = (m : Int) := by omega
      rw [hgi]
      have hw2 : IntKind.i64.wrap ((m : Int) - 1) = (m : Int) - 1 := IntWalk.i64_in _ ⟨by omega, by omega⟩
      obtain ⟨f1, _, f3, f4, f5⟩ := step_facts HV.out HG2.out HG12.out hps.out.1 hps.out.1 hRl (by omega)
      obtain ⟨T, hT⟩ : ∃ T, trimL (tmsL p R R) = T := ⟨_, rfl⟩
      rw [hT] at f3 f4 f5
      have HT := Lib.hid hT
      have HF1 := Lib.hid f1
      have HF3 := Lib.hid f3
      have HF5 := Lib.hid f5
      have hq := ps_sq HV.out HG2.out HG12.out hps.out
      obtain ⟨R2, hR2⟩ : ∃ R2, mulR p g R R = R2 := ⟨_, rfl⟩
      have HR2 := Lib.hid (show remL p T g = R2 by rw [← hT]; exact hR2)
      rw [hR2] at hq
      have HQ := Lib.hid hq
      have hR2l := hq.2.1
      have HST := Lib.hid (bit_step N m)
      clear f1 f3 f5 hT hR2 hq
      go_wp2_with (fail)
      refine (times_any p AR _ cR bR R AR _ cR bR R _ HIR.out HIR.out HF1.out HF1.out (by omega) (by omega)).mono ?_
      rw [HT.out]
      rintro e w7 ⟨A7, c7, rfl, hO7, hB7⟩
      obtain ⟨b7, hI7⟩ := OT.it hO7
      have HI7 := Lib.hid hI7
      have HG3 := Lib.hid (HG3.out.below hB7)
      have HV4 := Lib.hid (HV4.out.below hB7)
      have HBR := Lib.hid (below_more HBR.out hB7)
      have HBS := Lib.hid (below_more HBS.out hB7)
      clear hO7 hI7 hB7
      go_wp2_with (fail)
      refine (divide_any p A7 _ c7 b7 T A3 n c3 b3 g _ HI7.out HG3.out HP.out HF3.out HGV.out (by omega) (by omega) (by omega) HGL.out HF5.out).mono ?_
      rw [HR2.out]
      rintro e w8 ⟨A8, c8, A9, c9, rfl, hO8, hO9, hB8⟩
      obtain ⟨b9, hI9⟩ := OT.it hO9
      have HI9 := Lib.hid hI9
      have HG3 := Lib.hid (HG3.out.below hB8)
      have HV4 := Lib.hid (HV4.out.below hB8)
      have HBR := Lib.hid (below_more HBR.out hB8)
      have HBS := Lib.hid (below_more HBS.out hB8)
      clear hO8 hO9 hI9 hB8
      have hbit : bits BinOp.and IntKind.i64 ((N : Int) / 2 ^ m) 1 = ((N / 2 ^ m % 2 : Nat) : Int) := by
        have h0 := and_one (N / 2 ^ m) (by have := Nat.div_le_self N (2 ^ m); omega)
        rwa [Int.natCast_ediv, Int.natCast_pow] at h0
      have HBIT := Lib.hid hbit
      clear hbit
      by_cases h1 : N / 2 ^ m % 2 = 1
      case neg =>
        have h0 : N / 2 ^ m % 2 = 0 := by omega
        have hb1 : (bits BinOp.and IntKind.i64 ((N : Int) / 2 ^ m) 1 == 1) = false := by rw [HBIT.out, h0]; rfl
        have HPS := Lib.hid (show PS p g R2 (N / 2 ^ m) by rw [HST.out, h0]; exact HQ.out)
        clear h0 h1
        go_wp2_with (fail)
        go_roundw
        case rel => exact ⟨m, R2, A9, c9, b9, by omega, rfl, rfl, HPS, HI9.out, HBS.out⟩
        case measure => simp [intOf]
      have hb1 : (bits BinOp.and IntKind.i64 ((N : Int) / 2 ^ m) 1 == 1) = true := by rw [HBIT.out, h1]; rfl
      have HST1 := Lib.hid (show N / 2 ^ m = N / 2 ^ (m + 1) + N / 2 ^ (m + 1) + 1 by have h2 := HST.out; rw [h1] at h2; exact h2)
      clear h1
      obtain ⟨f1, f2, f3, f4, f5⟩ := step_facts (b := [0, 1]) HV.out HG2.out HG12.out HQ.out.1 (one_pol HP.out).2 hR2l HG2.out
      obtain ⟨U, hU⟩ : ∃ U, trimL (tmsL p R2 [0, 1]) = U := ⟨_, rfl⟩
      rw [hU] at f3 f4 f5
      have HU := Lib.hid hU
      have HF1 := Lib.hid f1
      have HF2 := Lib.hid f2
      have HF3 := Lib.hid f3
      have HF5 := Lib.hid f5
      have hq := ps_var HV.out HG2.out HG12.out HQ.out
      obtain ⟨R3, hR3⟩ : ∃ R3, mulR p g R2 [0, 1] = R3 := ⟨_, rfl⟩
      have HR3 := Lib.hid (show remL p U g = R3 by rw [← hU]; exact hR3)
      rw [hR3] at hq
      have hR3l := hq.2.1
      have HPS := Lib.hid (show PS p g R3 (N / 2 ^ m) by rw [HST1.out]; exact hq)
      clear f1 f2 f3 f5 hU hR3 hq
      go_wp2_with (fail)
      refine (times_any p A9 _ c9 b9 R2 A4 _ c4 b4 [0, 1] _ HI9.out HV4.out HF1.out HF2.out (by omega) (by decide)).mono ?_
      rw [HU.out]
      rintro e w10 ⟨A10, c10, rfl, hO10, hB10⟩
      obtain ⟨b10, hI10⟩ := OT.it hO10
      have HI10 := Lib.hid hI10
      have HG3 := Lib.hid (HG3.out.below hB10)
      have HBS := Lib.hid (below_more HBS.out hB10)
      clear hO10 hI10 hB10
      go_wp2_with (fail)
      refine (divide_any p A10 _ c10 b10 U A3 n c3 b3 g _ HI10.out HG3.out HP.out HF3.out HGV.out (by omega) (by omega) (by omega) HGL.out HF5.out).mono ?_
      rw [HR3.out]
      rintro e w11 ⟨A11, c11, A12, c12, rfl, hO11, hO12, hB11⟩
      obtain ⟨b12, hI12⟩ := OT.it hO12
      have HI12 := Lib.hid hI12
      have HBS := Lib.hid (below_more HBS.out hB11)
      clear hO11 hO12 hI12 hB11
      go_wp2_with (fail)
      go_roundw
      case rel => exact ⟨m, R3, A12, c12, b12, by omega, rfl, rfl, HPS, HI12.out, HBS.out⟩
      case measure => simp [intOf]
end Go.Proofs.Ytdecaokngedghaa
namespace Go.Proofs.Ytdecaokngedghaa
open Go.RowKit
end Go.Proofs.Ytdecaokngedghaa
namespace Go.Proofs.Ytdecaokngedghaa
open Go.RowKit
end Go.Proofs.Ytdecaokngedghaa
namespace Go.Proofs.Ytdecaokngedghaa
open Go.RowKit
def farO (p : Int) (T F : List Int) (x : Int) : Int := if recB p T F = true ∧ 0 ≤ x ∧ x ≤ 1000000 then stm p T F x.toNat else -1
theorem farO_bd (p : Int) (T F : List Int) (x : Int) : -1 ≤ farO p T F x ∧ farO p T F x ≤ 13 := by
  unfold farO
  split
  · rename_i h
    have h1 := prime_ge (recB_true h.1).1
    have h2 := numB_bd (stm_num h.1 x.toNat)
    omega
  · omega
def far2 (R F : List Int) (k : Nat) : Int := sigN k (fun j => co R j * co F j)
theorem far2_bd {p : Int} {R F : List Int} {n : Nat} (hR : ∀ x ∈ R, numB p x = true) (hF : ∀ x ∈ F, numB p x = true) (hp : p ≤ 13) (hn : n ≤ R.length) (hl : R.length ≤ F.length) (h8 : F.length ≤ 8) (k : Nat) (hk : k ≤ n) : 0 ≤ far2 R F k ∧ far2 R F k ≤ 1352 := by
  have h : 0 ≤ far2 R F k ∧ far2 R F k ≤ 169 * (k : Int) := sigN_bd fun j hj => by
    have h1 := numB_bd (co_num hR (show j < R.length by omega))
    have h2 := numB_bd (co_num hF (show j < F.length by omega))
    exact mul_bd h1.1 (by omega) h2.1 (by omega)
  omega
theorem far_is {p : Int} {T F : List Int} (h : recB p T F = true) {N : Nat} (hN : N ≤ 1000000) : ((powO p (recP p T) (N : Int)).getD []).length ≤ F.length ∧ (∀ x ∈ (powO p (recP p T) (N : Int)).getD [], numB p x = true) ∧ far2 ((powO p (recP p T) (N : Int)).getD []) F ((powO p (recP p T) (N : Int)).getD []).length % p = stm p T F N := by
  obtain ⟨hp, h6, hl, hT, hF⟩ := recB_true h
  have hg := recP_pol hp h6
  have hgl := recP_len p T
  by_cases h0 : T.length = 0
  · have e : powO p (recP p T) (N : Int) = none := by unfold powO; rw [if_neg (fun h => by have := h.2.1; omega)]
    rw [e]
    obtain rfl : T = [] := List.eq_nil_of_length_eq_zero h0
    obtain rfl : F = [] := List.eq_nil_of_length_eq_zero (by simpa using hl)
    exact ⟨by simp, by simp, by rw [stm_nil]; simp [far2, sigN]⟩
  · have e : powO p (recP p T) (N : Int) = some (powR p (recP p T) N) := by unfold powO; rw [if_pos ⟨hg, by omega, by omega, by omega, by omega⟩]; rfl
    rw [e]
    obtain ⟨h1, h2, h3⟩ := powR_law hg (by omega) (by omega) N
    show (powR p (recP p T) N).length ≤ F.length ∧ (∀ x ∈ powR p (recP p T) N, numB p x = true) ∧ _
    exact ⟨by omega, (serB_true (polB_ser h1)).2.2, far_law (R := powR p (recP p T) N) h (by omega) h3⟩
theorem sumP_any (p : Int) (A : Option Addr) (n c b o : Nat) (xs : List Int) (A' : Option Addr) (n' c' b' o' : Nat) (ys : List Int) (w : World) (h : IA w A n b o xs) (h' : IA w A' n' b' o' ys) (hn : n ≤ n') (hn8 : n' ≤ 8)
    (hp : primeB p = true) (hx : ∀ x ∈ xs, numB p x = true) (hy : ∀ y ∈ ys, numB p y = true) :
    Calls Try.prog 76 #[.int .i64 p, .slice A n c, .slice A' n' c'] w fun e w' => e = .returned (.int .i64 (far2 xs ys n % p)) ∧ ∃ m, w' = w.drewN m := by
  have hpb := prime_ge hp
  have H := Lib.hid h
  have H' := Lib.hid h'
  have HX := Lib.hid hx
  have HY := Lib.hid hy
  have HBD := Lib.hid (far2_bd hx hy hpb.2 (n := n) (by rw [h.len]; omega) (by rw [h.len, h'.len]; omega) (by rw [h'.len]; omega))
  obtain ⟨f, hf⟩ : ∃ f, far2 xs ys = f := ⟨_, rfl⟩
  have HFF := Lib.hid hf
  rw [hf]
  have hf0 : f 0 = 0 := by rw [← hf]; rfl
  clear h h' hx hy hp hf
  go_enter Try.func76, Try.ntmps76
  go_wp2_with (fail)
  go_loopw [7, 11] (fun s i wr => ∃ k : Nat, k ≤ n ∧ i = .int .i64 k ∧ s = .int .i64 (f k) ∧ Hid (∃ m, wr = w.drewN m)) (fun _ i _ => n - (intOf i).toNat)
  case atStart => exact ⟨0, by omega, rfl, by rw [hf0], 0, rfl⟩
  case round =>
    obtain ⟨k, hk, rfl, rfl, hw⟩ := hrel
    have hb := HBD.out k (by omega)
    rw [HFF.out] at hb
    by_cases hlt : k < n
    · obtain rfl := H.out.adr (by omega)
      obtain rfl := H'.out.adr (by omega)
      obtain ⟨x, hx, hc⟩ := (H.out.drewN hw.out).cell k hlt
      obtain ⟨y, hy, hc'⟩ := (H'.out.drewN hw.out).cell k (by omega)
      have hxb := numB_bd (HX.out x (List.mem_of_getElem? hx))
      have hyb := numB_bd (HY.out y (List.mem_of_getElem? hy))
      have hm := mul_bd hxb.1 (by omega) hyb.1 (by omega)
      have hkn' : k < n' := by omega
      have hkn2 : (k : Int) < (n' : Int) := by omega
      have HD := Lib.hid (show f (k + 1) = f k + x * y by
        rw [← HFF.out]
        show far2 xs ys k + co xs k * co ys k = _
        rw [show co xs k = x from getD_at hx, show co ys k = y from getD_at hy])
      clear hx hy
      go_wp2_with (fail)
      go_quiet (fail)
      go_wp2_with (fail)
      go_roundw
      case rel => exact ⟨k + 1, by omega, by go_num, by rw [HD.out], drewN_more hw.out _⟩
      case measure => simp [intOf]; omega
    · obtain rfl : k = n := by omega
      go_wp2_with (fail)
      go_ret
      exact ⟨rfl, hw.out⟩
set_option maxRecDepth 100000 in
set_option maxHeartbeats 2000000 in
theorem implRecFar (v : Value) (p : Int) (T F : List Int) (x : Int) (w : World) (h : RV w v p T F) :
    Calls Try.prog 49 #[v, .int .i64 x] w fun e w' => e = .returned (.int .i64 (farO p T F x)) ∧ Below w.heap.size w w' := by
  obtain ⟨A, n, c, b, o, A', n', c', b', o', rfl, g1, g2⟩ := h
  have H := Lib.hid (show RV w (.agg #[.int .i64 p, .slice A n c, .slice A' n' c']) p T F from ⟨_, _, _, _, _, _, _, _, _, _, rfl, g1, g2⟩)
  have HF2 := Lib.hid g2
  have HL := Lib.hid g1.len
  have HL' := Lib.hid g2.len
  have hbx := Bx.new w (.int .i64 p) (.slice A n c) (.slice A' n' c') 27
  have hB0 := below_new w (.cells #[.int .i64 p, .slice A n c, .slice A' n' c'] 27)
  have HV0 := Lib.hid (H.out.below hB0)
  have HBX := Lib.hid hbx
  have HB0 := Lib.hid hB0
  clear g1 g2 hbx hB0
  rcases hv : recB p T F
  · have HV := Lib.hid hv
    have HE := Lib.hid (show farO p T F x = -1 by unfold farO; rw [if_neg (by simp [hv])])
    clear hv
    go_enter Try.func49, Try.ntmps49
    go_wp2_with (go_at_call 13; refine (implRecValid _ p T F _ HV0.out).mono ?_; rintro e w1 ⟨rfl, hB⟩; rw [HV.out]; have HB := Lib.hid hB; clear hB)
    go_ret
    exact ⟨ret_int HE.out.symm, below_more HB0.out HB.out⟩
  have HV := Lib.hid hv
  by_cases hx : 0 ≤ x ∧ x ≤ 1000000
  case neg =>
    have HE := Lib.hid (show farO p T F x = -1 by unfold farO; rw [if_neg (by simp only [not_and]; intro _; omega)])
    have hc : (x < 0) ∨ (¬ x < 0 ∧ 1000000 < x) := by omega
    clear hx hv
    go_enter Try.func49, Try.ntmps49
    rcases hc with hc | ⟨hc, hc2⟩
    · go_wp2_with (go_at_call 13; refine (implRecValid _ p T F _ HV0.out).mono ?_; rintro e w1 ⟨rfl, hB⟩; rw [HV.out]; have HB := Lib.hid hB; clear hB)
      go_ret
      exact ⟨ret_int HE.out.symm, below_more HB0.out HB.out⟩
    · go_wp2_with (go_at_call 13; refine (implRecValid _ p T F _ HV0.out).mono ?_; rintro e w1 ⟨rfl, hB⟩; rw [HV.out]; have HB := Lib.hid hB; clear hB)
      go_ret
      exact ⟨ret_int HE.out.symm, below_more HB0.out HB.out⟩
  obtain ⟨N, rfl⟩ : ∃ m : Nat, x = (m : Int) := ⟨x.toNat, by omega⟩
  have hN : N ≤ 1000000 := by omega
  obtain ⟨hp, h6, hl, hT, hF⟩ := recB_true hv
  have HE := Lib.hid (show farO p T F (N : Int) = stm p T F N by unfold farO; rw [if_pos ⟨hv, hx⟩]; rfl)
  have HPO := Lib.hid (show polyO p T F = recP p T by unfold polyO; rw [if_pos hv])
  obtain ⟨ob, hob⟩ : ∃ ob, powO p (recP p T) (N : Int) = ob := ⟨_, rfl⟩
  have hfar := far_is hv hN
  rw [hob] at hfar
  obtain ⟨R, hR⟩ : ∃ R, ob.getD [] = R := ⟨_, rfl⟩
  rw [hR] at hfar
  have HFAR := Lib.hid hfar
  have HOB := Lib.hid hob
  have HR := Lib.hid hR
  have HP := Lib.hid hp
  have HF := Lib.hid hF
  have hn8 : n' ≤ 8 := by rw [← HL'.out]; omega
  have hne0 : ¬ (N : Int) < 0 := by omega
  have hne1 : ¬ 1000000 < (N : Int) := by omega
  clear hx hv hp hT hF hl hob hR hfar
  go_enter Try.func49, Try.ntmps49
  go_wp2_with (go_at_call 13; refine (implRecValid _ p T F _ HV0.out).mono ?_; rintro e w1 ⟨rfl, hB⟩; rw [HV.out]; have HB1 := Lib.hid (below_more HB0.out hB); have HBX1 := Lib.hid (HBX.out.below hB); clear hB)
  have HVd := Lib.hid (H.out.below HB1.out.drew)
  have ZS := HBX1.out
  have Zd := HBX1.out.drew
  have Q1 : True := trivial
  unfold Bx at ZS Zd
  go_region_held3 (fun w' => w'.cell? ⟨w.heap.size, 0, none⟩ = some (.int .i64 p) ∧ w'.cell? ⟨w.heap.size, 1, none⟩ = some (.slice A n c) ∧ w'.cell? ⟨w.heap.size, 2, none⟩ = some (.slice A' n' c')) (first | assumption | exact ZB | exact ZA | exact Zd | exact ZS | go_keep)
    (first
      | (clear Q1; go_at_call 75; refine (implRecPoly _ p T F _ HVd.out).mono ?_; rw [HPO.out]; rintro e wA ⟨A5, c5, rfl, hO, hB⟩; obtain ⟨b5, hI⟩ := hO.ia; have HI := Lib.hid hI; have HB2 := Lib.hid (below_more HB1.out.drew hB); have HBX2 := Lib.hid (HBX1.out.drew.below hB); have ZA := HBX2.out; unfold Bx at ZA; have Q2 : True := trivial; clear hO hI hB)
      | (clear Q2; go_at_call 74; refine (implPowerRest p _ _ _ _ _ (recP p T) (N : Int) _ HI.out).mono ?_; rw [HOB.out]; rintro e wB ⟨A6, c6, he, hO, hB⟩; rw [HR.out] at he hO; subst he; obtain ⟨b6, hI⟩ := hO.ia; have HI6 := Lib.hid hI; have HB3 := Lib.hid (below_more HB2.out hB); have HBX3 := Lib.hid (HBX2.out.below hB); have ZB := HBX3.out; unfold Bx at ZB; clear hO hI hB))
  all_goals
    clear ZS Zd
    obtain ⟨y0, y1, y2⟩ := HBX3.out
    go_wp2_with (fail)
    refine (sumP_any p A6 R.length c6 b6 0 R A' n' c' b' o' F _ HI6.out (HF2.out.below HB3.out) (by rw [← HL'.out]; exact HFAR.out.1) hn8 HP.out HFAR.out.2.1 HF.out).mono ?_
    rintro e wC ⟨rfl, hw⟩
    have HB4 := Lib.hid (below_drawn HB3.out hw)
    clear hw
    go_wp2_with (fail)
    go_ret
    exact ⟨ret_int (by rw [HFAR.out.2.2, HE.out]), HB4.out⟩
end Go.Proofs.Ytdecaokngedghaa
namespace Go.Proofs.Ytdecaokngedghaa
open Go.RowKit
end Go.Proofs.Ytdecaokngedghaa

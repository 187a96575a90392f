/-
  The walk of the law of SeriesTimes.
-/
import Derived.Deep.RegionHeld3
import Derived.Test.YtmmadmfpbancmabISer
import Derived.Test.YtmmadmfpbancmabDrawQ
import Derived.Test.YtmmadmfpbancmabSame
import Derived.Test.YtmmadmfpbancmabWSeriesBack
import Derived.Test.YtmmadmfpbancmabInv
namespace Go.Proofs.Ytmmadmfpbancmab
open Go.RowKit
theorem IA.drew {w : World} {A : Option Addr} {n b o : Nat} {xs : List Int} (h : IA w A n b o xs) : IA w.drew A n b o xs := ⟨h.len, h.adr, h.big, h.cell⟩
theorem below_drew' {B : Nat} {w w1 : World} (h : Below B w w1) : Below B w w1.drew := ⟨h.os, h.tape, h.output, h.size, h.block⟩
theorem IA.take' {w : World} {A : Option Addr} {n b o : Nat} {xs : List Int} (h : IA w A n b o xs) {k : Nat} (hk : k ≤ n) : IA w A k b o (xs.take k) := h.take hk
theorem serT_comm (p : Int) (s t : List Int) : serT p t s = serT p s t := by
  unfold serT
  rw [serL_comm p t s]
  by_cases h : serB p s = true ∧ serB p t = true
  · rw [if_pos h, if_pos ⟨h.2, h.1⟩]
  · rw [if_neg h, if_neg (fun h2 => h ⟨h2.2, h2.1⟩)]
theorem serB_take {p : Int} {s : List Int} (h : serB p s = true) (n : Nat) : serB p (s.take n) = true := by
  obtain ⟨h1, h2, h3⟩ := serB_true h
  exact serB_mk h1 (by rw [List.length_take]; omega) (fun x hx => h3 x (List.mem_of_mem_take hx))
def oneL (n : Nat) : List Int := (List.replicate n 0).set 0 1
theorem oneL_len (n : Nat) : (oneL n).length = n := by simp [oneL]
theorem oneL_serB {p : Int} (hp : primeB p = true) {n : Nat} (hn : n ≤ 24) : serB p (oneL n) = true := by
  have hpb := prime_ge hp
  refine serB_mk hp (by rw [oneL_len]; exact hn) (fun x hx => ?_)
  rcases List.mem_or_eq_of_mem_set hx with h | h
  · rw [(List.mem_replicate.1 h).2]; exact numB_zero hp
  · rw [h]; exact numB_mk hp (by omega) (by omega)
theorem serT_one {p : Int} {s : List Int} (hs : serB p s = true) : serT p s (oneL s.length) = s := by
  obtain ⟨h1, h2, h3⟩ := serB_true hs
  unfold serT
  rw [if_pos ⟨hs, oneL_serB h1 h2⟩]
  refine serL_one hs (oneL_len _) (fun k => ?_)
  by_cases hk : s.length ≤ k
  · exact .inr hk
  · left
    unfold co oneL unitF
    rw [List.getD_eq_getElem?_getD]
    by_cases h0 : k = 0
    · subst h0
      rw [List.getElem?_set_self (by simp; omega), if_pos rfl]; rfl
    · rw [List.getElem?_set_ne (by omega), List.getElem?_replicate, if_pos (by omega), if_neg h0]; rfl
theorem serT_take {p : Int} {s t : List Int} (hs : serB p s = true) (ht : serB p t = true) {n : Nat} (hn : n ≤ min s.length t.length) : serT p (s.take n) (t.take n) = (serT p s t).take n := by
  unfold serT
  rw [if_pos ⟨serB_take hs n, serB_take ht n⟩, if_pos ⟨hs, ht⟩]
  exact serL_take p s t hn
set_option maxRecDepth 100000 in
set_option maxHeartbeats 3000000 in
theorem walkFnSeriesTimes (a : Option Addr) (len cap : Nat) (zs : List Int) (w : World) (h : IsRow .u8 w a len cap zs) :
    Calls Try.prog 7 #[.slice a len cap] w fun e w' => e = .returned (.bool true) ∧ Below w.heap.size w w' := by
  have hm : len ≤ 9223372036854775807 := by have := rowBytes h; unfold maxLen at this; omega
  by_cases hb : 1048576 < len
  · go_enter Try.func7, Try.ntmps7
    go_wp2_with (fail)
    go_ret
    exact ⟨rfl, Below.refl _ _⟩
  have hd0 : decide (1048576 < (len : Int)) = false := by simp; omega
  go_enter Try.func7, Try.ntmps7
  go_wp2_with (fail)
  refine (drawSeriesTimes a len cap zs w h).mono ?_
  rintro e w1 ⟨p, Aa, ca, s, Ab, cb, t, rfl, hp0, hp1, hsl, htl, hO, hO2, hB⟩
  obtain ⟨ba, hRa, hAa⟩ := OI.iaA hO
  obtain ⟨bb, hRb, hAb⟩ := OI.iaA hO2
  have hcapa := OI.capLe hO
  have hcapb := OI.capLe hO2
  obtain ⟨n, hn⟩ : ∃ n, s.length = n := ⟨_, rfl⟩
  obtain ⟨m, hm'⟩ : ∃ m, t.length = m := ⟨_, rfl⟩
  rw [hn] at hRa hsl hcapa ⊢
  rw [hm'] at hRb htl hcapb ⊢
  have HS := Lib.hid hRa
  have HT := Lib.hid hRb
  have HN := Lib.hid hn
  have HM := Lib.hid hm'
  have HAA := Lib.hid hAa
  have HAB := Lib.hid hAb
  obtain ⟨X, hX⟩ : ∃ X, serT p s t = X := ⟨_, rfl⟩
  have HX := Lib.hid hX
  have HXL := Lib.hid (show (serB p s = true ∧ serB p t = true → X.length = min n m) ∧ (¬ (serB p s = true ∧ serB p t = true) → X = []) from ⟨fun h => by rw [← hX]; unfold serT; rw [if_pos h, serL_len, hn, hm'], fun h => by rw [← hX]; unfold serT; rw [if_neg h]⟩)
  have hXb : X.length ≤ 33 := by
    by_cases hc : serB p s = true ∧ serB p t = true
    · rw [HXL.out.1 hc]; omega
    · rw [HXL.out.2 hc]; simp
  clear hRa hRb hO hO2 hX h hn hm' hp0 hp1 hAa hAb
  go_wp2_with (fail)
  refine (implSeriesTimes p Aa n ca ba 0 s Ab m cb bb 0 t _ HS.out HT.out).mono ?_
  rw [HX.out]
  rintro e w_1 ⟨AX, cX, rfl, hO, hBq⟩
  obtain ⟨bX, hRq, hAq⟩ := OI.iaA hO
  have hcapX := OI.capLe hO
  have HADRX := Lib.hid hAq
  have HX_1 := Lib.hid hRq
  have HS_1 := Lib.hid (HS.out.below hBq)
  have HT_1 := Lib.hid (HT.out.below hBq)
  have hK_1 := below_more hB hBq
  clear hO hRq hAq hBq
  skip
  go_wp2_with (fail)
  refine (specSeriesTimes p Aa n ca ba 0 s Ab m cb bb 0 t _ HS_1.out HT_1.out).mono ?_
  rw [HX.out]
  rintro e w_2 ⟨AY, cY, rfl, hO, hBq⟩
  obtain ⟨bY, hRq, hAq⟩ := OI.iaA hO
  have hcapY := OI.capLe hO
  have HADRY := Lib.hid hAq
  have HY_2 := Lib.hid hRq
  have HS_2 := Lib.hid (HS_1.out.below hBq)
  have HT_2 := Lib.hid (HT_1.out.below hBq)
  have HX_2 := Lib.hid (HX_1.out.below hBq)
  have hK_2 := below_more hK_1 hBq
  clear hO hRq hAq hBq
  go_wp2_with (fail)
  refine (sameIntsC AX X.length cX bX 0 X AY X.length cY bY 0 X _ HX_2.out HY_2.out).mono ?_
  rintro e w_3 ⟨rfl, hm_3⟩
  rw [decide_eq_true (rfl : X = X)]
  have HS_3 := Lib.hid (HS_2.out.drewN hm_3)
  have HT_3 := Lib.hid (HT_2.out.drewN hm_3)
  have HX_3 := Lib.hid (HX_2.out.drewN hm_3)
  have HY_3 := Lib.hid (HY_2.out.drewN hm_3)
  have hK_3 := below_drawn hK_2 hm_3
  clear hm_3
  rcases hv : serB p s
  · have HV := Lib.hid hv
    have hX0 := HXL.out.2 (by simp [hv])
    subst hX0
    clear hv
    go_wp2_with (fail)
    refine (specSeriesValid p Aa n ca ba 0 s _ HS_3.out).mono ?_
    rintro e w_4 ⟨rfl, rfl⟩
    rw [HV.out]
    go_wp2_with (fail)
    refine (alive _).mono ?_
    rintro e w_5 ⟨rfl, rfl⟩
    go_wp2_with (fail)
    go_ret
    exact ⟨rfl, hK_3⟩
  rcases hv2 : serB p t
  · have HV := Lib.hid hv
    have HV2 := Lib.hid hv2
    have hX0 := HXL.out.2 (by simp [hv, hv2])
    subst hX0
    clear hv2 hv
    go_wp2_with (fail)
    refine (specSeriesValid p Aa n ca ba 0 s _ HS_3.out).mono ?_
    rintro e w_4 ⟨rfl, rfl⟩
    rw [HV.out]
    go_wp2_with (fail)
    refine (specSeriesValid p Ab m cb bb 0 t _ HT_3.out).mono ?_
    rintro e w_5 ⟨rfl, rfl⟩
    rw [HV2.out]
    go_wp2_with (fail)
    refine (alive _).mono ?_
    rintro e w_6 ⟨rfl, rfl⟩
    go_wp2_with (fail)
    go_ret
    exact ⟨rfl, hK_3⟩
  have HV := Lib.hid hv
  have HV2 := Lib.hid hv2
  have hXmin := HXL.out.1 ⟨hv, hv2⟩
  have HT1 := Lib.hid (show serT p t s = X by rw [serT_comm]; exact HX.out)
  have HT2 := Lib.hid (show serT p s (oneL n) = s by rw [← HN.out]; exact serT_one hv)
  have HT3 := Lib.hid (show ∀ q, q ≤ min n m → serT p (s.take q) (t.take q) = X.take q from fun q hq => by rw [← HX.out]; exact serT_take hv hv2 (by rw [HN.out, HM.out]; exact hq))
  have HXM := Lib.hid hXmin
  have hqle : X.length / 2 ≤ X.length := by omega
  have hqn : X.length / 2 ≤ n := by omega
  have hqm : X.length / 2 ≤ m := by omega
  have hmk := run_make_row' (P := Try.prog) 23 3 (.int .i64 0) 8 Try.underlying23 infoInt rfl .i64 .i64 n (by omega) (by omega)
  clear hv hv2 hXmin
  go_wp2_with (fail)
  refine (specSeriesValid p Aa n ca ba 0 s _ HS_3.out).mono ?_
  rintro e w_4 ⟨rfl, rfl⟩
  rw [HV.out]
  go_wp2_with (fail)
  refine (specSeriesValid p Ab m cb bb 0 t _ HT_3.out).mono ?_
  rintro e w_5 ⟨rfl, rfl⟩
  rw [HV2.out]
  have hone := made_ints w_3 n (by omega)
  have hB1 : Below w_3.heap.size w_3 (w_3.alloc (.cells (madeCells #[.int .i64 0] n) 3)) := (Below.refl _ _).alloc (Nat.le_refl _) _
  by_cases hn0 : n = 0
  · have hlt : ¬ m < n := by omega
    have hd1 : decide ((m : Int) < (n : Int)) = false := decide_eq_false (by omega)
    have hxl : X.length = n := by have := HXM.out; omega
    obtain rfl : X = [] := List.eq_nil_of_length_eq_zero (by omega)
    have HTQ := Lib.hid (show serT p (s.take 0) (t.take 0) = [] by have := HT3.out 0 (by omega); simpa using this)
    have hqle := Nat.le_refl 0
    have hqn := Nat.zero_le n
    have hqm := Nat.zero_le m
    have HONE := Lib.hid (show OI _ w_3.heap.size _ n n (oneL n) from by rw [show oneL n = List.replicate n 0 by rw [hn0]; rfl]; exact hone)
    have hBS := hB1
    obtain ⟨b1, hI1⟩ := HONE.out.ia
    have H1 := Lib.hid hI1
    have HS_6 := Lib.hid (HS_3.out.below hBS)
    have HT_6 := Lib.hid (HT_3.out.below hBS)
    have HX_6 := Lib.hid (HX_3.out.below hBS)
    have HY_6 := Lib.hid (HY_3.out.below hBS)
    have hK_6 := below_more hK_3 hBS
    clear hI1 hone hB1 hBS
    subst hn0
    have hmk0 : ∀ w : World, (Instr.makeSlice 23 (.int .i64 0) (.int .i64 0)).run Try.prog w = .ok (.slice (some ⟨w.heap.size, 0, none⟩) 0 0) (w.alloc (.cells (madeCells #[.int .i64 0] 0) 3)) := hmk
    clear hmk
    have T1 : True := trivial
    have T2 : True := trivial
    have T3 : True := trivial
    have T4 : True := trivial
    have T5 : True := trivial
    have T6 : True := trivial
    have HS_d := Lib.hid (IA.drew HS_6.out)
    have HT_d := Lib.hid (IA.drew HT_6.out)
    have HX_d := Lib.hid (IA.drew HX_6.out)
    have HY_d := Lib.hid (IA.drew HY_6.out)
    have H1_d := Lib.hid (IA.drew H1.out)
    have hK_d := below_drew' hK_6
    go_wp2_with (fail)
    go_region_held3? (fun _ => True) (exact trivial) (first | (clear T1; go_at_call 26; refine (implSeriesTimes p Ab m cb bb 0 t Aa 0 ca ba 0 s _ HT_d.out HS_d.out).mono ?_; rw [HT1.out]; rintro e w_6 ⟨AX2, cX2, rfl, hO, hBq⟩; obtain ⟨bX2, hRq, hAq⟩ := OI.iaA hO; have hcapX2 := OI.capLe hO; have HADRX2 := Lib.hid hAq; have HX2_6 := Lib.hid hRq; have HS_6 := Lib.hid (HS_d.out.below hBq); have HT_6 := Lib.hid (HT_d.out.below hBq); have HX_6 := Lib.hid (HX_d.out.below hBq); have HY_6 := Lib.hid (HY_d.out.below hBq); have H1_6 := Lib.hid (H1_d.out.below hBq); have hK_6 := below_more hK_d hBq; clear hO hRq hAq hBq) | (clear T2; go_at_call 21; refine (sameIntsC AX2 0 cX2 bX2 0 [] AX 0 cX bX 0 [] _ HX2_6.out HX_6.out).mono ?_; rintro e w_7 ⟨rfl, hm_7⟩; rw [decide_eq_true (rfl : ([] : List Int) = [])]; have HS_7 := Lib.hid (HS_6.out.drewN hm_7); have HT_7 := Lib.hid (HT_6.out.drewN hm_7); have HX_7 := Lib.hid (HX_6.out.drewN hm_7); have HY_7 := Lib.hid (HY_6.out.drewN hm_7); have H1_7 := Lib.hid (H1_6.out.drewN hm_7); have HX2_7 := Lib.hid (HX2_6.out.drewN hm_7); have hK_7 := below_drawn hK_6 hm_7; clear hm_7) | (clear T3; go_at_call 26; refine (implSeriesTimes p Aa 0 ca ba 0 s _ 0 0 b1 0 (oneL 0) _ HS_7.out H1_7.out).mono ?_; rw [HT2.out]; rintro e w_8 ⟨AS2, cS2, rfl, hO, hBq⟩; obtain ⟨bS2, hRq, hAq⟩ := OI.iaA hO; have hcapS2 := OI.capLe hO; have HADRS2 := Lib.hid hAq; have HS2_8 := Lib.hid hRq; have HS_8 := Lib.hid (HS_7.out.below hBq); have HT_8 := Lib.hid (HT_7.out.below hBq); have HX_8 := Lib.hid (HX_7.out.below hBq); have HY_8 := Lib.hid (HY_7.out.below hBq); have H1_8 := Lib.hid (H1_7.out.below hBq); have HX2_8 := Lib.hid (HX2_7.out.below hBq); have hK_8 := below_more hK_7 hBq; clear hO hRq hAq hBq; rw [HN.out] at HS2_8 ⊢) | (clear T4; go_at_call 21; refine (sameIntsC AS2 0 cS2 bS2 0 s Aa 0 ca ba 0 s _ HS2_8.out HS_8.out).mono ?_; rintro e w_9 ⟨rfl, hm_9⟩; rw [decide_eq_true (rfl : s = s)]; have HS_9 := Lib.hid (HS_8.out.drewN hm_9); have HT_9 := Lib.hid (HT_8.out.drewN hm_9); have HX_9 := Lib.hid (HX_8.out.drewN hm_9); have HY_9 := Lib.hid (HY_8.out.drewN hm_9); have H1_9 := Lib.hid (H1_8.out.drewN hm_9); have HX2_9 := Lib.hid (HX2_8.out.drewN hm_9); have HS2_9 := Lib.hid (HS2_8.out.drewN hm_9); have hK_9 := below_drawn hK_8 hm_9; clear hm_9) | (clear T5; go_at_call 26; refine (implSeriesTimes p Aa 0 ca ba 0 (s.take 0) Ab 0 cb bb 0 (t.take 0) _ (HS_9.out.take hqn) (HT_9.out.take hqm)).mono ?_; rw [HTQ.out]; rintro e w_10 ⟨AX3, cX3, rfl, hO, hBq⟩; obtain ⟨bX3, hRq, hAq⟩ := OI.iaA hO; have hcapX3 := OI.capLe hO; have HADRX3 := Lib.hid hAq; have HX3_10 := Lib.hid hRq; have HS_10 := Lib.hid (HS_9.out.below hBq); have HT_10 := Lib.hid (HT_9.out.below hBq); have HX_10 := Lib.hid (HX_9.out.below hBq); have HY_10 := Lib.hid (HY_9.out.below hBq); have H1_10 := Lib.hid (H1_9.out.below hBq); have HX2_10 := Lib.hid (HX2_9.out.below hBq); have HS2_10 := Lib.hid (HS2_9.out.below hBq); have hK_10 := below_more hK_9 hBq; clear hO hRq hAq hBq) | (clear T6; go_at_call 21; refine (sameIntsC AX3 0 cX3 bX3 0 [] AX 0 cX bX 0 [] _ HX3_10.out HX_10.out).mono ?_; rintro e w_11 ⟨rfl, hm_11⟩; rw [decide_eq_true (rfl : ([] : List Int) = [])]; have HS_11 := Lib.hid (HS_10.out.drewN hm_11); have HT_11 := Lib.hid (HT_10.out.drewN hm_11); have HX_11 := Lib.hid (HX_10.out.drewN hm_11); have HY_11 := Lib.hid (HY_10.out.drewN hm_11); have H1_11 := Lib.hid (H1_10.out.drewN hm_11); have HX2_11 := Lib.hid (HX2_10.out.drewN hm_11); have HS2_11 := Lib.hid (HS2_10.out.drewN hm_11); have HX3_11 := Lib.hid (HX3_10.out.drewN hm_11); have hK_11 := below_drawn hK_10 hm_11; clear hm_11))
    go_wp2_with (fail)
    go_ret
    exact ⟨rfl, hK_11⟩
  · have hnz : decide ((0 : Int) < (n : Int)) = true := decide_eq_true (by omega)
    have hnz2 : (0 : Int) < (n : Int) := by omega
    by_cases hlt : m < n
    · have hd1 : decide ((m : Int) < (n : Int)) = true := decide_eq_true (by omega)
      have hxl : X.length = m := by have := HXM.out; omega
      obtain rfl : m = X.length := hxl.symm
      obtain ⟨q, hq⟩ : ∃ q, X.length / 2 = q := ⟨_, rfl⟩
      have HQ := Lib.hid hq
      have hqi : (X.length : Int) / 2 = (q : Int) := by omega
      rw [hq] at hqle hqn hqm
      have hqx : q ≤ cX := by have := hcapX; omega
      obtain ⟨Y, hY⟩ : ∃ Y, X.take q = Y := ⟨_, rfl⟩
      have HYE := Lib.hid hY
      have HYL := Lib.hid (show Y.length = q by rw [← hY, List.length_take]; omega)
      have HTQ := Lib.hid ((HT3.out q (by omega)).trans hY)
      clear hY
      clear hq
      have hcell := World.ownsRow.cellAt hone 0 (by omega)
      have hfr := World.ownsRow.frozenAt hone 0
      have hc0 : (w_3.alloc (.cells (madeCells #[.int .i64 0] n) 3)).cell? ⟨w_3.heap.size, 0, none⟩ = some (.int .i64 0) := by rw [hcell]; unfold ints; rw [List.getElem?_map, List.getElem?_replicate, if_pos (by omega)]; rfl
      have hst : OI (w_3.alloc (.cells ((madeCells #[.int .i64 0] n).setIfInBounds 0 (.int .i64 1)) 3)) w_3.heap.size (some ⟨w_3.heap.size, 0, none⟩) n n (oneL n) := by
        have h := World.ownsRow_lit (e := 3) (base := w_3.heap.size) (size := 1) w_3 ((madeCells #[.int .i64 0] n).setIfInBounds 0 (.int .i64 1)) n (Nat.le_refl _) (by unfold maxLen; omega) (by simp [madeCells])
        rw [Array.toList_setIfInBounds, madeCells_one] at h
        unfold OI ints oneL
        rw [List.map_set, List.map_replicate]
        exact h
      have HONE := Lib.hid hst
      have hBS : Below w_3.heap.size w_3 (w_3.alloc (.cells ((madeCells #[.int .i64 0] n).setIfInBounds 0 (.int .i64 1)) 3)) := (Below.refl _ _).alloc (Nat.le_refl _) _
      clear hst hcell
      obtain ⟨b1, hI1⟩ := HONE.out.ia
      have H1 := Lib.hid hI1
      have HS_6 := Lib.hid (HS_3.out.below hBS)
      have HT_6 := Lib.hid (HT_3.out.below hBS)
      have HX_6 := Lib.hid (HX_3.out.below hBS)
      have HY_6 := Lib.hid (HY_3.out.below hBS)
      have hK_6 := below_more hK_3 hBS
      clear hI1 hone hB1 hBS
      have hq0 : (0 : Int) ≤ (q : Int) := by omega
      have hqa : (q : Int) ≤ (ca : Int) := by omega
      have hqb : (q : Int) ≤ (cb : Int) := by omega
      have hqc : (q : Int) ≤ (cX : Int) := by omega
      have hqw : IntKind.i64.wrap (q : Int) = (q : Int) := IntWalk.i64_in _ ⟨by omega, by omega⟩
      have T1 : True := trivial
      have T2 : True := trivial
      have T3 : True := trivial
      have T4 : True := trivial
      have T5 : True := trivial
      have T6 : True := trivial
      have HS_d := Lib.hid (IA.drew HS_6.out)
      have HT_d := Lib.hid (IA.drew HT_6.out)
      have HX_d := Lib.hid (IA.drew HX_6.out)
      have HY_d := Lib.hid (IA.drew HY_6.out)
      have H1_d := Lib.hid (IA.drew H1.out)
      have hK_d := below_drew' hK_6
      go_wp2_with (fail)
      go_region_held3? (fun _ => True) (exact trivial) (first | (clear T1; go_at_call 26; refine (implSeriesTimes p Ab X.length cb bb 0 t Aa n ca ba 0 s _ HT_d.out HS_d.out).mono ?_; rw [HT1.out]; rintro e w_6 ⟨AX2, cX2, rfl, hO, hBq⟩; obtain ⟨bX2, hRq, hAq⟩ := OI.iaA hO; have hcapX2 := OI.capLe hO; have HADRX2 := Lib.hid hAq; have HX2_6 := Lib.hid hRq; have HS_6 := Lib.hid (HS_d.out.below hBq); have HT_6 := Lib.hid (HT_d.out.below hBq); have HX_6 := Lib.hid (HX_d.out.below hBq); have HY_6 := Lib.hid (HY_d.out.below hBq); have H1_6 := Lib.hid (H1_d.out.below hBq); have hK_6 := below_more hK_d hBq; clear hO hRq hAq hBq) | (clear T2; go_at_call 21; refine (sameIntsC AX2 X.length cX2 bX2 0 X AX X.length cX bX 0 X _ HX2_6.out HX_6.out).mono ?_; rintro e w_7 ⟨rfl, hm_7⟩; rw [decide_eq_true (rfl : X = X)]; have HS_7 := Lib.hid (HS_6.out.drewN hm_7); have HT_7 := Lib.hid (HT_6.out.drewN hm_7); have HX_7 := Lib.hid (HX_6.out.drewN hm_7); have HY_7 := Lib.hid (HY_6.out.drewN hm_7); have H1_7 := Lib.hid (H1_6.out.drewN hm_7); have HX2_7 := Lib.hid (HX2_6.out.drewN hm_7); have hK_7 := below_drawn hK_6 hm_7; clear hm_7) | (clear T3; go_at_call 26; refine (implSeriesTimes p Aa n ca ba 0 s _ n n b1 0 (oneL n) _ HS_7.out H1_7.out).mono ?_; rw [HT2.out]; rintro e w_8 ⟨AS2, cS2, rfl, hO, hBq⟩; obtain ⟨bS2, hRq, hAq⟩ := OI.iaA hO; have hcapS2 := OI.capLe hO; have HADRS2 := Lib.hid hAq; have HS2_8 := Lib.hid hRq; have HS_8 := Lib.hid (HS_7.out.below hBq); have HT_8 := Lib.hid (HT_7.out.below hBq); have HX_8 := Lib.hid (HX_7.out.below hBq); have HY_8 := Lib.hid (HY_7.out.below hBq); have H1_8 := Lib.hid (H1_7.out.below hBq); have HX2_8 := Lib.hid (HX2_7.out.below hBq); have hK_8 := below_more hK_7 hBq; clear hO hRq hAq hBq; rw [HN.out] at HS2_8 ⊢) | (clear T4; go_at_call 21; refine (sameIntsC AS2 n cS2 bS2 0 s Aa n ca ba 0 s _ HS2_8.out HS_8.out).mono ?_; rintro e w_9 ⟨rfl, hm_9⟩; rw [decide_eq_true (rfl : s = s)]; have HS_9 := Lib.hid (HS_8.out.drewN hm_9); have HT_9 := Lib.hid (HT_8.out.drewN hm_9); have HX_9 := Lib.hid (HX_8.out.drewN hm_9); have HY_9 := Lib.hid (HY_8.out.drewN hm_9); have H1_9 := Lib.hid (H1_8.out.drewN hm_9); have HX2_9 := Lib.hid (HX2_8.out.drewN hm_9); have HS2_9 := Lib.hid (HS2_8.out.drewN hm_9); have hK_9 := below_drawn hK_8 hm_9; clear hm_9) | (clear T5; go_at_call 26; refine (implSeriesTimes p Aa q ca ba 0 (s.take q) Ab q cb bb 0 (t.take q) _ (HS_9.out.take hqn) (HT_9.out.take hqm)).mono ?_; rw [HTQ.out]; rintro e w_10 ⟨AX3, cX3, rfl, hO, hBq⟩; obtain ⟨bX3, hRq, hAq⟩ := OI.iaA hO; have hcapX3 := OI.capLe hO; have HADRX3 := Lib.hid hAq; have HX3_10 := Lib.hid hRq; have HS_10 := Lib.hid (HS_9.out.below hBq); have HT_10 := Lib.hid (HT_9.out.below hBq); have HX_10 := Lib.hid (HX_9.out.below hBq); have HY_10 := Lib.hid (HY_9.out.below hBq); have H1_10 := Lib.hid (H1_9.out.below hBq); have HX2_10 := Lib.hid (HX2_9.out.below hBq); have HS2_10 := Lib.hid (HS2_9.out.below hBq); have hK_10 := below_more hK_9 hBq; clear hO hRq hAq hBq; rw [HYL.out] at HX3_10 ⊢) | (clear T6; go_at_call 21; refine (sameIntsC AX3 q cX3 bX3 0 Y AX q cX bX 0 Y _ HX3_10.out (by rw [← HYE.out]; exact HX_10.out.take hqle)).mono ?_; rintro e w_11 ⟨rfl, hm_11⟩; rw [decide_eq_true (rfl : Y = Y)]; have HS_11 := Lib.hid (HS_10.out.drewN hm_11); have HT_11 := Lib.hid (HT_10.out.drewN hm_11); have HX_11 := Lib.hid (HX_10.out.drewN hm_11); have HY_11 := Lib.hid (HY_10.out.drewN hm_11); have H1_11 := Lib.hid (H1_10.out.drewN hm_11); have HX2_11 := Lib.hid (HX2_10.out.drewN hm_11); have HS2_11 := Lib.hid (HS2_10.out.drewN hm_11); have HX3_11 := Lib.hid (HX3_10.out.drewN hm_11); have hK_11 := below_drawn hK_10 hm_11; clear hm_11))
      go_wp2_with (fail)
      go_ret
      exact ⟨rfl, hK_11⟩
    · have hd1 : decide ((m : Int) < (n : Int)) = false := decide_eq_false (by omega)
      have hxl : X.length = n := by have := HXM.out; omega
      obtain rfl : n = X.length := hxl.symm
      obtain ⟨q, hq⟩ : ∃ q, X.length / 2 = q := ⟨_, rfl⟩
      have HQ := Lib.hid hq
      have hqi : (X.length : Int) / 2 = (q : Int) := by omega
      rw [hq] at hqle hqn hqm
      have hqx : q ≤ cX := by have := hcapX; omega
      obtain ⟨Y, hY⟩ : ∃ Y, X.take q = Y := ⟨_, rfl⟩
      have HYE := Lib.hid hY
      have HYL := Lib.hid (show Y.length = q by rw [← hY, List.length_take]; omega)
      have HTQ := Lib.hid ((HT3.out q (by omega)).trans hY)
      clear hY
      clear hq
      have hcell := World.ownsRow.cellAt hone 0 (by omega)
      have hfr := World.ownsRow.frozenAt hone 0
      have hc0 : (w_3.alloc (.cells (madeCells #[.int .i64 0] X.length) 3)).cell? ⟨w_3.heap.size, 0, none⟩ = some (.int .i64 0) := by rw [hcell]; unfold ints; rw [List.getElem?_map, List.getElem?_replicate, if_pos (by omega)]; rfl
      have hst : OI (w_3.alloc (.cells ((madeCells #[.int .i64 0] X.length).setIfInBounds 0 (.int .i64 1)) 3)) w_3.heap.size (some ⟨w_3.heap.size, 0, none⟩) X.length X.length (oneL X.length) := by
        have h := World.ownsRow_lit (e := 3) (base := w_3.heap.size) (size := 1) w_3 ((madeCells #[.int .i64 0] X.length).setIfInBounds 0 (.int .i64 1)) X.length (Nat.le_refl _) (by unfold maxLen; omega) (by simp [madeCells])
        rw [Array.toList_setIfInBounds, madeCells_one] at h
        unfold OI ints oneL
        rw [List.map_set, List.map_replicate]
        exact h
      have HONE := Lib.hid hst
      have hBS : Below w_3.heap.size w_3 (w_3.alloc (.cells ((madeCells #[.int .i64 0] X.length).setIfInBounds 0 (.int .i64 1)) 3)) := (Below.refl _ _).alloc (Nat.le_refl _) _
      clear hst hcell
      obtain ⟨b1, hI1⟩ := HONE.out.ia
      have H1 := Lib.hid hI1
      have HS_6 := Lib.hid (HS_3.out.below hBS)
      have HT_6 := Lib.hid (HT_3.out.below hBS)
      have HX_6 := Lib.hid (HX_3.out.below hBS)
      have HY_6 := Lib.hid (HY_3.out.below hBS)
      have hK_6 := below_more hK_3 hBS
      clear hI1 hone hB1 hBS
      have hq0 : (0 : Int) ≤ (q : Int) := by omega
      have hqa : (q : Int) ≤ (ca : Int) := by omega
      have hqb : (q : Int) ≤ (cb : Int) := by omega
      have hqc : (q : Int) ≤ (cX : Int) := by omega
      have hqw : IntKind.i64.wrap (q : Int) = (q : Int) := IntWalk.i64_in _ ⟨by omega, by omega⟩
      have T1 : True := trivial
      have T2 : True := trivial
      have T3 : True := trivial
      have T4 : True := trivial
      have T5 : True := trivial
      have T6 : True := trivial
      have HS_d := Lib.hid (IA.drew HS_6.out)
      have HT_d := Lib.hid (IA.drew HT_6.out)
      have HX_d := Lib.hid (IA.drew HX_6.out)
      have HY_d := Lib.hid (IA.drew HY_6.out)
      have H1_d := Lib.hid (IA.drew H1.out)
      have hK_d := below_drew' hK_6
      go_wp2_with (fail)
      go_region_held3? (fun _ => True) (exact trivial) (first | (clear T1; go_at_call 26; refine (implSeriesTimes p Ab m cb bb 0 t Aa X.length ca ba 0 s _ HT_d.out HS_d.out).mono ?_; rw [HT1.out]; rintro e w_6 ⟨AX2, cX2, rfl, hO, hBq⟩; obtain ⟨bX2, hRq, hAq⟩ := OI.iaA hO; have hcapX2 := OI.capLe hO; have HADRX2 := Lib.hid hAq; have HX2_6 := Lib.hid hRq; have HS_6 := Lib.hid (HS_d.out.below hBq); have HT_6 := Lib.hid (HT_d.out.below hBq); have HX_6 := Lib.hid (HX_d.out.below hBq); have HY_6 := Lib.hid (HY_d.out.below hBq); have H1_6 := Lib.hid (H1_d.out.below hBq); have hK_6 := below_more hK_d hBq; clear hO hRq hAq hBq) | (clear T2; go_at_call 21; refine (sameIntsC AX2 X.length cX2 bX2 0 X AX X.length cX bX 0 X _ HX2_6.out HX_6.out).mono ?_; rintro e w_7 ⟨rfl, hm_7⟩; rw [decide_eq_true (rfl : X = X)]; have HS_7 := Lib.hid (HS_6.out.drewN hm_7); have HT_7 := Lib.hid (HT_6.out.drewN hm_7); have HX_7 := Lib.hid (HX_6.out.drewN hm_7); have HY_7 := Lib.hid (HY_6.out.drewN hm_7); have H1_7 := Lib.hid (H1_6.out.drewN hm_7); have HX2_7 := Lib.hid (HX2_6.out.drewN hm_7); have hK_7 := below_drawn hK_6 hm_7; clear hm_7) | (clear T3; go_at_call 26; refine (implSeriesTimes p Aa X.length ca ba 0 s _ X.length X.length b1 0 (oneL X.length) _ HS_7.out H1_7.out).mono ?_; rw [HT2.out]; rintro e w_8 ⟨AS2, cS2, rfl, hO, hBq⟩; obtain ⟨bS2, hRq, hAq⟩ := OI.iaA hO; have hcapS2 := OI.capLe hO; have HADRS2 := Lib.hid hAq; have HS2_8 := Lib.hid hRq; have HS_8 := Lib.hid (HS_7.out.below hBq); have HT_8 := Lib.hid (HT_7.out.below hBq); have HX_8 := Lib.hid (HX_7.out.below hBq); have HY_8 := Lib.hid (HY_7.out.below hBq); have H1_8 := Lib.hid (H1_7.out.below hBq); have HX2_8 := Lib.hid (HX2_7.out.below hBq); have hK_8 := below_more hK_7 hBq; clear hO hRq hAq hBq; rw [HN.out] at HS2_8 ⊢) | (clear T4; go_at_call 21; refine (sameIntsC AS2 X.length cS2 bS2 0 s Aa X.length ca ba 0 s _ HS2_8.out HS_8.out).mono ?_; rintro e w_9 ⟨rfl, hm_9⟩; rw [decide_eq_true (rfl : s = s)]; have HS_9 := Lib.hid (HS_8.out.drewN hm_9); have HT_9 := Lib.hid (HT_8.out.drewN hm_9); have HX_9 := Lib.hid (HX_8.out.drewN hm_9); have HY_9 := Lib.hid (HY_8.out.drewN hm_9); have H1_9 := Lib.hid (H1_8.out.drewN hm_9); have HX2_9 := Lib.hid (HX2_8.out.drewN hm_9); have HS2_9 := Lib.hid (HS2_8.out.drewN hm_9); have hK_9 := below_drawn hK_8 hm_9; clear hm_9) | (clear T5; go_at_call 26; refine (implSeriesTimes p Aa q ca ba 0 (s.take q) Ab q cb bb 0 (t.take q) _ (HS_9.out.take hqn) (HT_9.out.take hqm)).mono ?_; rw [HTQ.out]; rintro e w_10 ⟨AX3, cX3, rfl, hO, hBq⟩; obtain ⟨bX3, hRq, hAq⟩ := OI.iaA hO; have hcapX3 := OI.capLe hO; have HADRX3 := Lib.hid hAq; have HX3_10 := Lib.hid hRq; have HS_10 := Lib.hid (HS_9.out.below hBq); have HT_10 := Lib.hid (HT_9.out.below hBq); have HX_10 := Lib.hid (HX_9.out.below hBq); have HY_10 := Lib.hid (HY_9.out.below hBq); have H1_10 := Lib.hid (H1_9.out.below hBq); have HX2_10 := Lib.hid (HX2_9.out.below hBq); have HS2_10 := Lib.hid (HS2_9.out.below hBq); have hK_10 := below_more hK_9 hBq; clear hO hRq hAq hBq; rw [HYL.out] at HX3_10 ⊢) | (clear T6; go_at_call 21; refine (sameIntsC AX3 q cX3 bX3 0 Y AX q cX bX 0 Y _ HX3_10.out (by rw [← HYE.out]; exact HX_10.out.take hqle)).mono ?_; rintro e w_11 ⟨rfl, hm_11⟩; rw [decide_eq_true (rfl : Y = Y)]; have HS_11 := Lib.hid (HS_10.out.drewN hm_11); have HT_11 := Lib.hid (HT_10.out.drewN hm_11); have HX_11 := Lib.hid (HX_10.out.drewN hm_11); have HY_11 := Lib.hid (HY_10.out.drewN hm_11); have H1_11 := Lib.hid (H1_10.out.drewN hm_11); have HX2_11 := Lib.hid (HX2_10.out.drewN hm_11); have HS2_11 := Lib.hid (HS2_10.out.drewN hm_11); have HX3_11 := Lib.hid (HX3_10.out.drewN hm_11); have hK_11 := below_drawn hK_10 hm_11; clear hm_11))
      go_wp2_with (fail)
      go_ret
      exact ⟨rfl, hK_11⟩
end Go.Proofs.Ytmmadmfpbancmab

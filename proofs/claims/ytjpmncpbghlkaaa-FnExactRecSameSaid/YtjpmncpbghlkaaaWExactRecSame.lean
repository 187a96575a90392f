/-
  The walk of the exact law of RecSame.
-/
import Derived.Deep.RegionHeld3
import Derived.Test.YtjpmncpbghlkaaaSSam
import Derived.Test.YtjpmncpbghlkaaaBxs
namespace Go.Proofs.Ytjpmncpbghlkaaa
open Go.RowKit
set_option maxRecDepth 100000 in
set_option maxHeartbeats 4000000 in
theorem walkFnExactRecSame (p0 : Int) (Aa0 : Option Addr) (na0 ca0 : Nat) (Ba0 : Option Addr) (ma0 da0 : Nat) (T0 F0 : List Int) (p1 : Int) (Aa1 : Option Addr) (na1 ca1 : Nat) (Ba1 : Option Addr) (ma1 da1 : Nat) (T1 F1 : List Int) (w : World) (w0 : RV w (.agg #[.int .i64 p0, .slice Aa0 na0 ca0, .slice Ba0 ma0 da0]) p0 T0 F0) (w1 : RV w (.agg #[.int .i64 p1, .slice Aa1 na1 ca1, .slice Ba1 ma1 da1]) p1 T1 F1) :
    Calls Try.prog 10 #[.agg #[.int .i64 p0, .slice Aa0 na0 ca0, .slice Ba0 ma0 da0], .agg #[.int .i64 p1, .slice Aa1 na1 ca1, .slice Ba1 ma1 da1]] w fun e w' => e = .returned (.bool true) ∧ Below w.heap.size w w' := by
  have H0 := Lib.hid w0
  have H1 := Lib.hid w1
  clear w0 w1
  obtain ⟨W0, hW0⟩ : ∃ W0, (w.alloc (.cells #[.int .i64 p0, .slice Aa0 na0 ca0, .slice Ba0 ma0 da0] 30)).alloc (.cells #[.int .i64 p1, .slice Aa1 na1 ca1, .slice Ba1 ma1 da1] 30) = W0 := ⟨_, rfl⟩
  have hB0 : Below w.heap.size w W0 := by rw [← hW0]; exact ((Below.refl _ w).alloc (Nat.le_refl _) _).alloc (by simp) _
  have hba : Bx W0 w.heap.size (.int .i64 p0) (.slice Aa0 na0 ca0) (.slice Ba0 ma0 da0) := by rw [← hW0]; exact (Bx.new w _ _ _ _).below (below_new _ _)
  have hbb : Bx W0 (w.heap.size + 1) (.int .i64 p1) (.slice Aa1 na1 ca1) (.slice Ba1 ma1 da1) := by
    have := Bx.new (w.alloc (.cells #[.int .i64 p0, .slice Aa0 na0 ca0, .slice Ba0 ma0 da0] 30)) (.int .i64 p1) (.slice Aa1 na1 ca1) (.slice Ba1 ma1 da1) 30
    rw [World.size_alloc] at this
    rw [← hW0]; exact this
  have BA := Lib.hid hba
  have BB := Lib.hid hbb
  have HB0 := Lib.hid hB0
  obtain ⟨RV0, hRV⟩ : ∃ RV, sameO p0 T0 F0 p1 T1 F1 = RV := ⟨_, rfl⟩
  have HRV := Lib.hid hRV
  have hqb : (RV0 != RV0) = false := by cases RV0 <;> rfl
  clear hba hbb hB0 hRV
  go_enter Try.func10, Try.ntmps10
  have xa := BA.out
  obtain ⟨x0, x1, x2⟩ := xa
  go_wp2_with (fail)
  clear hW0
  refine (szRec _ p0 T0 F0 1048576 _ (H0.out.below HB0.out) (by decide) (by decide)).mono ?_
  rintro e wz0 ⟨r0, rfl, hr0, hN⟩
  have HB1 := Lib.hid (below_more HB0.out hN)
  have BA1 := Lib.hid (BA.out.below hN)
  have BB1 := Lib.hid (BB.out.below hN)
  clear hN x0 x1 x2
  obtain ⟨y0, y1, y2⟩ := BB1.out
  rcases hr0 with hr0 | ⟨hr00, hrx0, hTn0, hFn0⟩
  · go_wp2_with (fail)
    go_ret
    exact ⟨rfl, HB1.out⟩
  go_wp2_with (fail)
  refine (szRec _ p1 T1 F1 r0 _ (H1.out.below HB1.out) hr00 (by omega)).mono ?_
  rintro e wz1 ⟨r1, rfl, hr1, hN⟩
  have HB2 := Lib.hid (below_more HB1.out hN)
  have BA2 := Lib.hid (BA1.out.below hN)
  have BB2 := Lib.hid (BB1.out.below hN)
  clear hN y0 y1 y2
  rcases hr1 with hr1 | ⟨hr01, hrx1, hTn1, hFn1⟩
  · go_wp2_with (fail)
    go_ret
    exact ⟨rfl, HB2.out⟩
  have hT0 : T0.length ≤ 1048576 := by omega
  have hF0 : F0.length ≤ 1048576 := by omega
  have hT1 : T1.length ≤ 1048576 := by omega
  have hF1 : F1.length ≤ 1048576 := by omega
  go_wp2_with (fail)
  have HAd := Lib.hid (H0.out.below HB2.out.drew)
  have ZS := And.intro BA2.out BB2.out
  have Zd := And.intro BA2.out.drew BB2.out.drew
  have Q1 : True := trivial
  unfold Bx at ZS Zd
  go_region_held3 (fun w' => (w'.cell? ⟨w.heap.size, 0, none⟩ = some (.int .i64 p0) ∧ w'.cell? ⟨w.heap.size, 1, none⟩ = some (.slice Aa0 na0 ca0) ∧ w'.cell? ⟨w.heap.size, 2, none⟩ = some (.slice Ba0 ma0 da0)) ∧ (w'.cell? ⟨w.heap.size + 1, 0, none⟩ = some (.int .i64 p1) ∧ w'.cell? ⟨w.heap.size + 1, 1, none⟩ = some (.slice Aa1 na1 ca1) ∧ w'.cell? ⟨w.heap.size + 1, 2, none⟩ = some (.slice Ba1 ma1 da1))) (first | assumption | exact ZC | exact ZB | exact ZA | exact Zd | exact ZS | go_keep)
    (first
      | (clear Q1; go_at_call 20; (with_reducible refine (toRec _ p0 T0 F0 _ HAd.out hT0 hF0).mono ?_); rintro e wA ⟨v, rfl, hO, hN⟩; have HBA := Lib.hid (below_more HB2.out.drew hN); have BAA := Lib.hid (BA2.out.drew.below hN); have BBA := Lib.hid (BB2.out.drew.below hN); have HRa := Lib.hid hO.rv; have ZA := And.intro BAA.out BBA.out; unfold Bx at ZA; have HBb := Lib.hid (H1.out.below HBA.out); have Q2 : True := trivial; clear hN hO)
      | (clear Q2; go_at_call 20; (with_reducible refine (toRec _ p1 T1 F1 _ HBb.out hT1 hF1).mono ?_); rintro e wB ⟨u, rfl, hO, hN⟩; have HBB := Lib.hid (below_more HBA.out hN); have BAB := Lib.hid (BAA.out.below hN); have BBB := Lib.hid (BBA.out.below hN); have HRb := Lib.hid hO.rv; have HRa2 := Lib.hid (HRa.out.below hN); have ZB := And.intro BAB.out BBB.out; unfold Bx at ZB; have Q3 : True := trivial; clear hN hO)
      | (clear Q3; go_at_call 36; refine (specRecSame _ p0 T0 F0 _ p1 T1 F1 _ HRa2.out HRb.out).mono ?_; rw [HRV.out]; rintro e wC ⟨rfl, hN⟩; have HBC := Lib.hid (below_more HBB.out hN); have BAC := Lib.hid (BAB.out.below hN); have BBC := Lib.hid (BBB.out.below hN); have ZC := And.intro BAC.out BBC.out; unfold Bx at ZC; clear hN))
  all_goals
    clear ZS Zd
    obtain ⟨s0, s1, s2⟩ := BAC.out
    go_wp2_with (fail)
    refine (toRec _ p0 T0 F0 _ (H0.out.below HBC.out) hT0 hF0).mono ?_
    rintro e wD ⟨_, rfl, ⟨A5, c5, A6, c6, rfl, hO1, hO2, hO3⟩, hN⟩
    have HRx := Lib.hid (show RV wD (.agg #[.int .i64 p0, .slice A5 T0.length c5, .slice A6 F0.length c6]) p0 T0 F0 from RO.rv (B := wC.heap.size) ⟨A5, c5, A6, c6, rfl, hO1, hO2, hO3⟩)
    have HBD := Lib.hid (below_more HBC.out hN)
    have BAD := Lib.hid (BAC.out.below hN)
    have BBD := Lib.hid (BBC.out.below hN)
    clear hN hO1 hO2 hO3 s0 s1 s2
    obtain ⟨WD, hWD⟩ : ∃ WD, wD.alloc (.cells #[.int .i64 p0, .slice A5 T0.length c5, .slice A6 F0.length c6] 25) = WD := ⟨_, rfl⟩
    have hN : Below wD.heap.size wD WD := by rw [← hWD]; exact below_new _ _
    have BX1 := Lib.hid (show Bx WD wD.heap.size (.int .i64 p0) (.slice A5 T0.length c5) (.slice A6 F0.length c6) by rw [← hWD]; exact Bx.new _ _ _ _ _)
    have HBD1 := Lib.hid (below_more HBD.out hN)
    have BAD1 := Lib.hid (BAD.out.below hN)
    have BBD1 := Lib.hid (BBD.out.below hN)
    have HRx1 := Lib.hid (HRx.out.below hN)
    clear hN
    obtain ⟨y0, y1, y2⟩ := BBD1.out
    go_wp2_with (fail)
    clear hWD
    refine (toRec _ p1 T1 F1 _ (H1.out.below HBD1.out) hT1 hF1).mono ?_
    rintro e wE ⟨_, rfl, ⟨A7, c7, A8, c8, rfl, hO1, hO2, hO3⟩, hN⟩
    have HRy := Lib.hid (show RV wE (.agg #[.int .i64 p1, .slice A7 T1.length c7, .slice A8 F1.length c8]) p1 T1 F1 from RO.rv (B := WD.heap.size) ⟨A7, c7, A8, c8, rfl, hO1, hO2, hO3⟩)
    have HBE := Lib.hid (below_more HBD1.out hN)
    have BAE := Lib.hid (BAD1.out.below hN)
    have BBE := Lib.hid (BBD1.out.below hN)
    have BXE := Lib.hid (BX1.out.below hN)
    have HRxE := Lib.hid (HRx1.out.below hN)
    clear hN hO1 hO2 hO3 y0 y1 y2
    obtain ⟨WE, hWE⟩ : ∃ WE, wE.alloc (.cells #[.int .i64 p1, .slice A7 T1.length c7, .slice A8 F1.length c8] 25) = WE := ⟨_, rfl⟩
    have hN : Below wE.heap.size wE WE := by rw [← hWE]; exact below_new _ _
    have BY1 := Lib.hid (show Bx WE wE.heap.size (.int .i64 p1) (.slice A7 T1.length c7) (.slice A8 F1.length c8) by rw [← hWE]; exact Bx.new _ _ _ _ _)
    have HBE1 := Lib.hid (below_more HBE.out hN)
    have BAE1 := Lib.hid (BAE.out.below hN)
    have BBE1 := Lib.hid (BBE.out.below hN)
    have BXE1 := Lib.hid (BXE.out.below hN)
    have HRxE1 := Lib.hid (HRxE.out.below hN)
    have HRyE1 := Lib.hid (HRy.out.below hN)
    clear hN
    obtain ⟨y0, y1, y2⟩ := BY1.out
    obtain ⟨x0, x1, x2⟩ := BXE1.out
    go_wp2_with (fail)
    clear hWE
    refine (implRecSame _ p0 T0 F0 _ p1 T1 F1 _ HRxE1.out HRyE1.out).mono ?_
    rw [HRV.out]
    rintro e wF ⟨rfl, hN⟩
    have HBF := Lib.hid (below_more HBE1.out hN)
    have BAF := Lib.hid (BAE1.out.below hN)
    have BBF := Lib.hid (BBE1.out.below hN)
    have BXF := Lib.hid (BXE1.out.below hN)
    have BYF := Lib.hid (BY1.out.below hN)
    have HRxF := Lib.hid (HRxE1.out.below hN)
    have HRyF := Lib.hid (HRyE1.out.below hN)
    clear hN x0 x1 x2 y0 y1 y2
    go_wp2_with (fail)
    have HAd2 := Lib.hid (H0.out.below HBF.out.drew)
    have ZS := And.intro BAF.out BXF.out
    have Zd := And.intro BAF.out.drew BXF.out.drew
    unfold Bx at ZS Zd
    go_region_held3 (fun w' => (w'.cell? ⟨w.heap.size, 0, none⟩ = some (.int .i64 p0) ∧ w'.cell? ⟨w.heap.size, 1, none⟩ = some (.slice Aa0 na0 ca0) ∧ w'.cell? ⟨w.heap.size, 2, none⟩ = some (.slice Ba0 ma0 da0)) ∧ (w'.cell? ⟨wD.heap.size, 0, none⟩ = some (.int .i64 p0) ∧ w'.cell? ⟨wD.heap.size, 1, none⟩ = some (.slice A5 T0.length c5) ∧ w'.cell? ⟨wD.heap.size, 2, none⟩ = some (.slice A6 F0.length c6))) (first | assumption | exact ZH | exact ZG | exact Zd | exact ZS | go_keep)
      (first
        | (go_at_call 20; (with_reducible refine (toRec _ p0 T0 F0 _ HAd2.out hT0 hF0).mono ?_); rintro e wG ⟨v, rfl, hO, hN⟩; have HBG := Lib.hid (below_more HBF.out.drew hN); have BAG := Lib.hid (BAF.out.drew.below hN); have BBG := Lib.hid (BBF.out.drew.below hN); have BXG := Lib.hid (BXF.out.drew.below hN); have BYG := Lib.hid (BYF.out.drew.below hN); have HRg := Lib.hid hO.rv; have HRxG := Lib.hid (HRxF.out.below ((below_new_drew wF).trans hN)); have HRyG := Lib.hid (HRyF.out.below ((below_new_drew wF).trans hN)); have ZG := And.intro BAG.out BXG.out; unfold Bx at ZG; clear hN hO)
        | (go_at_call 21; refine (eqRec _ p0 T0 F0 _ p0 T0 F0 _ HRxG.out HRg.out).mono ?_; rw [decide_eq_true (⟨rfl, rfl, rfl⟩ : p0 = p0 ∧ T0 = T0 ∧ F0 = F0)]; rintro e wH ⟨rfl, hN⟩; have HBH := Lib.hid (below_more HBG.out hN); have BAH := Lib.hid (BAG.out.below hN); have BBH := Lib.hid (BBG.out.below hN); have BXH := Lib.hid (BXG.out.below hN); have BYH := Lib.hid (BYG.out.below hN); have HRyH := Lib.hid (HRyG.out.below hN); have ZH := And.intro BAH.out BXH.out; unfold Bx at ZH; clear hN))
    all_goals
      clear ZS Zd
      go_wp2_with (fail)
      have HBd3 := Lib.hid (H1.out.below HBH.out.drew)
      have ZS := And.intro BBH.out BYH.out
      have Zd := And.intro BBH.out.drew BYH.out.drew
      unfold Bx at ZS Zd
      go_region_held3 (fun w' => (w'.cell? ⟨w.heap.size + 1, 0, none⟩ = some (.int .i64 p1) ∧ w'.cell? ⟨w.heap.size + 1, 1, none⟩ = some (.slice Aa1 na1 ca1) ∧ w'.cell? ⟨w.heap.size + 1, 2, none⟩ = some (.slice Ba1 ma1 da1)) ∧ (w'.cell? ⟨wE.heap.size, 0, none⟩ = some (.int .i64 p1) ∧ w'.cell? ⟨wE.heap.size, 1, none⟩ = some (.slice A7 T1.length c7) ∧ w'.cell? ⟨wE.heap.size, 2, none⟩ = some (.slice A8 F1.length c8))) (first | assumption | exact ZJ | exact ZI | exact Zd | exact ZS | go_keep)
        (first
          | (go_at_call 20; (with_reducible refine (toRec _ p1 T1 F1 _ HBd3.out hT1 hF1).mono ?_); rintro e wI ⟨v, rfl, hO, hN⟩; have HBI := Lib.hid (below_more HBH.out.drew hN); have BBI := Lib.hid (BBH.out.drew.below hN); have BYI := Lib.hid (BYH.out.drew.below hN); have HRg := Lib.hid hO.rv; have HRyI := Lib.hid (HRyH.out.below ((below_new_drew wH).trans hN)); have ZI := And.intro BBI.out BYI.out; unfold Bx at ZI; clear hN hO)
          | (go_at_call 21; refine (eqRec _ p1 T1 F1 _ p1 T1 F1 _ HRyI.out HRg.out).mono ?_; rw [decide_eq_true (⟨rfl, rfl, rfl⟩ : p1 = p1 ∧ T1 = T1 ∧ F1 = F1)]; rintro e wJ ⟨rfl, hN⟩; have HBJ := Lib.hid (below_more HBI.out hN); have BBJ := Lib.hid (BBI.out.below hN); have BYJ := Lib.hid (BYI.out.below hN); have ZJ := And.intro BBJ.out BYJ.out; unfold Bx at ZJ; clear hN))
      all_goals
        go_wp2_with (fail)
        go_ret
        exact ⟨rfl, HBJ.out⟩
end Go.Proofs.Ytjpmncpbghlkaaa

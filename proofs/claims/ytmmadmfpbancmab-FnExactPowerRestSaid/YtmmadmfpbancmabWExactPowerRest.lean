/-
  The walk of the exact law of PowerRest.
-/
import Derived.Test.YtmmadmfpbancmabSPow
import Derived.Test.YtmmadmfpbancmabIPow
import Derived.Test.YtmmadmfpbancmabEx
namespace Go.Proofs.Ytmmadmfpbancmab
open Go.RowKit
set_option maxRecDepth 100000 in
set_option maxHeartbeats 2000000 in
set_option linter.unusedVariables false in
theorem walkFnExactPowerRest (a0 : Int) (a1 : Option Addr) (len1 cap1 : Nat) (z1 : List Int) (a2 : Int) (w : World) (w0 : (Lit.int .i64 a0).wf = true) (w1 : IsRow .i64 w a1 len1 cap1 z1) (w2 : (Lit.int .i64 a2).wf = true) :
    Calls Try.prog 6 #[.int .i64 a0, .slice a1 len1 cap1, .int .i64 a2] w fun e w' => e = .returned (.bool true) ∧ Below w.heap.size w w' := by
  obtain ⟨b1, o1, hR1⟩ := w1.ia
  obtain ⟨M1, hM1⟩ : ∃ M, z1.take len1 = M := ⟨_, rfl⟩
  rw [hM1] at hR1
  have hbg1 := hR1.big
  have H1 := Lib.hid hR1
  clear w0 w1 w2 hR1
  go_enter Try.func6, Try.ntmps6
  by_cases hn1 : len1 ≤ 1048576
  case neg =>
    have hg1 : decide (1048576 < (len1 : Int)) = true := decide_eq_true (by omega)
    go_wp2_with (fail)
    go_ret
    exact ⟨rfl, Below.refl _ _⟩
  have hg1 : decide (1048576 < (len1 : Int)) = false := decide_eq_false (by omega)
  obtain ⟨RV, hRV⟩ : ∃ RV, powO a0 M1 a2 = RV := ⟨_, rfl⟩
  have hbd := powO_bd a0 M1 a2
  rw [hRV] at hbd
  obtain ⟨RS0, hRS0⟩ : ∃ RS, RV.getD [] = RS := ⟨_, rfl⟩
  rw [hRS0] at hbd
  obtain ⟨RB, hRB⟩ : ∃ RB, RV.isSome = RB := ⟨_, rfl⟩
  have hqb : (RB != RB) = false := by cases RB <;> rfl
  have HRB := Lib.hid hRB
  clear hRB
  have HRS0 := Lib.hid hRS0
  clear hRS0
  have hbd0 := hbd
  clear hbd
  have HRV := Lib.hid hRV
  clear hRV
  have hBw0 := Below.refl w.heap.size w
  go_wp2_with (fail)
  refine (toIntS a1 len1 cap1 b1 o1 M1 _ (H1.out.below hBw0) hn1).mono ?_
  rintro e ws1 ⟨As1, cs1, rfl, hO, hN⟩
  have hBw_1 := below_more hBw0 hN
  clear hBw0
  have hzws1 := hN.size
  clear hN
  have HLs1 := Lib.hid (show ∀ g, (Value.slice As1 len1 cs1).ownBlock = some g → _ from fun g hg => hO.lt g hg)
  have HOs1 := Lib.hid hO
  obtain ⟨bs1, hRa⟩ := hO.ia
  have HRs1 := Lib.hid hRa
  clear hO hRa
  have hBws1_2 := Below.refl ws1.heap.size ws1
  go_wp2_with (fail)
  refine (specPowerRest a0 As1 len1 cs1 bs1 0 M1 a2 _ (HRs1.out.below hBws1_2)).mono ?_
  rw [HRV.out]
  rintro e wb ⟨As0, cs0, rfl, hO0, hN⟩
  rw [HRS0.out] at hO0
  rw [HRS0.out, HRB.out]
  have hBw_3 := below_more hBw_1 hN
  clear hBw_1
  have hBws1_3 := below_more hBws1_2 hN
  clear hBws1_2
  have hzwb := hN.size
  clear hN
  have HLs0 := Lib.hid (show ∀ g, (Value.slice As0 RS0.length cs0).ownBlock = some g → _ from fun g hg => hO0.lt g hg)
  obtain ⟨bs0, hRa⟩ := hO0.ia
  have HRs0 := Lib.hid hRa
  have HOs0 := Lib.hid hO0
  clear hO0 hRa
  have hBwb_4 := Below.refl wb.heap.size wb
  go_wp2_with (fail)
  refine (toIntS a1 len1 cap1 b1 o1 M1 _ (H1.out.below hBw_3) hn1).mono ?_
  rintro e wx1 ⟨Ax1, cx1, rfl, hO, hN⟩
  have hBw_5 := below_more hBw_3 hN
  clear hBw_3
  have hBwb_5 := below_more hBwb_4 hN
  clear hBwb_4
  have hzwx1 := hN.size
  clear hN
  have HLx1 := Lib.hid (show ∀ g, (Value.slice Ax1 len1 cx1).ownBlock = some g → _ from fun g hg => hO.lt g hg)
  have HOx1 := Lib.hid hO
  obtain ⟨bx1, hRa⟩ := hO.ia
  have HRx1 := Lib.hid hRa
  clear hO hRa
  have hBwx1_6 := Below.refl wx1.heap.size wx1
  go_wp2_with (fail)
  refine (implPowerRest a0 Ax1 len1 cx1 bx1 0 M1 a2 _ (HRx1.out.below hBwx1_6)).mono ?_
  rw [HRV.out]
  rintro e wd ⟨Ag0, cg0, rfl, hO0, hN⟩
  rw [HRS0.out] at hO0
  rw [HRS0.out, HRB.out]
  have hBw_7 := below_more hBw_5 hN
  clear hBw_5
  have hBwb_7 := below_more hBwb_5 hN
  clear hBwb_5
  have hBwx1_7 := below_more hBwx1_6 hN
  clear hBwx1_6
  have hzwd := hN.size
  clear hN
  have HLg0 := Lib.hid (show ∀ g, (Value.slice Ag0 RS0.length cg0).ownBlock = some g → _ from fun g hg => hO0.lt g hg)
  obtain ⟨bg0, hRa⟩ := hO0.ia
  have HRg0 := Lib.hid hRa
  have HOg0 := Lib.hid hO0
  clear hO0 hRa
  have hBwd_8 := Below.refl wd.heap.size wd
  go_wp2_with (fail)
  refine (eqIntS Ag0 RS0.length cg0 bg0 0 RS0 As0 RS0.length cs0 bs0 0 RS0 _ (HRg0.out.below hBwd_8) (HRs0.out.below hBwb_7)).mono ?_
  rintro e we9 ⟨rfl, hm⟩
  rw [decide_eq_true (rfl : RS0 = RS0)]
  have hBw_10 := below_drawn hBw_7 hm
  clear hBw_7
  have hBwb_10 := below_drawn hBwb_7 hm
  clear hBwb_7
  have hBwx1_10 := below_drawn hBwx1_7 hm
  clear hBwx1_7
  have hBwd_10 := below_drawn hBwd_8 hm
  clear hBwd_8
  clear hm
  go_wp2_with (fail)
  refine (toIntS a1 len1 cap1 b1 o1 M1 _ (H1.out.below hBw_10) hn1).mono ?_
  rintro e wf1 ⟨Af1, cf1, rfl, hO, hN⟩
  have hBw_11 := below_more hBw_10 hN
  clear hBw_10
  have hBwb_11 := below_more hBwb_10 hN
  clear hBwb_10
  have hBwx1_11 := below_more hBwx1_10 hN
  clear hBwx1_10
  have hBwd_11 := below_more hBwd_10 hN
  clear hBwd_10
  have hzwf1 := hN.size
  clear hN
  have HLf1 := Lib.hid (show ∀ g, (Value.slice Af1 len1 cf1).ownBlock = some g → _ from fun g hg => hO.lt g hg)
  have HOf1 := Lib.hid hO
  obtain ⟨bf1, hRa⟩ := hO.ia
  have HRf1 := Lib.hid hRa
  clear hO hRa
  have hBwf1_12 := Below.refl wf1.heap.size wf1
  go_wp2_with (fail)
  refine (eqIntS Ax1 len1 cx1 bx1 0 M1 Af1 len1 cf1 bf1 0 M1 _ (HRx1.out.below hBwx1_11) (HRf1.out.below hBwf1_12)).mono ?_
  rintro e we13 ⟨rfl, hm⟩
  rw [decide_eq_true (rfl : M1 = M1)]
  have hBw_14 := below_drawn hBw_11 hm
  clear hBw_11
  have hBwb_14 := below_drawn hBwb_11 hm
  clear hBwb_11
  have hBwx1_14 := below_drawn hBwx1_11 hm
  clear hBwx1_11
  have hBwd_14 := below_drawn hBwd_11 hm
  clear hBwd_11
  have hBwf1_14 := below_drawn hBwf1_12 hm
  clear hBwf1_12
  clear hm
  go_wp2_with (fail)
  have hown := OIb HOx1.out hBwx1_14
  refine (markIntS wb.heap.size Ax1 len1 cx1 M1 (1) _ hown (by omega) (by omega)).mono ?_
  rintro e wm1 ⟨rfl, _, hK0⟩
  have hK := hK0.mono (T := fun g => wb.heap.size ≤ g ∧ g < wx1.heap.size) (fun g _ hg => HLx1.out g hg)
  clear hK0 hown
  have hzzwm1 := hK.size
  have hX := hK.below (B := wb.heap.size) (by have h1 := (hBwb_14).size; omega) (fun k hk => by omega)
  have hBwb_15 := (hBwb_14).trans hX
  have hBw_15 := (hBw_14).trans (hX.mono (by omega))
  have hOg := OIk (OIb HOg0.out hBwd_14) hK (fun g hg hs => by have := HLg0.out g hg; omega)
  obtain ⟨bg0_0, hRa⟩ := hOg.ia
  clear HOg0 HRg0
  have HOg0 := Lib.hid hOg
  have HRg0 := Lib.hid hRa
  clear hOg hRa
  clear hK hX
  have hBwd_16 := Below.refl wm1.heap.size wm1
  have hpos : 0 ≤ 1 + (len1 : Int) := by omega
  go_wp2_with (fail)
  refine (eqIntS Ag0 RS0.length cg0 bg0_0 0 RS0 As0 RS0.length cs0 bs0 0 RS0 _ (HRg0.out.below hBwd_16) (HRs0.out.below hBwb_15)).mono ?_
  rintro e we17 ⟨rfl, hm⟩
  rw [decide_eq_true (rfl : RS0 = RS0)]
  have hBw_18 := below_drawn hBw_15 hm
  clear hBw_15
  have hBwb_18 := below_drawn hBwb_15 hm
  clear hBwb_15
  have hBwd_18 := below_drawn hBwd_16 hm
  clear hBwd_16
  clear hm
  go_wp2_with (fail)
  refine (markIntS wx1.heap.size Ag0 RS0.length cg0 RS0 (1) _ (OIb HOg0.out hBwd_18) (by omega) (by omega)).mono ?_
  rintro e wj0 ⟨rfl, hO, hK0⟩
  have hK := hK0.mono (T := fun g => wx1.heap.size ≤ g ∧ (Value.slice Ag0 RS0.length cg0).ownBlock = some g) (fun g _ hg => ⟨(HLg0.out g hg).1, hg⟩)
  clear hK0
  have hzzwj0 := hK.size
  have hX := hK.below (B := wb.heap.size) (by have h1 := (hBwb_18).size; omega) (fun k hk => by have := hk.1; omega)
  have hBwb_19 := (hBwb_18).trans hX
  have hBw_19 := (hBw_18).trans (hX.mono (by omega))
  have HOj0 := Lib.hid hO
  clear hO hK hX
  have hBwd_20 := Below.refl wj0.heap.size wj0
  have hBwj_21 := Below.refl wj0.heap.size wj0
  obtain ⟨bj0, hRa⟩ := HOj0.out.ia
  have HRj0 := Lib.hid hRa
  clear hRa
  go_wp2_with (fail)
  refine (heldIntS Ag0 RS0.length cg0 bj0 0 (1) _ (HRj0.out.below hBwj_21) (by omega) (by omega)).mono ?_
  rintro e w' ⟨rfl, rfl⟩
  have hpq0 : 0 ≤ 1 + (RS0.length : Int) := by omega
  have hqg : ((1 + (RS0.length : Int)) != (1 + (RS0.length : Int))) = false := by simp
  go_wp2_with (fail)
  refine (toIntS a1 len1 cap1 b1 o1 M1 _ (H1.out.below hBw_19) hn1).mono ?_
  rintro e wy1 ⟨Ay1, cy1, rfl, hO, hN⟩
  have hBw_22 := below_more hBw_19 hN
  clear hBw_19
  have hBwb_22 := below_more hBwb_19 hN
  clear hBwb_19
  have hBwj_22 := below_more hBwj_21 hN
  clear hBwj_21
  have hzwy1 := hN.size
  clear hN
  have HLy1 := Lib.hid (show ∀ g, (Value.slice Ay1 len1 cy1).ownBlock = some g → _ from fun g hg => hO.lt g hg)
  have HOy1 := Lib.hid hO
  obtain ⟨by1, hRa⟩ := hO.ia
  have HRy1 := Lib.hid hRa
  clear hO hRa
  have hBwy1_23 := Below.refl wy1.heap.size wy1
  go_wp2_with (fail)
  refine (implPowerRest a0 Ay1 len1 cy1 by1 0 M1 a2 _ (HRy1.out.below hBwy1_23)).mono ?_
  rw [HRV.out]
  rintro e wl ⟨Al0, cl0, rfl, hO0, hN⟩
  rw [HRS0.out] at hO0
  rw [HRS0.out, HRB.out]
  have hBw_24 := below_more hBw_22 hN
  clear hBw_22
  have hBwb_24 := below_more hBwb_22 hN
  clear hBwb_22
  have hBwj_24 := below_more hBwj_22 hN
  clear hBwj_22
  have hBwy1_24 := below_more hBwy1_23 hN
  clear hBwy1_23
  have hzwl := hN.size
  clear hN
  have HLl0 := Lib.hid (show ∀ g, (Value.slice Al0 RS0.length cl0).ownBlock = some g → _ from fun g hg => hO0.lt g hg)
  obtain ⟨bl0, hRa⟩ := hO0.ia
  have HRl0 := Lib.hid hRa
  have HOl0 := Lib.hid hO0
  clear hO0 hRa
  have hBwl_25 := Below.refl wl.heap.size wl
  go_wp2_with (fail)
  refine (eqIntS Al0 RS0.length cl0 bl0 0 RS0 As0 RS0.length cs0 bs0 0 RS0 _ (HRl0.out.below hBwl_25) (HRs0.out.below hBwb_24)).mono ?_
  rintro e we26 ⟨rfl, hm⟩
  rw [decide_eq_true (rfl : RS0 = RS0)]
  have hBw_27 := below_drawn hBw_24 hm
  clear hBw_24
  have hBwb_27 := below_drawn hBwb_24 hm
  clear hBwb_24
  have hBwj_27 := below_drawn hBwj_24 hm
  clear hBwj_24
  have hBwy1_27 := below_drawn hBwy1_24 hm
  clear hBwy1_24
  have hBwl_27 := below_drawn hBwl_25 hm
  clear hBwl_25
  clear hm
  go_wp2_with (fail)
  refine (heldIntS Ag0 RS0.length cg0 bj0 0 (1) _ (HRj0.out.below hBwj_27) (by omega) (by omega)).mono ?_
  rintro e w' ⟨rfl, rfl⟩
  have hpq0 : 0 ≤ 1 + (RS0.length : Int) := by omega
  go_wp2_with (fail)
  go_ret
  exact ⟨rfl, hBw_27⟩
end Go.Proofs.Ytmmadmfpbancmab

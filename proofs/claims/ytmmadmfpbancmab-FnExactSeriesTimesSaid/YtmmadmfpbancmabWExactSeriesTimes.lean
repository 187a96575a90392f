/-
  The walk of the exact law of SeriesTimes.
-/
import Derived.Test.YtmmadmfpbancmabISer
import Derived.Test.YtmmadmfpbancmabEx
namespace Go.Proofs.Ytmmadmfpbancmab
open Go.RowKit
set_option maxRecDepth 100000 in
set_option maxHeartbeats 2000000 in
set_option linter.unusedVariables false in
theorem walkFnExactSeriesTimes (a0 : Int) (a1 : Option Addr) (len1 cap1 : Nat) (z1 : List Int) (a2 : Option Addr) (len2 cap2 : Nat) (z2 : List Int) (w : World) (w0 : (Lit.int .i64 a0).wf = true) (w1 : IsRow .i64 w a1 len1 cap1 z1) (w2 : IsRow .i64 w a2 len2 cap2 z2) :
    Calls Try.prog 8 #[.int .i64 a0, .slice a1 len1 cap1, .slice a2 len2 cap2] w fun e w' => e = .returned (.bool true) ∧ Below w.heap.size w w' := by
  obtain ⟨b1, o1, hR1⟩ := w1.ia
  obtain ⟨M1, hM1⟩ : ∃ M, z1.take len1 = M := ⟨_, rfl⟩
  rw [hM1] at hR1
  have hbg1 := hR1.big
  have H1 := Lib.hid hR1
  obtain ⟨b2, o2, hR2⟩ := w2.ia
  obtain ⟨M2, hM2⟩ : ∃ M, z2.take len2 = M := ⟨_, rfl⟩
  rw [hM2] at hR2
  have hbg2 := hR2.big
  have H2 := Lib.hid hR2
  clear w0 w1 w2 hR1 hR2
  go_enter Try.func8, Try.ntmps8
  by_cases hn1 : len1 ≤ 1048576
  case neg =>
    have hg1 : decide (1048576 < (len1 : Int)) = true := decide_eq_true (by omega)
    go_wp2_with (fail)
    go_ret
    exact ⟨rfl, Below.refl _ _⟩
  have hg1 : decide (1048576 < (len1 : Int)) = false := decide_eq_false (by omega)
  by_cases hn2 : len2 ≤ 1048576
  case neg =>
    have hg2 : decide (1048576 < (len2 : Int)) = true := decide_eq_true (by omega)
    go_wp2_with (fail)
    go_ret
    exact ⟨rfl, Below.refl _ _⟩
  have hg2 : decide (1048576 < (len2 : Int)) = false := decide_eq_false (by omega)
  obtain ⟨RV, hRV⟩ : ∃ RV, serT a0 M1 M2 = RV := ⟨_, rfl⟩
  have hbd := serT_bd a0 M1 M2
  rw [hRV] at hbd
  obtain ⟨RS0, hRS0⟩ : ∃ RS, RV = RS := ⟨_, rfl⟩
  rw [hRS0] at hRV hbd
  clear hRS0
  have hbd0 := hbd
  clear hbd
  have HRV := Lib.hid hRV
  clear hRV
  have hBw0 := Below.refl w.heap.size w
  go_wp2_with (fail)
  refine (toIntS a1 len1 cap1 b1 o1 M1 _ (H1.out.below hBw0) hn1).mono ?_
  rintro e ws1 ⟨As1, cs1, rfl, hO, hN⟩
  have hBw_1 := below_more hBw0 hN
  clear hBw0
  have hzws1 := hN.size
  clear hN
  have HLs1 := Lib.hid (show ∀ g, (Value.slice As1 len1 cs1).ownBlock = some g → _ from fun g hg => hO.lt g hg)
  have HOs1 := Lib.hid hO
  obtain ⟨bs1, hRa⟩ := hO.ia
  have HRs1 := Lib.hid hRa
  clear hO hRa
  have hBws1_2 := Below.refl ws1.heap.size ws1
  go_wp2_with (fail)
  refine (toIntS a2 len2 cap2 b2 o2 M2 _ (H2.out.below hBw_1) hn2).mono ?_
  rintro e ws2 ⟨As2, cs2, rfl, hO, hN⟩
  have hBw_3 := below_more hBw_1 hN
  clear hBw_1
  have hBws1_3 := below_more hBws1_2 hN
  clear hBws1_2
  have hzws2 := hN.size
  clear hN
  have HLs2 := Lib.hid (show ∀ g, (Value.slice As2 len2 cs2).ownBlock = some g → _ from fun g hg => hO.lt g hg)
  have HOs2 := Lib.hid hO
  obtain ⟨bs2, hRa⟩ := hO.ia
  have HRs2 := Lib.hid hRa
  clear hO hRa
  have hBws2_4 := Below.refl ws2.heap.size ws2
  go_wp2_with (fail)
  refine (specSeriesTimes a0 As1 len1 cs1 bs1 0 M1 As2 len2 cs2 bs2 0 M2 _ (HRs1.out.below hBws1_3) (HRs2.out.below hBws2_4)).mono ?_
  rw [HRV.out]
  rintro e wb ⟨As0, cs0, rfl, hO0, hN⟩
  have hBw_5 := below_more hBw_3 hN
  clear hBw_3
  have hBws1_5 := below_more hBws1_3 hN
  clear hBws1_3
  have hBws2_5 := below_more hBws2_4 hN
  clear hBws2_4
  have hzwb := hN.size
  clear hN
  have HLs0 := Lib.hid (show ∀ g, (Value.slice As0 RS0.length cs0).ownBlock = some g → _ from fun g hg => hO0.lt g hg)
  obtain ⟨bs0, hRa⟩ := hO0.ia
  have HRs0 := Lib.hid hRa
  have HOs0 := Lib.hid hO0
  clear hO0 hRa
  have hBwb_6 := Below.refl wb.heap.size wb
  go_wp2_with (fail)
  refine (toIntS a1 len1 cap1 b1 o1 M1 _ (H1.out.below hBw_5) hn1).mono ?_
  rintro e wx1 ⟨Ax1, cx1, rfl, hO, hN⟩
  have hBw_7 := below_more hBw_5 hN
  clear hBw_5
  have hBwb_7 := below_more hBwb_6 hN
  clear hBwb_6
  have hzwx1 := hN.size
  clear hN
  have HLx1 := Lib.hid (show ∀ g, (Value.slice Ax1 len1 cx1).ownBlock = some g → _ from fun g hg => hO.lt g hg)
  have HOx1 := Lib.hid hO
  obtain ⟨bx1, hRa⟩ := hO.ia
  have HRx1 := Lib.hid hRa
  clear hO hRa
  have hBwx1_8 := Below.refl wx1.heap.size wx1
  go_wp2_with (fail)
  refine (toIntS a2 len2 cap2 b2 o2 M2 _ (H2.out.below hBw_7) hn2).mono ?_
  rintro e wx2 ⟨Ax2, cx2, rfl, hO, hN⟩
  have hBw_9 := below_more hBw_7 hN
  clear hBw_7
  have hBwb_9 := below_more hBwb_7 hN
  clear hBwb_7
  have hBwx1_9 := below_more hBwx1_8 hN
  clear hBwx1_8
  have hzwx2 := hN.size
  clear hN
  have HLx2 := Lib.hid (show ∀ g, (Value.slice Ax2 len2 cx2).ownBlock = some g → _ from fun g hg => hO.lt g hg)
  have HOx2 := Lib.hid hO
  obtain ⟨bx2, hRa⟩ := hO.ia
  have HRx2 := Lib.hid hRa
  clear hO hRa
  have hBwx2_10 := Below.refl wx2.heap.size wx2
  go_wp2_with (fail)
  refine (implSeriesTimes a0 Ax1 len1 cx1 bx1 0 M1 Ax2 len2 cx2 bx2 0 M2 _ (HRx1.out.below hBwx1_9) (HRx2.out.below hBwx2_10)).mono ?_
  rw [HRV.out]
  rintro e wd ⟨Ag0, cg0, rfl, hO0, hN⟩
  have hBw_11 := below_more hBw_9 hN
  clear hBw_9
  have hBwb_11 := below_more hBwb_9 hN
  clear hBwb_9
  have hBwx1_11 := below_more hBwx1_9 hN
  clear hBwx1_9
  have hBwx2_11 := below_more hBwx2_10 hN
  clear hBwx2_10
  have hzwd := hN.size
  clear hN
  have HLg0 := Lib.hid (show ∀ g, (Value.slice Ag0 RS0.length cg0).ownBlock = some g → _ from fun g hg => hO0.lt g hg)
  obtain ⟨bg0, hRa⟩ := hO0.ia
  have HRg0 := Lib.hid hRa
  have HOg0 := Lib.hid hO0
  clear hO0 hRa
  have hBwd_12 := Below.refl wd.heap.size wd
  go_wp2_with (fail)
  refine (eqIntS Ag0 RS0.length cg0 bg0 0 RS0 As0 RS0.length cs0 bs0 0 RS0 _ (HRg0.out.below hBwd_12) (HRs0.out.below hBwb_11)).mono ?_
  rintro e we13 ⟨rfl, hm⟩
  rw [decide_eq_true (rfl : RS0 = RS0)]
  have hBw_14 := below_drawn hBw_11 hm
  clear hBw_11
  have hBwb_14 := below_drawn hBwb_11 hm
  clear hBwb_11
  have hBwx1_14 := below_drawn hBwx1_11 hm
  clear hBwx1_11
  have hBwx2_14 := below_drawn hBwx2_11 hm
  clear hBwx2_11
  have hBwd_14 := below_drawn hBwd_12 hm
  clear hBwd_12
  clear hm
  go_wp2_with (fail)
  refine (toIntS a1 len1 cap1 b1 o1 M1 _ (H1.out.below hBw_14) hn1).mono ?_
  rintro e wf1 ⟨Af1, cf1, rfl, hO, hN⟩
  have hBw_15 := below_more hBw_14 hN
  clear hBw_14
  have hBwb_15 := below_more hBwb_14 hN
  clear hBwb_14
  have hBwx1_15 := below_more hBwx1_14 hN
  clear hBwx1_14
  have hBwx2_15 := below_more hBwx2_14 hN
  clear hBwx2_14
  have hBwd_15 := below_more hBwd_14 hN
  clear hBwd_14
  have hzwf1 := hN.size
  clear hN
  have HLf1 := Lib.hid (show ∀ g, (Value.slice Af1 len1 cf1).ownBlock = some g → _ from fun g hg => hO.lt g hg)
  have HOf1 := Lib.hid hO
  obtain ⟨bf1, hRa⟩ := hO.ia
  have HRf1 := Lib.hid hRa
  clear hO hRa
  have hBwf1_16 := Below.refl wf1.heap.size wf1
  go_wp2_with (fail)
  refine (eqIntS Ax1 len1 cx1 bx1 0 M1 Af1 len1 cf1 bf1 0 M1 _ (HRx1.out.below hBwx1_15) (HRf1.out.below hBwf1_16)).mono ?_
  rintro e we17 ⟨rfl, hm⟩
  rw [decide_eq_true (rfl : M1 = M1)]
  have hBw_18 := below_drawn hBw_15 hm
  clear hBw_15
  have hBwb_18 := below_drawn hBwb_15 hm
  clear hBwb_15
  have hBwx1_18 := below_drawn hBwx1_15 hm
  clear hBwx1_15
  have hBwx2_18 := below_drawn hBwx2_15 hm
  clear hBwx2_15
  have hBwd_18 := below_drawn hBwd_15 hm
  clear hBwd_15
  have hBwf1_18 := below_drawn hBwf1_16 hm
  clear hBwf1_16
  clear hm
  go_wp2_with (fail)
  refine (toIntS a2 len2 cap2 b2 o2 M2 _ (H2.out.below hBw_18) hn2).mono ?_
  rintro e wf2 ⟨Af2, cf2, rfl, hO, hN⟩
  have hBw_19 := below_more hBw_18 hN
  clear hBw_18
  have hBwb_19 := below_more hBwb_18 hN
  clear hBwb_18
  have hBwx1_19 := below_more hBwx1_18 hN
  clear hBwx1_18
  have hBwx2_19 := below_more hBwx2_18 hN
  clear hBwx2_18
  have hBwd_19 := below_more hBwd_18 hN
  clear hBwd_18
  have hzwf2 := hN.size
  clear hN
  have HLf2 := Lib.hid (show ∀ g, (Value.slice Af2 len2 cf2).ownBlock = some g → _ from fun g hg => hO.lt g hg)
  have HOf2 := Lib.hid hO
  obtain ⟨bf2, hRa⟩ := hO.ia
  have HRf2 := Lib.hid hRa
  clear hO hRa
  have hBwf2_20 := Below.refl wf2.heap.size wf2
  go_wp2_with (fail)
  refine (eqIntS Ax2 len2 cx2 bx2 0 M2 Af2 len2 cf2 bf2 0 M2 _ (HRx2.out.below hBwx2_19) (HRf2.out.below hBwf2_20)).mono ?_
  rintro e we21 ⟨rfl, hm⟩
  rw [decide_eq_true (rfl : M2 = M2)]
  have hBw_22 := below_drawn hBw_19 hm
  clear hBw_19
  have hBwb_22 := below_drawn hBwb_19 hm
  clear hBwb_19
  have hBwx1_22 := below_drawn hBwx1_19 hm
  clear hBwx1_19
  have hBwx2_22 := below_drawn hBwx2_19 hm
  clear hBwx2_19
  have hBwd_22 := below_drawn hBwd_19 hm
  clear hBwd_19
  have hBwf2_22 := below_drawn hBwf2_20 hm
  clear hBwf2_20
  clear hm
  go_wp2_with (fail)
  have hown := OIb HOx1.out hBwx1_22
  refine (markIntS wb.heap.size Ax1 len1 cx1 M1 (1) _ hown (by omega) (by omega)).mono ?_
  rintro e wm1 ⟨rfl, _, hK0⟩
  have hK := hK0.mono (T := fun g => wb.heap.size ≤ g ∧ g < wx1.heap.size) (fun g _ hg => HLx1.out g hg)
  clear hK0 hown
  have hzzwm1 := hK.size
  have hX := hK.below (B := wb.heap.size) (by have h1 := (hBwb_22).size; omega) (fun k hk => by omega)
  have hBwb_23 := (hBwb_22).trans hX
  have hBw_23 := (hBw_22).trans (hX.mono (by omega))
  have hO := OIk (OIb HOx2.out hBwx2_22) hK (fun g hg hs => by have := HLx2.out g hg; omega)
  clear HOx2
  have HOx2 := Lib.hid hO
  clear hO
  have hOg := OIk (OIb HOg0.out hBwd_22) hK (fun g hg hs => by have := HLg0.out g hg; omega)
  obtain ⟨bg0_0, hRa⟩ := hOg.ia
  clear HOg0 HRg0
  have HOg0 := Lib.hid hOg
  have HRg0 := Lib.hid hRa
  clear hOg hRa
  clear hK hX
  have hBx2_24 := Below.refl wm1.heap.size wm1
  have hBwd_25 := Below.refl wm1.heap.size wm1
  go_wp2_with (fail)
  have hown := OIb HOx2.out hBx2_24
  refine (markIntS wx1.heap.size Ax2 len2 cx2 M2 (1 + (len1 : Int)) _ hown (by omega) (by omega)).mono ?_
  rintro e wm2 ⟨rfl, _, hK0⟩
  have hK := hK0.mono (T := fun g => wx1.heap.size ≤ g ∧ g < wx2.heap.size) (fun g _ hg => HLx2.out g hg)
  clear hK0 hown
  have hzzwm2 := hK.size
  have hX := hK.below (B := wb.heap.size) (by have h1 := (hBwb_23).size; omega) (fun k hk => by omega)
  have hBwb_26 := (hBwb_23).trans hX
  have hBw_26 := (hBw_23).trans (hX.mono (by omega))
  have hOg := OIk (OIb HOg0.out hBwd_25) hK (fun g hg hs => by have := HLg0.out g hg; omega)
  obtain ⟨bg0_1, hRa⟩ := hOg.ia
  clear HOg0 HRg0
  have HOg0 := Lib.hid hOg
  have HRg0 := Lib.hid hRa
  clear hOg hRa
  clear hK hX
  have hBwd_27 := Below.refl wm2.heap.size wm2
  have hpos : 0 ≤ 1 + (len1 : Int) + (len2 : Int) := by omega
  go_wp2_with (fail)
  refine (eqIntS Ag0 RS0.length cg0 bg0_1 0 RS0 As0 RS0.length cs0 bs0 0 RS0 _ (HRg0.out.below hBwd_27) (HRs0.out.below hBwb_26)).mono ?_
  rintro e we28 ⟨rfl, hm⟩
  rw [decide_eq_true (rfl : RS0 = RS0)]
  have hBw_29 := below_drawn hBw_26 hm
  clear hBw_26
  have hBwb_29 := below_drawn hBwb_26 hm
  clear hBwb_26
  have hBwd_29 := below_drawn hBwd_27 hm
  clear hBwd_27
  clear hm
  go_wp2_with (fail)
  refine (markIntS wx2.heap.size Ag0 RS0.length cg0 RS0 (1) _ (OIb HOg0.out hBwd_29) (by omega) (by omega)).mono ?_
  rintro e wj0 ⟨rfl, hO, hK0⟩
  have hK := hK0.mono (T := fun g => wx2.heap.size ≤ g ∧ (Value.slice Ag0 RS0.length cg0).ownBlock = some g) (fun g _ hg => ⟨(HLg0.out g hg).1, hg⟩)
  clear hK0
  have hzzwj0 := hK.size
  have hX := hK.below (B := wb.heap.size) (by have h1 := (hBwb_29).size; omega) (fun k hk => by have := hk.1; omega)
  have hBwb_30 := (hBwb_29).trans hX
  have hBw_30 := (hBw_29).trans (hX.mono (by omega))
  have HOj0 := Lib.hid hO
  clear hO hK hX
  have hBwd_31 := Below.refl wj0.heap.size wj0
  have hBwj_32 := Below.refl wj0.heap.size wj0
  obtain ⟨bj0, hRa⟩ := HOj0.out.ia
  have HRj0 := Lib.hid hRa
  clear hRa
  go_wp2_with (fail)
  refine (heldIntS Ag0 RS0.length cg0 bj0 0 (1) _ (HRj0.out.below hBwj_32) (by omega) (by omega)).mono ?_
  rintro e w' ⟨rfl, rfl⟩
  have hpq0 : 0 ≤ 1 + (RS0.length : Int) := by omega
  have hqg : ((1 + (RS0.length : Int)) != (1 + (RS0.length : Int))) = false := by simp
  go_wp2_with (fail)
  refine (toIntS a1 len1 cap1 b1 o1 M1 _ (H1.out.below hBw_30) hn1).mono ?_
  rintro e wy1 ⟨Ay1, cy1, rfl, hO, hN⟩
  have hBw_33 := below_more hBw_30 hN
  clear hBw_30
  have hBwb_33 := below_more hBwb_30 hN
  clear hBwb_30
  have hBwj_33 := below_more hBwj_32 hN
  clear hBwj_32
  have hzwy1 := hN.size
  clear hN
  have HLy1 := Lib.hid (show ∀ g, (Value.slice Ay1 len1 cy1).ownBlock = some g → _ from fun g hg => hO.lt g hg)
  have HOy1 := Lib.hid hO
  obtain ⟨by1, hRa⟩ := hO.ia
  have HRy1 := Lib.hid hRa
  clear hO hRa
  have hBwy1_34 := Below.refl wy1.heap.size wy1
  go_wp2_with (fail)
  refine (toIntS a2 len2 cap2 b2 o2 M2 _ (H2.out.below hBw_33) hn2).mono ?_
  rintro e wy2 ⟨Ay2, cy2, rfl, hO, hN⟩
  have hBw_35 := below_more hBw_33 hN
  clear hBw_33
  have hBwb_35 := below_more hBwb_33 hN
  clear hBwb_33
  have hBwj_35 := below_more hBwj_33 hN
  clear hBwj_33
  have hBwy1_35 := below_more hBwy1_34 hN
  clear hBwy1_34
  have hzwy2 := hN.size
  clear hN
  have HLy2 := Lib.hid (show ∀ g, (Value.slice Ay2 len2 cy2).ownBlock = some g → _ from fun g hg => hO.lt g hg)
  have HOy2 := Lib.hid hO
  obtain ⟨by2, hRa⟩ := hO.ia
  have HRy2 := Lib.hid hRa
  clear hO hRa
  have hBwy2_36 := Below.refl wy2.heap.size wy2
  go_wp2_with (fail)
  refine (implSeriesTimes a0 Ay1 len1 cy1 by1 0 M1 Ay2 len2 cy2 by2 0 M2 _ (HRy1.out.below hBwy1_35) (HRy2.out.below hBwy2_36)).mono ?_
  rw [HRV.out]
  rintro e wl ⟨Al0, cl0, rfl, hO0, hN⟩
  have hBw_37 := below_more hBw_35 hN
  clear hBw_35
  have hBwb_37 := below_more hBwb_35 hN
  clear hBwb_35
  have hBwj_37 := below_more hBwj_35 hN
  clear hBwj_35
  have hBwy1_37 := below_more hBwy1_35 hN
  clear hBwy1_35
  have hBwy2_37 := below_more hBwy2_36 hN
  clear hBwy2_36
  have hzwl := hN.size
  clear hN
  have HLl0 := Lib.hid (show ∀ g, (Value.slice Al0 RS0.length cl0).ownBlock = some g → _ from fun g hg => hO0.lt g hg)
  obtain ⟨bl0, hRa⟩ := hO0.ia
  have HRl0 := Lib.hid hRa
  have HOl0 := Lib.hid hO0
  clear hO0 hRa
  have hBwl_38 := Below.refl wl.heap.size wl
  go_wp2_with (fail)
  refine (eqIntS Al0 RS0.length cl0 bl0 0 RS0 As0 RS0.length cs0 bs0 0 RS0 _ (HRl0.out.below hBwl_38) (HRs0.out.below hBwb_37)).mono ?_
  rintro e we39 ⟨rfl, hm⟩
  rw [decide_eq_true (rfl : RS0 = RS0)]
  have hBw_40 := below_drawn hBw_37 hm
  clear hBw_37
  have hBwb_40 := below_drawn hBwb_37 hm
  clear hBwb_37
  have hBwj_40 := below_drawn hBwj_37 hm
  clear hBwj_37
  have hBwy1_40 := below_drawn hBwy1_37 hm
  clear hBwy1_37
  have hBwy2_40 := below_drawn hBwy2_37 hm
  clear hBwy2_37
  have hBwl_40 := below_drawn hBwl_38 hm
  clear hBwl_38
  clear hm
  go_wp2_with (fail)
  refine (heldIntS Ag0 RS0.length cg0 bj0 0 (1) _ (HRj0.out.below hBwj_40) (by omega) (by omega)).mono ?_
  rintro e w' ⟨rfl, rfl⟩
  have hpq0 : 0 ≤ 1 + (RS0.length : Int) := by omega
  go_wp2_with (fail)
  go_ret
  exact ⟨rfl, hBw_40⟩
end Go.Proofs.Ytmmadmfpbancmab

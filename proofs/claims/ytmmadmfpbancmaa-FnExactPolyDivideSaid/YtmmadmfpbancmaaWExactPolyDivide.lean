/-
  The walk of the exact law of PolyDivide.
-/
import Derived.Test.YtmmadmfpbancmaaIDiv
import Derived.Test.YtmmadmfpbancmaaEx
namespace Go.Proofs.Ytmmadmfpbancmaa
open Go.RowKit
set_option maxRecDepth 100000 in
set_option maxHeartbeats 2000000 in
set_option linter.unusedVariables false in
theorem walkFnExactPolyDivide (a0 : Int) (a1 : Option Addr) (len1 cap1 : Nat) (z1 : List Int) (a2 : Option Addr) (len2 cap2 : Nat) (z2 : List Int) (w : World) (w0 : (Lit.int .i64 a0).wf = true) (w1 : IsRow .i64 w a1 len1 cap1 z1) (w2 : IsRow .i64 w a2 len2 cap2 z2) :
    Calls Try.prog 12 #[.int .i64 a0, .slice a1 len1 cap1, .slice a2 len2 cap2] w fun e w' => e = .returned (.bool true) ∧ Below w.heap.size w w' := by
  obtain ⟨b1, o1, hR1⟩ := w1.ia
  obtain ⟨M1, hM1⟩ : ∃ M, z1.take len1 = M := ⟨_, rfl⟩
  rw [hM1] at hR1
  have hbg1 := hR1.big
  have H1 := Lib.hid hR1
  obtain ⟨b2, o2, hR2⟩ := w2.ia
  obtain ⟨M2, hM2⟩ : ∃ M, z2.take len2 = M := ⟨_, rfl⟩
  rw [hM2] at hR2
  have hbg2 := hR2.big
  have H2 := Lib.hid hR2
  clear w0 w1 w2 hR1 hR2
  go_enter Try.func12, Try.ntmps12
  by_cases hn1 : len1 ≤ 1048576
  case neg =>
    have hg1 : decide (1048576 < (len1 : Int)) = true := decide_eq_true (by omega)
    go_wp2_with (fail)
    go_ret
    exact ⟨rfl, Below.refl _ _⟩
  have hg1 : decide (1048576 < (len1 : Int)) = false := decide_eq_false (by omega)
  by_cases hn2 : len2 ≤ 1048576
  case neg =>
    have hg2 : decide (1048576 < (len2 : Int)) = true := decide_eq_true (by omega)
    go_wp2_with (fail)
    go_ret
    exact ⟨rfl, Below.refl _ _⟩
  have hg2 : decide (1048576 < (len2 : Int)) = false := decide_eq_false (by omega)
  obtain ⟨RV, hRV⟩ : ∃ RV, polDiv a0 M1 M2 = RV := ⟨_, rfl⟩
  have hbd := polDiv_bd a0 M1 M2
  rw [hRV] at hbd
  obtain ⟨RS0, hRS0⟩ : ∃ RS, (RV.getD ([], [])).1 = RS := ⟨_, rfl⟩
  rw [hRS0] at hbd
  obtain ⟨RS1, hRS1⟩ : ∃ RS, (RV.getD ([], [])).2 = RS := ⟨_, rfl⟩
  rw [hRS1] at hbd
  obtain ⟨RB, hRB⟩ : ∃ RB, RV.isSome = RB := ⟨_, rfl⟩
  have hqb : (RB != RB) = false := by cases RB <;> rfl
  have HRB := Lib.hid hRB
  clear hRB
  have HRS0 := Lib.hid hRS0
  clear hRS0
  have HRS1 := Lib.hid hRS1
  clear hRS1
  obtain ⟨hbd0, hbd1⟩ := hbd
  have HRV := Lib.hid hRV
  clear hRV
  have hBw0 := Below.refl w.heap.size w
  go_wp2_with (fail)
  refine (toIntS a1 len1 cap1 b1 o1 M1 _ (H1.out.below hBw0) hn1).mono ?_
  rintro e ws1 ⟨As1, cs1, rfl, hO, hN⟩
  have hBw_1 := below_more hBw0 hN
  clear hBw0
  have hzws1 := hN.size
  clear hN
  have HLs1 := Lib.hid (show ∀ g, (Value.slice As1 len1 cs1).ownBlock = some g → _ from fun g hg => hO.lt g hg)
  have HOs1 := Lib.hid hO
  obtain ⟨bs1, hRa⟩ := hO.ia
  have HRs1 := Lib.hid hRa
  clear hO hRa
  have hBws1_2 := Below.refl ws1.heap.size ws1
  go_wp2_with (fail)
  refine (toIntS a2 len2 cap2 b2 o2 M2 _ (H2.out.below hBw_1) hn2).mono ?_
  rintro e ws2 ⟨As2, cs2, rfl, hO, hN⟩
  have hBw_3 := below_more hBw_1 hN
  clear hBw_1
  have hBws1_3 := below_more hBws1_2 hN
  clear hBws1_2
  have hzws2 := hN.size
  clear hN
  have HLs2 := Lib.hid (show ∀ g, (Value.slice As2 len2 cs2).ownBlock = some g → _ from fun g hg => hO.lt g hg)
  have HOs2 := Lib.hid hO
  obtain ⟨bs2, hRa⟩ := hO.ia
  have HRs2 := Lib.hid hRa
  clear hO hRa
  have hBws2_4 := Below.refl ws2.heap.size ws2
  go_wp2_with (fail)
  refine (specPolyDivide a0 As1 len1 cs1 bs1 0 M1 As2 len2 cs2 bs2 0 M2 _ (HRs1.out.below hBws1_3) (HRs2.out.below hBws2_4)).mono ?_
  rw [HRV.out]
  rintro e wb ⟨As0, cs0, As1, cs1, rfl, hO0, hO1, haps01, hN⟩
  rw [HRS0.out] at hO0 haps01
  rw [HRS1.out] at hO1 haps01
  rw [HRS0.out, HRS1.out, HRB.out]
  have hBw_5 := below_more hBw_3 hN
  clear hBw_3
  have hBws1_5 := below_more hBws1_3 hN
  clear hBws1_3
  have hBws2_5 := below_more hBws2_4 hN
  clear hBws2_4
  have hzwb := hN.size
  clear hN
  have HLs0 := Lib.hid (show ∀ g, (Value.slice As0 RS0.length cs0).ownBlock = some g → _ from fun g hg => hO0.lt g hg)
  obtain ⟨bs0, hRa⟩ := hO0.ia
  have HRs0 := Lib.hid hRa
  have HOs0 := Lib.hid hO0
  clear hO0 hRa
  have HLs1 := Lib.hid (show ∀ g, (Value.slice As1 RS1.length cs1).ownBlock = some g → _ from fun g hg => hO1.lt g hg)
  obtain ⟨bs1, hRa⟩ := hO1.ia
  have HRs1 := Lib.hid hRa
  have HOs1 := Lib.hid hO1
  clear hO1 hRa
  have HAPs01 := Lib.hid haps01
  clear haps01
  have hBwb_6 := Below.refl wb.heap.size wb
  go_wp2_with (fail)
  refine (toIntS a1 len1 cap1 b1 o1 M1 _ (H1.out.below hBw_5) hn1).mono ?_
  rintro e wx1 ⟨Ax1, cx1, rfl, hO, hN⟩
  have hBw_7 := below_more hBw_5 hN
  clear hBw_5
  have hBwb_7 := below_more hBwb_6 hN
  clear hBwb_6
  have hzwx1 := hN.size
  clear hN
  have HLx1 := Lib.hid (show ∀ g, (Value.slice Ax1 len1 cx1).ownBlock = some g → _ from fun g hg => hO.lt g hg)
  have HOx1 := Lib.hid hO
  obtain ⟨bx1, hRa⟩ := hO.ia
  have HRx1 := Lib.hid hRa
  clear hO hRa
  have hBwx1_8 := Below.refl wx1.heap.size wx1
  go_wp2_with (fail)
  refine (toIntS a2 len2 cap2 b2 o2 M2 _ (H2.out.below hBw_7) hn2).mono ?_
  rintro e wx2 ⟨Ax2, cx2, rfl, hO, hN⟩
  have hBw_9 := below_more hBw_7 hN
  clear hBw_7
  have hBwb_9 := below_more hBwb_7 hN
  clear hBwb_7
  have hBwx1_9 := below_more hBwx1_8 hN
  clear hBwx1_8
  have hzwx2 := hN.size
  clear hN
  have HLx2 := Lib.hid (show ∀ g, (Value.slice Ax2 len2 cx2).ownBlock = some g → _ from fun g hg => hO.lt g hg)
  have HOx2 := Lib.hid hO
  obtain ⟨bx2, hRa⟩ := hO.ia
  have HRx2 := Lib.hid hRa
  clear hO hRa
  have hBwx2_10 := Below.refl wx2.heap.size wx2
  go_wp2_with (fail)
  refine (implPolyDivide a0 Ax1 len1 cx1 bx1 0 M1 Ax2 len2 cx2 bx2 0 M2 _ (HRx1.out.below hBwx1_9) (HRx2.out.below hBwx2_10)).mono ?_
  rw [HRV.out]
  rintro e wd ⟨Ag0, cg0, Ag1, cg1, rfl, hO0, hO1, hapg01, hN⟩
  rw [HRS0.out] at hO0 hapg01
  rw [HRS1.out] at hO1 hapg01
  rw [HRS0.out, HRS1.out, HRB.out]
  have hBw_11 := below_more hBw_9 hN
  clear hBw_9
  have hBwb_11 := below_more hBwb_9 hN
  clear hBwb_9
  have hBwx1_11 := below_more hBwx1_9 hN
  clear hBwx1_9
  have hBwx2_11 := below_more hBwx2_10 hN
  clear hBwx2_10
  have hzwd := hN.size
  clear hN
  have HLg0 := Lib.hid (show ∀ g, (Value.slice Ag0 RS0.length cg0).ownBlock = some g → _ from fun g hg => hO0.lt g hg)
  obtain ⟨bg0, hRa⟩ := hO0.ia
  have HRg0 := Lib.hid hRa
  have HOg0 := Lib.hid hO0
  clear hO0 hRa
  have HLg1 := Lib.hid (show ∀ g, (Value.slice Ag1 RS1.length cg1).ownBlock = some g → _ from fun g hg => hO1.lt g hg)
  obtain ⟨bg1, hRa⟩ := hO1.ia
  have HRg1 := Lib.hid hRa
  have HOg1 := Lib.hid hO1
  clear hO1 hRa
  have HAPg01 := Lib.hid hapg01
  clear hapg01
  have hBwd_12 := Below.refl wd.heap.size wd
  go_wp2_with (fail)
  refine (eqIntS Ag0 RS0.length cg0 bg0 0 RS0 As0 RS0.length cs0 bs0 0 RS0 _ (HRg0.out.below hBwd_12) (HRs0.out.below hBwb_11)).mono ?_
  rintro e we13 ⟨rfl, hm⟩
  rw [decide_eq_true (rfl : RS0 = RS0)]
  have hBw_14 := below_drawn hBw_11 hm
  clear hBw_11
  have hBwb_14 := below_drawn hBwb_11 hm
  clear hBwb_11
  have hBwx1_14 := below_drawn hBwx1_11 hm
  clear hBwx1_11
  have hBwx2_14 := below_drawn hBwx2_11 hm
  clear hBwx2_11
  have hBwd_14 := below_drawn hBwd_12 hm
  clear hBwd_12
  clear hm
  go_wp2_with (fail)
  refine (eqIntS Ag1 RS1.length cg1 bg1 0 RS1 As1 RS1.length cs1 bs1 0 RS1 _ (HRg1.out.below hBwd_14) (HRs1.out.below hBwb_14)).mono ?_
  rintro e we15 ⟨rfl, hm⟩
  rw [decide_eq_true (rfl : RS1 = RS1)]
  have hBw_16 := below_drawn hBw_14 hm
  clear hBw_14
  have hBwb_16 := below_drawn hBwb_14 hm
  clear hBwb_14
  have hBwx1_16 := below_drawn hBwx1_14 hm
  clear hBwx1_14
  have hBwx2_16 := below_drawn hBwx2_14 hm
  clear hBwx2_14
  have hBwd_16 := below_drawn hBwd_14 hm
  clear hBwd_14
  clear hm
  go_wp2_with (fail)
  refine (toIntS a1 len1 cap1 b1 o1 M1 _ (H1.out.below hBw_16) hn1).mono ?_
  rintro e wf1 ⟨Af1, cf1, rfl, hO, hN⟩
  have hBw_17 := below_more hBw_16 hN
  clear hBw_16
  have hBwb_17 := below_more hBwb_16 hN
  clear hBwb_16
  have hBwx1_17 := below_more hBwx1_16 hN
  clear hBwx1_16
  have hBwx2_17 := below_more hBwx2_16 hN
  clear hBwx2_16
  have hBwd_17 := below_more hBwd_16 hN
  clear hBwd_16
  have hzwf1 := hN.size
  clear hN
  have HLf1 := Lib.hid (show ∀ g, (Value.slice Af1 len1 cf1).ownBlock = some g → _ from fun g hg => hO.lt g hg)
  have HOf1 := Lib.hid hO
  obtain ⟨bf1, hRa⟩ := hO.ia
  have HRf1 := Lib.hid hRa
  clear hO hRa
  have hBwf1_18 := Below.refl wf1.heap.size wf1
  go_wp2_with (fail)
  refine (eqIntS Ax1 len1 cx1 bx1 0 M1 Af1 len1 cf1 bf1 0 M1 _ (HRx1.out.below hBwx1_17) (HRf1.out.below hBwf1_18)).mono ?_
  rintro e we19 ⟨rfl, hm⟩
  rw [decide_eq_true (rfl : M1 = M1)]
  have hBw_20 := below_drawn hBw_17 hm
  clear hBw_17
  have hBwb_20 := below_drawn hBwb_17 hm
  clear hBwb_17
  have hBwx1_20 := below_drawn hBwx1_17 hm
  clear hBwx1_17
  have hBwx2_20 := below_drawn hBwx2_17 hm
  clear hBwx2_17
  have hBwd_20 := below_drawn hBwd_17 hm
  clear hBwd_17
  have hBwf1_20 := below_drawn hBwf1_18 hm
  clear hBwf1_18
  clear hm
  go_wp2_with (fail)
  refine (toIntS a2 len2 cap2 b2 o2 M2 _ (H2.out.below hBw_20) hn2).mono ?_
  rintro e wf2 ⟨Af2, cf2, rfl, hO, hN⟩
  have hBw_21 := below_more hBw_20 hN
  clear hBw_20
  have hBwb_21 := below_more hBwb_20 hN
  clear hBwb_20
  have hBwx1_21 := below_more hBwx1_20 hN
  clear hBwx1_20
  have hBwx2_21 := below_more hBwx2_20 hN
  clear hBwx2_20
  have hBwd_21 := below_more hBwd_20 hN
  clear hBwd_20
  have hzwf2 := hN.size
  clear hN
  have HLf2 := Lib.hid (show ∀ g, (Value.slice Af2 len2 cf2).ownBlock = some g → _ from fun g hg => hO.lt g hg)
  have HOf2 := Lib.hid hO
  obtain ⟨bf2, hRa⟩ := hO.ia
  have HRf2 := Lib.hid hRa
  clear hO hRa
  have hBwf2_22 := Below.refl wf2.heap.size wf2
  go_wp2_with (fail)
  refine (eqIntS Ax2 len2 cx2 bx2 0 M2 Af2 len2 cf2 bf2 0 M2 _ (HRx2.out.below hBwx2_21) (HRf2.out.below hBwf2_22)).mono ?_
  rintro e we23 ⟨rfl, hm⟩
  rw [decide_eq_true (rfl : M2 = M2)]
  have hBw_24 := below_drawn hBw_21 hm
  clear hBw_21
  have hBwb_24 := below_drawn hBwb_21 hm
  clear hBwb_21
  have hBwx1_24 := below_drawn hBwx1_21 hm
  clear hBwx1_21
  have hBwx2_24 := below_drawn hBwx2_21 hm
  clear hBwx2_21
  have hBwd_24 := below_drawn hBwd_21 hm
  clear hBwd_21
  have hBwf2_24 := below_drawn hBwf2_22 hm
  clear hBwf2_22
  clear hm
  go_wp2_with (fail)
  have hown := OIb HOx1.out hBwx1_24
  refine (markIntS wb.heap.size Ax1 len1 cx1 M1 (1) _ hown (by omega) (by omega)).mono ?_
  rintro e wm1 ⟨rfl, _, hK0⟩
  have hK := hK0.mono (T := fun g => wb.heap.size ≤ g ∧ g < wx1.heap.size) (fun g _ hg => HLx1.out g hg)
  clear hK0 hown
  have hzzwm1 := hK.size
  have hX := hK.below (B := wb.heap.size) (by have h1 := (hBwb_24).size; omega) (fun k hk => by omega)
  have hBwb_25 := (hBwb_24).trans hX
  have hBw_25 := (hBw_24).trans (hX.mono (by omega))
  have hO := OIk (OIb HOx2.out hBwx2_24) hK (fun g hg hs => by have := HLx2.out g hg; omega)
  clear HOx2
  have HOx2 := Lib.hid hO
  clear hO
  have hOg := OIk (OIb HOg0.out hBwd_24) hK (fun g hg hs => by have := HLg0.out g hg; omega)
  obtain ⟨bg0_0, hRa⟩ := hOg.ia
  clear HOg0 HRg0
  have HOg0 := Lib.hid hOg
  have HRg0 := Lib.hid hRa
  clear hOg hRa
  have hOg := OIk (OIb HOg1.out hBwd_24) hK (fun g hg hs => by have := HLg1.out g hg; omega)
  obtain ⟨bg1_0, hRa⟩ := hOg.ia
  clear HOg1 HRg1
  have HOg1 := Lib.hid hOg
  have HRg1 := Lib.hid hRa
  clear hOg hRa
  clear hK hX
  have hBx2_26 := Below.refl wm1.heap.size wm1
  have hBwd_27 := Below.refl wm1.heap.size wm1
  go_wp2_with (fail)
  have hown := OIb HOx2.out hBx2_26
  refine (markIntS wx1.heap.size Ax2 len2 cx2 M2 (1 + (len1 : Int)) _ hown (by omega) (by omega)).mono ?_
  rintro e wm2 ⟨rfl, _, hK0⟩
  have hK := hK0.mono (T := fun g => wx1.heap.size ≤ g ∧ g < wx2.heap.size) (fun g _ hg => HLx2.out g hg)
  clear hK0 hown
  have hzzwm2 := hK.size
  have hX := hK.below (B := wb.heap.size) (by have h1 := (hBwb_25).size; omega) (fun k hk => by omega)
  have hBwb_28 := (hBwb_25).trans hX
  have hBw_28 := (hBw_25).trans (hX.mono (by omega))
  have hOg := OIk (OIb HOg0.out hBwd_27) hK (fun g hg hs => by have := HLg0.out g hg; omega)
  obtain ⟨bg0_1, hRa⟩ := hOg.ia
  clear HOg0 HRg0
  have HOg0 := Lib.hid hOg
  have HRg0 := Lib.hid hRa
  clear hOg hRa
  have hOg := OIk (OIb HOg1.out hBwd_27) hK (fun g hg hs => by have := HLg1.out g hg; omega)
  obtain ⟨bg1_1, hRa⟩ := hOg.ia
  clear HOg1 HRg1
  have HOg1 := Lib.hid hOg
  have HRg1 := Lib.hid hRa
  clear hOg hRa
  clear hK hX
  have hBwd_29 := Below.refl wm2.heap.size wm2
  have hpos : 0 ≤ 1 + (len1 : Int) + (len2 : Int) := by omega
  go_wp2_with (fail)
  refine (eqIntS Ag0 RS0.length cg0 bg0_1 0 RS0 As0 RS0.length cs0 bs0 0 RS0 _ (HRg0.out.below hBwd_29) (HRs0.out.below hBwb_28)).mono ?_
  rintro e we30 ⟨rfl, hm⟩
  rw [decide_eq_true (rfl : RS0 = RS0)]
  have hBw_31 := below_drawn hBw_28 hm
  clear hBw_28
  have hBwb_31 := below_drawn hBwb_28 hm
  clear hBwb_28
  have hBwd_31 := below_drawn hBwd_29 hm
  clear hBwd_29
  clear hm
  go_wp2_with (fail)
  refine (eqIntS Ag1 RS1.length cg1 bg1_1 0 RS1 As1 RS1.length cs1 bs1 0 RS1 _ (HRg1.out.below hBwd_31) (HRs1.out.below hBwb_31)).mono ?_
  rintro e we32 ⟨rfl, hm⟩
  rw [decide_eq_true (rfl : RS1 = RS1)]
  have hBw_33 := below_drawn hBw_31 hm
  clear hBw_31
  have hBwb_33 := below_drawn hBwb_31 hm
  clear hBwb_31
  have hBwd_33 := below_drawn hBwd_31 hm
  clear hBwd_31
  clear hm
  go_wp2_with (fail)
  refine (markIntS wx2.heap.size Ag0 RS0.length cg0 RS0 (1) _ (OIb HOg0.out hBwd_33) (by omega) (by omega)).mono ?_
  rintro e wj0 ⟨rfl, hO, hK0⟩
  have hK := hK0.mono (T := fun g => wx2.heap.size ≤ g ∧ (Value.slice Ag0 RS0.length cg0).ownBlock = some g) (fun g _ hg => ⟨(HLg0.out g hg).1, hg⟩)
  clear hK0
  have hzzwj0 := hK.size
  have hX := hK.below (B := wb.heap.size) (by have h1 := (hBwb_33).size; omega) (fun k hk => by have := hk.1; omega)
  have hBwb_34 := (hBwb_33).trans hX
  have hBw_34 := (hBw_33).trans (hX.mono (by omega))
  have hOg := OIk (OIb HOg1.out hBwd_33) hK (fun g hg hs => ap1 HAPg01.out hs.2 hg)
  clear HOg1
  have HOg1 := Lib.hid hOg
  clear hOg
  have HOj0 := Lib.hid hO
  clear hO hK hX
  have hBwd_35 := Below.refl wj0.heap.size wj0
  have hBwj_36 := Below.refl wj0.heap.size wj0
  go_wp2_with (fail)
  refine (markIntS wx2.heap.size Ag1 RS1.length cg1 RS1 (1 + (RS0.length : Int)) _ (OIb HOg1.out hBwd_35) (by omega) (by omega)).mono ?_
  rintro e wj1 ⟨rfl, hO, hK0⟩
  have hK := hK0.mono (T := fun g => wx2.heap.size ≤ g ∧ (Value.slice Ag1 RS1.length cg1).ownBlock = some g) (fun g _ hg => ⟨(HLg1.out g hg).1, hg⟩)
  clear hK0
  have hzzwj1 := hK.size
  have hX := hK.below (B := wb.heap.size) (by have h1 := (hBwb_34).size; omega) (fun k hk => by have := hk.1; omega)
  have hBwb_37 := (hBwb_34).trans hX
  have hBw_37 := (hBw_34).trans (hX.mono (by omega))
  have hOj := OIk (OIb HOj0.out hBwj_36) hK (fun g hg hs => ap1 HAPg01.out hg hs.2)
  clear HOj0
  have HOj0 := Lib.hid hOj
  clear hOj
  have HOj1 := Lib.hid hO
  clear hO hK hX
  have hBwd_38 := Below.refl wj1.heap.size wj1
  have hBwj_39 := Below.refl wj1.heap.size wj1
  obtain ⟨bj0, hRa⟩ := HOj0.out.ia
  have HRj0 := Lib.hid hRa
  clear hRa
  obtain ⟨bj1, hRa⟩ := HOj1.out.ia
  have HRj1 := Lib.hid hRa
  clear hRa
  go_wp2_with (fail)
  refine (heldIntS Ag0 RS0.length cg0 bj0 0 (1) _ (HRj0.out.below hBwj_39) (by omega) (by omega)).mono ?_
  rintro e w' ⟨rfl, rfl⟩
  have hpq0 : 0 ≤ 1 + (RS0.length : Int) := by omega
  go_wp2_with (fail)
  have hpk1 : 0 ≤ 1 + (RS0.length : Int) := by omega
  refine (heldIntS Ag1 RS1.length cg1 bj1 0 (1 + (RS0.length : Int)) _ (HRj1.out.below hBwj_39) (by omega) (by omega)).mono ?_
  rintro e w' ⟨rfl, rfl⟩
  have hpq1 : 0 ≤ 1 + (RS0.length : Int) + (RS1.length : Int) := by omega
  have hqg : ((1 + (RS0.length : Int) + (RS1.length : Int)) != (1 + (RS0.length : Int) + (RS1.length : Int))) = false := by simp
  go_wp2_with (fail)
  refine (toIntS a1 len1 cap1 b1 o1 M1 _ (H1.out.below hBw_37) hn1).mono ?_
  rintro e wy1 ⟨Ay1, cy1, rfl, hO, hN⟩
  have hBw_40 := below_more hBw_37 hN
  clear hBw_37
  have hBwb_40 := below_more hBwb_37 hN
  clear hBwb_37
  have hBwj_40 := below_more hBwj_39 hN
  clear hBwj_39
  have hzwy1 := hN.size
  clear hN
  have HLy1 := Lib.hid (show ∀ g, (Value.slice Ay1 len1 cy1).ownBlock = some g → _ from fun g hg => hO.lt g hg)
  have HOy1 := Lib.hid hO
  obtain ⟨by1, hRa⟩ := hO.ia
  have HRy1 := Lib.hid hRa
  clear hO hRa
  have hBwy1_41 := Below.refl wy1.heap.size wy1
  go_wp2_with (fail)
  refine (toIntS a2 len2 cap2 b2 o2 M2 _ (H2.out.below hBw_40) hn2).mono ?_
  rintro e wy2 ⟨Ay2, cy2, rfl, hO, hN⟩
  have hBw_42 := below_more hBw_40 hN
  clear hBw_40
  have hBwb_42 := below_more hBwb_40 hN
  clear hBwb_40
  have hBwj_42 := below_more hBwj_40 hN
  clear hBwj_40
  have hBwy1_42 := below_more hBwy1_41 hN
  clear hBwy1_41
  have hzwy2 := hN.size
  clear hN
  have HLy2 := Lib.hid (show ∀ g, (Value.slice Ay2 len2 cy2).ownBlock = some g → _ from fun g hg => hO.lt g hg)
  have HOy2 := Lib.hid hO
  obtain ⟨by2, hRa⟩ := hO.ia
  have HRy2 := Lib.hid hRa
  clear hO hRa
  have hBwy2_43 := Below.refl wy2.heap.size wy2
  go_wp2_with (fail)
  refine (implPolyDivide a0 Ay1 len1 cy1 by1 0 M1 Ay2 len2 cy2 by2 0 M2 _ (HRy1.out.below hBwy1_42) (HRy2.out.below hBwy2_43)).mono ?_
  rw [HRV.out]
  rintro e wl ⟨Al0, cl0, Al1, cl1, rfl, hO0, hO1, hapl01, hN⟩
  rw [HRS0.out] at hO0 hapl01
  rw [HRS1.out] at hO1 hapl01
  rw [HRS0.out, HRS1.out, HRB.out]
  have hBw_44 := below_more hBw_42 hN
  clear hBw_42
  have hBwb_44 := below_more hBwb_42 hN
  clear hBwb_42
  have hBwj_44 := below_more hBwj_42 hN
  clear hBwj_42
  have hBwy1_44 := below_more hBwy1_42 hN
  clear hBwy1_42
  have hBwy2_44 := below_more hBwy2_43 hN
  clear hBwy2_43
  have hzwl := hN.size
  clear hN
  have HLl0 := Lib.hid (show ∀ g, (Value.slice Al0 RS0.length cl0).ownBlock = some g → _ from fun g hg => hO0.lt g hg)
  obtain ⟨bl0, hRa⟩ := hO0.ia
  have HRl0 := Lib.hid hRa
  have HOl0 := Lib.hid hO0
  clear hO0 hRa
  have HLl1 := Lib.hid (show ∀ g, (Value.slice Al1 RS1.length cl1).ownBlock = some g → _ from fun g hg => hO1.lt g hg)
  obtain ⟨bl1, hRa⟩ := hO1.ia
  have HRl1 := Lib.hid hRa
  have HOl1 := Lib.hid hO1
  clear hO1 hRa
  have HAPl01 := Lib.hid hapl01
  clear hapl01
  have hBwl_45 := Below.refl wl.heap.size wl
  go_wp2_with (fail)
  refine (eqIntS Al0 RS0.length cl0 bl0 0 RS0 As0 RS0.length cs0 bs0 0 RS0 _ (HRl0.out.below hBwl_45) (HRs0.out.below hBwb_44)).mono ?_
  rintro e we46 ⟨rfl, hm⟩
  rw [decide_eq_true (rfl : RS0 = RS0)]
  have hBw_47 := below_drawn hBw_44 hm
  clear hBw_44
  have hBwb_47 := below_drawn hBwb_44 hm
  clear hBwb_44
  have hBwj_47 := below_drawn hBwj_44 hm
  clear hBwj_44
  have hBwy1_47 := below_drawn hBwy1_44 hm
  clear hBwy1_44
  have hBwy2_47 := below_drawn hBwy2_44 hm
  clear hBwy2_44
  have hBwl_47 := below_drawn hBwl_45 hm
  clear hBwl_45
  clear hm
  go_wp2_with (fail)
  refine (eqIntS Al1 RS1.length cl1 bl1 0 RS1 As1 RS1.length cs1 bs1 0 RS1 _ (HRl1.out.below hBwl_47) (HRs1.out.below hBwb_47)).mono ?_
  rintro e we48 ⟨rfl, hm⟩
  rw [decide_eq_true (rfl : RS1 = RS1)]
  have hBw_49 := below_drawn hBw_47 hm
  clear hBw_47
  have hBwb_49 := below_drawn hBwb_47 hm
  clear hBwb_47
  have hBwj_49 := below_drawn hBwj_47 hm
  clear hBwj_47
  have hBwy1_49 := below_drawn hBwy1_47 hm
  clear hBwy1_47
  have hBwy2_49 := below_drawn hBwy2_47 hm
  clear hBwy2_47
  have hBwl_49 := below_drawn hBwl_47 hm
  clear hBwl_47
  clear hm
  go_wp2_with (fail)
  refine (heldIntS Ag0 RS0.length cg0 bj0 0 (1) _ (HRj0.out.below hBwj_49) (by omega) (by omega)).mono ?_
  rintro e w' ⟨rfl, rfl⟩
  have hpq0 : 0 ≤ 1 + (RS0.length : Int) := by omega
  go_wp2_with (fail)
  have hpk1 : 0 ≤ 1 + (RS0.length : Int) := by omega
  refine (heldIntS Ag1 RS1.length cg1 bj1 0 (1 + (RS0.length : Int)) _ (HRj1.out.below hBwj_49) (by omega) (by omega)).mono ?_
  rintro e w' ⟨rfl, rfl⟩
  have hpq1 : 0 ≤ 1 + (RS0.length : Int) + (RS1.length : Int) := by omega
  go_wp2_with (fail)
  go_ret
  exact ⟨rfl, hBw_49⟩
end Go.Proofs.Ytmmadmfpbancmaa

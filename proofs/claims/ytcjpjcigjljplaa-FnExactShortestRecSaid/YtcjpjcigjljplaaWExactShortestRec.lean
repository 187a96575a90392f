/-
  The walk of the exact law of ShortestRec.
-/
import Derived.Deep.RegionHeld3
import Derived.Test.YtcjpjcigjljplaaShZ
import Derived.Test.YtcjpjcigjljplaaEx
namespace Go.Proofs.Ytcjpjcigjljplaa
open Go.RowKit
set_option maxRecDepth 100000 in
set_option maxHeartbeats 2000000 in
set_option linter.unusedVariables false in
theorem walkFnExactShortestRec (a0 : Int) (a1 : Option Addr) (len1 cap1 : Nat) (z1 : List Int) (w : World) (w0 : (Lit.int .i64 a0).wf = true) (w1 : IsRow .i64 w a1 len1 cap1 z1) :
    Calls Try.prog 7 #[.int .i64 a0, .slice a1 len1 cap1] w fun e w' => e = .returned (.bool true) ∧ Below w.heap.size w w' := by
  obtain ⟨b1, o1, hR1⟩ := w1.ia
  obtain ⟨M1, hM1⟩ : ∃ M, z1.take len1 = M := ⟨_, rfl⟩
  rw [hM1] at hR1
  have hbg1 := hR1.big
  have H1 := Lib.hid hR1
  clear hR1 hM1
  clear w0 w1
  go_enter Try.func7, Try.ntmps7
  have hBw0 := Below.refl w.heap.size w
  by_cases hn1 : len1 ≤ 1048576
  case neg =>
    have hg1 : decide (1048576 < (len1 : Int)) = true := decide_eq_true (by omega)
    go_wp2_with (fail)
    go_ret
    exact ⟨rfl, Below.refl _ _⟩
  have hg1 : decide (1048576 < (len1 : Int)) = false := decide_eq_false (by omega)
  obtain ⟨RV0, hRV⟩ : ∃ RV, shortR a0 M1 = RV := ⟨_, rfl⟩
  have hbd := shortR_len a0 M1
  rw [hRV] at hbd
  obtain ⟨RP, hRP⟩ : ∃ RP, (RV0.getD (0, [], [])).1 = RP := ⟨_, rfl⟩
  obtain ⟨RT, hRT⟩ : ∃ RT, (RV0.getD (0, [], [])).2.1 = RT := ⟨_, rfl⟩
  obtain ⟨RF, hRF⟩ : ∃ RF, (RV0.getD (0, [], [])).2.2 = RF := ⟨_, rfl⟩
  rw [hRT, hRF] at hbd
  have HRP := Lib.hid hRP
  have HRT := Lib.hid hRT
  have HRF := Lib.hid hRF
  clear hRP hRT hRF
  obtain ⟨hbT, hbF⟩ := hbd
  obtain ⟨RB, hRB⟩ : ∃ RB, RV0.isSome = RB := ⟨_, rfl⟩
  have hqb : (RB != RB) = false := by cases RB <;> rfl
  have HRB := Lib.hid hRB
  clear hRB
  have HRV := Lib.hid hRV
  clear hRV
  go_wp2_with (fail)
  refine (toIntS a1 len1 cap1 b1 o1 M1 _ (H1.out.below hBw0) hn1).mono ?_
  rintro e ws1 ⟨As1, cs1, rfl, hO, hN⟩
  have hBw_1 := below_more hBw0 hN
  clear hBw0
  have hzws1 := hN.size
  clear hN
  have hcaps1 := OI.capLe hO
  have HLs1 := Lib.hid (show ∀ g, (Value.slice As1 len1 cs1).ownBlock = some g → _ from fun g hg => hO.lt g hg)
  have HOs1 := Lib.hid hO
  obtain ⟨bs1, hRa⟩ := hO.ia
  have HRs1 := Lib.hid hRa
  clear hO hRa
  have hBws1_2 := Below.refl ws1.heap.size ws1
  go_wp2_with (fail)
  refine (specShortestRec a0 As1 len1 cs1 bs1 0 M1 _ (HRs1.out.below hBws1_2) hcaps1).mono ?_
  rw [HRV.out]
  rintro e wb ⟨_, rfl, hO0, hN⟩
  rw [HRP.out, HRT.out, HRF.out] at hO0
  rw [HRB.out]
  obtain ⟨As, cs, Bs, ds, rfl, hO1, hO2, hO3⟩ := hO0
  have hO : RO wb ws1.heap.size (.agg #[.int .i64 RP, .slice As RT.length cs, .slice Bs RF.length ds]) RP RT RF := ⟨As, cs, Bs, ds, rfl, hO1, hO2, hO3⟩
  clear hO1 hO2 hO3
  have hBw_3 := below_more hBw_1 hN
  clear hBw_1
  have hBws1_3 := below_more hBws1_2 hN
  clear hBws1_2
  have hzwb := hN.size
  clear hN
  have HLs := Lib.hid (show ∀ g, recBlk (.agg #[.int .i64 RP, .slice As RT.length cs, .slice Bs RF.length ds]) g → _ from fun g hg => hO.lt g hg)
  have HRs := Lib.hid hO.rv
  have HOs := Lib.hid hO
  clear hO
  have hBwb_4 := Below.refl wb.heap.size wb
  go_wp2_with (fail)
  obtain ⟨wqs, hQ⟩ : ∃ W, wb.alloc (.cells #[.int .i64 RP, .slice As RT.length cs, .slice Bs RF.length ds] 42) = W := ⟨_, rfl⟩
  rw [hQ]
  have hN : Below wb.heap.size wb wqs := by rw [← hQ]; exact (Below.refl _ _).alloc (Nat.le_refl _) _
  obtain ⟨hn0, hn1, hn2⟩ := box3 wb (.int .i64 RP) (.slice As RT.length cs) (.slice Bs RF.length ds) 42
  rw [hQ] at hn0 hn1 hn2
  have hnl : wb.heap.size < wqs.heap.size := cell_lt hn0
  have lcs := hnl
  clear hQ
  have hBw_5 := below_more hBw_3 hN
  clear hBw_3
  have hBwb_5 := below_more hBwb_4 hN
  clear hBwb_4
  have hzwqs := hN.size
  clear hN
  have bxs0 := hn0
  clear hn0
  have bxs1 := hn1
  clear hn1
  have bxs2 := hn2
  clear hn2
  have lbs := hnl
  clear hnl
  refine (toIntS a1 len1 cap1 b1 o1 M1 _ (H1.out.below hBw_5) hn1).mono ?_
  rintro e wx1 ⟨Ax1, cx1, rfl, hO, hN⟩
  have hBw_6 := below_more hBw_5 hN
  clear hBw_5
  have hBwb_6 := below_more hBwb_5 hN
  clear hBwb_5
  have hkN := keep_of_below hN
  have bxs0' := hkN.cell bxs0 (fun h => h)
  clear bxs0
  have bxs0 := bxs0'
  clear bxs0'
  have bxs1' := hkN.cell bxs1 (fun h => h)
  clear bxs1
  have bxs1 := bxs1'
  clear bxs1'
  have bxs2' := hkN.cell bxs2 (fun h => h)
  clear bxs2
  have bxs2 := bxs2'
  clear bxs2'
  have lbs' := Nat.lt_of_lt_of_le lbs hN.size
  clear lbs
  have lbs := lbs'
  clear lbs'
  clear hkN
  have hzwx1 := hN.size
  clear hN
  have hcapx1 := OI.capLe hO
  have HLx1 := Lib.hid (show ∀ g, (Value.slice Ax1 len1 cx1).ownBlock = some g → _ from fun g hg => hO.lt g hg)
  have HOx1 := Lib.hid hO
  obtain ⟨bx1, hRa⟩ := hO.ia
  have HRx1 := Lib.hid hRa
  clear hO hRa
  have hBwx1_7 := Below.refl wx1.heap.size wx1
  go_wp2_with (fail)
  refine (implShortestRec a0 Ax1 len1 cx1 bx1 0 M1 _ (HRx1.out.below hBwx1_7) hcapx1).mono ?_
  rw [HRV.out]
  rintro e wd ⟨_, rfl, hO0, hN⟩
  rw [HRP.out, HRT.out, HRF.out] at hO0
  rw [HRB.out]
  obtain ⟨Ag, cg, Bg, dg, rfl, hO1, hO2, hO3⟩ := hO0
  have hO : RO wd wx1.heap.size (.agg #[.int .i64 RP, .slice Ag RT.length cg, .slice Bg RF.length dg]) RP RT RF := ⟨Ag, cg, Bg, dg, rfl, hO1, hO2, hO3⟩
  clear hO1 hO2 hO3
  have hBw_8 := below_more hBw_6 hN
  clear hBw_6
  have hBwb_8 := below_more hBwb_6 hN
  clear hBwb_6
  have hBwx1_8 := below_more hBwx1_7 hN
  clear hBwx1_7
  have hkN := keep_of_below hN
  have bxs0' := hkN.cell bxs0 (fun h => h)
  clear bxs0
  have bxs0 := bxs0'
  clear bxs0'
  have bxs1' := hkN.cell bxs1 (fun h => h)
  clear bxs1
  have bxs1 := bxs1'
  clear bxs1'
  have bxs2' := hkN.cell bxs2 (fun h => h)
  clear bxs2
  have bxs2 := bxs2'
  clear bxs2'
  have lbs' := Nat.lt_of_lt_of_le lbs hN.size
  clear lbs
  have lbs := lbs'
  clear lbs'
  clear hkN
  have hzwd := hN.size
  clear hN
  have HLg := Lib.hid (show ∀ g, recBlk (.agg #[.int .i64 RP, .slice Ag RT.length cg, .slice Bg RF.length dg]) g → _ from fun g hg => hO.lt g hg)
  have HRg := Lib.hid hO.rv
  have HOg := Lib.hid hO
  clear hO
  have hBwd_9 := Below.refl wd.heap.size wd
  go_wp2_with (fail)
  obtain ⟨wqg, hQ⟩ : ∃ W, wd.alloc (.cells #[.int .i64 RP, .slice Ag RT.length cg, .slice Bg RF.length dg] 42) = W := ⟨_, rfl⟩
  rw [hQ]
  have hN : Below wd.heap.size wd wqg := by rw [← hQ]; exact (Below.refl _ _).alloc (Nat.le_refl _) _
  obtain ⟨hn0, hn1, hn2⟩ := box3 wd (.int .i64 RP) (.slice Ag RT.length cg) (.slice Bg RF.length dg) 42
  rw [hQ] at hn0 hn1 hn2
  have hnl : wd.heap.size < wqg.heap.size := cell_lt hn0
  have lcg := hnl
  clear hQ
  have hBw_10 := below_more hBw_8 hN
  clear hBw_8
  have hBwb_10 := below_more hBwb_8 hN
  clear hBwb_8
  have hBwx1_10 := below_more hBwx1_8 hN
  clear hBwx1_8
  have hBwd_10 := below_more hBwd_9 hN
  clear hBwd_9
  have hkN := keep_of_below hN
  have bxs0' := hkN.cell bxs0 (fun h => h)
  clear bxs0
  have bxs0 := bxs0'
  clear bxs0'
  have bxs1' := hkN.cell bxs1 (fun h => h)
  clear bxs1
  have bxs1 := bxs1'
  clear bxs1'
  have bxs2' := hkN.cell bxs2 (fun h => h)
  clear bxs2
  have bxs2 := bxs2'
  clear bxs2'
  have lbs' := Nat.lt_of_lt_of_le lbs hN.size
  clear lbs
  have lbs := lbs'
  clear lbs'
  clear hkN
  have hzwqg := hN.size
  clear hN
  have bxg0 := hn0
  clear hn0
  have bxg1 := hn1
  clear hn1
  have bxg2 := hn2
  clear hn2
  have lbg := hnl
  clear hnl
  refine (eqRec _ RP RT RF _ RP RT RF _ (HRg.out.below hBwd_10) (HRs.out.below hBwb_10)).mono ?_
  rintro e we11 ⟨rfl, hN⟩
  rw [decide_eq_true (show RP = RP ∧ RT = RT ∧ RF = RF from ⟨rfl, rfl, rfl⟩)]
  have hBw_12 := below_more hBw_10 hN
  clear hBw_10
  have hBwb_12 := below_more hBwb_10 hN
  clear hBwb_10
  have hBwx1_12 := below_more hBwx1_10 hN
  clear hBwx1_10
  have hBwd_12 := below_more hBwd_10 hN
  clear hBwd_10
  have hkN := keep_of_below hN
  have bxs0' := hkN.cell bxs0 (fun h => h)
  clear bxs0
  have bxs0 := bxs0'
  clear bxs0'
  have bxs1' := hkN.cell bxs1 (fun h => h)
  clear bxs1
  have bxs1 := bxs1'
  clear bxs1'
  have bxs2' := hkN.cell bxs2 (fun h => h)
  clear bxs2
  have bxs2 := bxs2'
  clear bxs2'
  have lbs' := Nat.lt_of_lt_of_le lbs hN.size
  clear lbs
  have lbs := lbs'
  clear lbs'
  have bxg0' := hkN.cell bxg0 (fun h => h)
  clear bxg0
  have bxg0 := bxg0'
  clear bxg0'
  have bxg1' := hkN.cell bxg1 (fun h => h)
  clear bxg1
  have bxg1 := bxg1'
  clear bxg1'
  have bxg2' := hkN.cell bxg2 (fun h => h)
  clear bxg2
  have bxg2 := bxg2'
  clear bxg2'
  have lbg' := Nat.lt_of_lt_of_le lbg hN.size
  clear lbg
  have lbg := lbg'
  clear lbg'
  clear hkN
  have hzwe11 := hN.size
  clear hN
  go_wp2_with (fail)
  refine (toIntS a1 len1 cap1 b1 o1 M1 _ (H1.out.below hBw_12) hn1).mono ?_
  rintro e wf1 ⟨Af1, cf1, rfl, hO, hN⟩
  have hBw_13 := below_more hBw_12 hN
  clear hBw_12
  have hBwb_13 := below_more hBwb_12 hN
  clear hBwb_12
  have hBwx1_13 := below_more hBwx1_12 hN
  clear hBwx1_12
  have hBwd_13 := below_more hBwd_12 hN
  clear hBwd_12
  have hkN := keep_of_below hN
  have bxs0' := hkN.cell bxs0 (fun h => h)
  clear bxs0
  have bxs0 := bxs0'
  clear bxs0'
  have bxs1' := hkN.cell bxs1 (fun h => h)
  clear bxs1
  have bxs1 := bxs1'
  clear bxs1'
  have bxs2' := hkN.cell bxs2 (fun h => h)
  clear bxs2
  have bxs2 := bxs2'
  clear bxs2'
  have lbs' := Nat.lt_of_lt_of_le lbs hN.size
  clear lbs
  have lbs := lbs'
  clear lbs'
  have bxg0' := hkN.cell bxg0 (fun h => h)
  clear bxg0
  have bxg0 := bxg0'
  clear bxg0'
  have bxg1' := hkN.cell bxg1 (fun h => h)
  clear bxg1
  have bxg1 := bxg1'
  clear bxg1'
  have bxg2' := hkN.cell bxg2 (fun h => h)
  clear bxg2
  have bxg2 := bxg2'
  clear bxg2'
  have lbg' := Nat.lt_of_lt_of_le lbg hN.size
  clear lbg
  have lbg := lbg'
  clear lbg'
  clear hkN
  have hzwf1 := hN.size
  clear hN
  have hcapf1 := OI.capLe hO
  have HLf1 := Lib.hid (show ∀ g, (Value.slice Af1 len1 cf1).ownBlock = some g → _ from fun g hg => hO.lt g hg)
  have HOf1 := Lib.hid hO
  obtain ⟨bf1, hRa⟩ := hO.ia
  have HRf1 := Lib.hid hRa
  clear hO hRa
  have hBwf1_14 := Below.refl wf1.heap.size wf1
  go_wp2_with (fail)
  refine (eqIntS Ax1 len1 cx1 bx1 0 M1 Af1 len1 cf1 bf1 0 M1 _ (HRx1.out.below hBwx1_13) (HRf1.out.below hBwf1_14)).mono ?_
  rintro e we15 ⟨rfl, hm⟩
  rw [decide_eq_true (rfl : M1 = M1)]
  have hN := below_drawn (Below.refl wf1.heap.size wf1) hm
  clear hm
  have hBw_16 := below_more hBw_13 hN
  clear hBw_13
  have hBwb_16 := below_more hBwb_13 hN
  clear hBwb_13
  have hBwx1_16 := below_more hBwx1_13 hN
  clear hBwx1_13
  have hBwd_16 := below_more hBwd_13 hN
  clear hBwd_13
  have hBwf1_16 := below_more hBwf1_14 hN
  clear hBwf1_14
  have hkN := keep_of_below hN
  have bxs0' := hkN.cell bxs0 (fun h => h)
  clear bxs0
  have bxs0 := bxs0'
  clear bxs0'
  have bxs1' := hkN.cell bxs1 (fun h => h)
  clear bxs1
  have bxs1 := bxs1'
  clear bxs1'
  have bxs2' := hkN.cell bxs2 (fun h => h)
  clear bxs2
  have bxs2 := bxs2'
  clear bxs2'
  have lbs' := Nat.lt_of_lt_of_le lbs hN.size
  clear lbs
  have lbs := lbs'
  clear lbs'
  have bxg0' := hkN.cell bxg0 (fun h => h)
  clear bxg0
  have bxg0 := bxg0'
  clear bxg0'
  have bxg1' := hkN.cell bxg1 (fun h => h)
  clear bxg1
  have bxg1 := bxg1'
  clear bxg1'
  have bxg2' := hkN.cell bxg2 (fun h => h)
  clear bxg2
  have bxg2 := bxg2'
  clear bxg2'
  have lbg' := Nat.lt_of_lt_of_le lbg hN.size
  clear lbg
  have lbg := lbg'
  clear lbg'
  clear hkN
  have hzwe15 := hN.size
  clear hN
  go_wp2_with (fail)
  have hown := OIb HOx1.out hBwx1_16
  refine (markIntS wqs.heap.size Ax1 len1 cx1 M1 (1) _ hown (by omega) (by omega)).mono ?_
  rintro e wm1 ⟨rfl, _, hK0⟩
  have hK := hK0.mono (T := fun g => wqs.heap.size ≤ g ∧ g < wx1.heap.size) (fun g _ hg => HLx1.out g hg)
  clear hK0 hown
  have hzzwm1 := hK.size
  have hX := hK.below (B := wb.heap.size) (by have h1 := (hBwb_16).size; omega) (fun k hk => by have h1 := hk.1; omega)
  have hBwb_17 := (hBwb_16).trans hX
  have hBw_17 := (hBw_16).trans (hX.mono (by omega))
  have bxs0' := hK.cell bxs0 (fun h => by have h1 := h.1; have h2 := h.2; simp only at h1 h2; omega)
  clear bxs0
  have bxs0 := bxs0'
  clear bxs0'
  have bxs1' := hK.cell bxs1 (fun h => by have h1 := h.1; have h2 := h.2; simp only at h1 h2; omega)
  clear bxs1
  have bxs1 := bxs1'
  clear bxs1'
  have bxs2' := hK.cell bxs2 (fun h => by have h1 := h.1; have h2 := h.2; simp only at h1 h2; omega)
  clear bxs2
  have bxs2 := bxs2'
  clear bxs2'
  have lbs' := Nat.lt_of_lt_of_le lbs hK.size
  clear lbs
  have lbs := lbs'
  clear lbs'
  have bxg0' := hK.cell bxg0 (fun h => by have h1 := h.1; have h2 := h.2; simp only at h1 h2; omega)
  clear bxg0
  have bxg0 := bxg0'
  clear bxg0'
  have bxg1' := hK.cell bxg1 (fun h => by have h1 := h.1; have h2 := h.2; simp only at h1 h2; omega)
  clear bxg1
  have bxg1 := bxg1'
  clear bxg1'
  have bxg2' := hK.cell bxg2 (fun h => by have h1 := h.1; have h2 := h.2; simp only at h1 h2; omega)
  clear bxg2
  have bxg2 := bxg2'
  clear bxg2'
  have lbg' := Nat.lt_of_lt_of_le lbg hK.size
  clear lbg
  have lbg := lbg'
  clear lbg'
  have hOg := (HOg.out.below hBwd_16).keep hK (fun g hg hs => by have := HLg.out g hg; omega)
  clear HOg HRg
  have HOg := Lib.hid hOg
  have HRg := Lib.hid hOg.rv
  clear hOg
  clear hK hX
  have hBwd_18 := Below.refl wm1.heap.size wm1
  have hpos : 0 ≤ 1 + (len1 : Int) := by omega
  go_wp2_with (fail)
  refine (eqRec _ RP RT RF _ RP RT RF _ (HRg.out.below hBwd_18) (HRs.out.below hBwb_17)).mono ?_
  rintro e we19 ⟨rfl, hN⟩
  rw [decide_eq_true (show RP = RP ∧ RT = RT ∧ RF = RF from ⟨rfl, rfl, rfl⟩)]
  have hBw_20 := below_more hBw_17 hN
  clear hBw_17
  have hBwb_20 := below_more hBwb_17 hN
  clear hBwb_17
  have hBwd_20 := below_more hBwd_18 hN
  clear hBwd_18
  have hkN := keep_of_below hN
  have bxs0' := hkN.cell bxs0 (fun h => h)
  clear bxs0
  have bxs0 := bxs0'
  clear bxs0'
  have bxs1' := hkN.cell bxs1 (fun h => h)
  clear bxs1
  have bxs1 := bxs1'
  clear bxs1'
  have bxs2' := hkN.cell bxs2 (fun h => h)
  clear bxs2
  have bxs2 := bxs2'
  clear bxs2'
  have lbs' := Nat.lt_of_lt_of_le lbs hN.size
  clear lbs
  have lbs := lbs'
  clear lbs'
  have bxg0' := hkN.cell bxg0 (fun h => h)
  clear bxg0
  have bxg0 := bxg0'
  clear bxg0'
  have bxg1' := hkN.cell bxg1 (fun h => h)
  clear bxg1
  have bxg1 := bxg1'
  clear bxg1'
  have bxg2' := hkN.cell bxg2 (fun h => h)
  clear bxg2
  have bxg2 := bxg2'
  clear bxg2'
  have lbg' := Nat.lt_of_lt_of_le lbg hN.size
  clear lbg
  have lbg := lbg'
  clear lbg'
  clear hkN
  have hzwe19 := hN.size
  clear hN
  go_wp2_with (fail)
  refine (markRec _ _ RP RT RF 1 _ (HOg.out.below hBwd_20) (by omega) (by omega)).mono ?_
  rintro e wj ⟨rfl, hO, hK0⟩
  have hK := hK0.mono (T := fun g => wx1.heap.size ≤ g ∧ g < wd.heap.size) (fun g _ hg => HLg.out g hg)
  clear hK0
  have hzzwj := hK.size
  have hX := hK.below (B := wb.heap.size) (by have h1 := (hBwb_20).size; omega) (fun k hk => by have h1 := hk.1; omega)
  have hBwb_21 := (hBwb_20).trans hX
  have hBw_21 := (hBw_20).trans (hX.mono (by omega))
  have bxs0' := hK.cell bxs0 (fun h => by have h1 := h.1; have h2 := h.2; simp only at h1 h2; omega)
  clear bxs0
  have bxs0 := bxs0'
  clear bxs0'
  have bxs1' := hK.cell bxs1 (fun h => by have h1 := h.1; have h2 := h.2; simp only at h1 h2; omega)
  clear bxs1
  have bxs1 := bxs1'
  clear bxs1'
  have bxs2' := hK.cell bxs2 (fun h => by have h1 := h.1; have h2 := h.2; simp only at h1 h2; omega)
  clear bxs2
  have bxs2 := bxs2'
  clear bxs2'
  have lbs' := Nat.lt_of_lt_of_le lbs hK.size
  clear lbs
  have lbs := lbs'
  clear lbs'
  have bxg0' := hK.cell bxg0 (fun h => by have h1 := h.1; have h2 := h.2; simp only at h1 h2; omega)
  clear bxg0
  have bxg0 := bxg0'
  clear bxg0'
  have bxg1' := hK.cell bxg1 (fun h => by have h1 := h.1; have h2 := h.2; simp only at h1 h2; omega)
  clear bxg1
  have bxg1 := bxg1'
  clear bxg1'
  have bxg2' := hK.cell bxg2 (fun h => by have h1 := h.1; have h2 := h.2; simp only at h1 h2; omega)
  clear bxg2
  have bxg2 := bxg2'
  clear bxg2'
  have lbg' := Nat.lt_of_lt_of_le lbg hK.size
  clear lbg
  have lbg := lbg'
  clear lbg'
  have HRj := Lib.hid hO.rv
  clear hO hK hX
  have hBwj_22 := Below.refl wj.heap.size wj
  go_wp2_with (fail)
  refine (heldRec _ RP 1 RT.length RF.length _ (HRj.out.below hBwj_22) (by omega) (by omega)).mono ?_
  rintro e wh1 ⟨rfl, hN⟩
  have hBw_23 := below_more hBw_21 hN
  clear hBw_21
  have hBwb_23 := below_more hBwb_21 hN
  clear hBwb_21
  have hBwj_23 := below_more hBwj_22 hN
  clear hBwj_22
  have hkN := keep_of_below hN
  have bxs0' := hkN.cell bxs0 (fun h => h)
  clear bxs0
  have bxs0 := bxs0'
  clear bxs0'
  have bxs1' := hkN.cell bxs1 (fun h => h)
  clear bxs1
  have bxs1 := bxs1'
  clear bxs1'
  have bxs2' := hkN.cell bxs2 (fun h => h)
  clear bxs2
  have bxs2 := bxs2'
  clear bxs2'
  have lbs' := Nat.lt_of_lt_of_le lbs hN.size
  clear lbs
  have lbs := lbs'
  clear lbs'
  have bxg0' := hkN.cell bxg0 (fun h => h)
  clear bxg0
  have bxg0 := bxg0'
  clear bxg0'
  have bxg1' := hkN.cell bxg1 (fun h => h)
  clear bxg1
  have bxg1 := bxg1'
  clear bxg1'
  have bxg2' := hkN.cell bxg2 (fun h => h)
  clear bxg2
  have bxg2 := bxg2'
  clear bxg2'
  have lbg' := Nat.lt_of_lt_of_le lbg hN.size
  clear lbg
  have lbg := lbg'
  clear lbg'
  clear hkN
  have hzwh1 := hN.size
  clear hN
  have hpq1 : 0 ≤ 1 + (RT.length : Int) + (RF.length : Int) := by omega
  have hqg : ((1 + (RT.length : Int) + (RF.length : Int)) != (1 + (RT.length : Int) + (RF.length : Int))) = false := by simp
  go_wp2_with (fail)
  refine (toIntS a1 len1 cap1 b1 o1 M1 _ (H1.out.below hBw_23) hn1).mono ?_
  rintro e wy1 ⟨Ay1, cy1, rfl, hO, hN⟩
  have hBw_24 := below_more hBw_23 hN
  clear hBw_23
  have hBwb_24 := below_more hBwb_23 hN
  clear hBwb_23
  have hBwj_24 := below_more hBwj_23 hN
  clear hBwj_23
  have hkN := keep_of_below hN
  have bxs0' := hkN.cell bxs0 (fun h => h)
  clear bxs0
  have bxs0 := bxs0'
  clear bxs0'
  have bxs1' := hkN.cell bxs1 (fun h => h)
  clear bxs1
  have bxs1 := bxs1'
  clear bxs1'
  have bxs2' := hkN.cell bxs2 (fun h => h)
  clear bxs2
  have bxs2 := bxs2'
  clear bxs2'
  have lbs' := Nat.lt_of_lt_of_le lbs hN.size
  clear lbs
  have lbs := lbs'
  clear lbs'
  have bxg0' := hkN.cell bxg0 (fun h => h)
  clear bxg0
  have bxg0 := bxg0'
  clear bxg0'
  have bxg1' := hkN.cell bxg1 (fun h => h)
  clear bxg1
  have bxg1 := bxg1'
  clear bxg1'
  have bxg2' := hkN.cell bxg2 (fun h => h)
  clear bxg2
  have bxg2 := bxg2'
  clear bxg2'
  have lbg' := Nat.lt_of_lt_of_le lbg hN.size
  clear lbg
  have lbg := lbg'
  clear lbg'
  clear hkN
  have hzwy1 := hN.size
  clear hN
  have hcapy1 := OI.capLe hO
  have HLy1 := Lib.hid (show ∀ g, (Value.slice Ay1 len1 cy1).ownBlock = some g → _ from fun g hg => hO.lt g hg)
  have HOy1 := Lib.hid hO
  obtain ⟨by1, hRa⟩ := hO.ia
  have HRy1 := Lib.hid hRa
  clear hO hRa
  have hBwy1_25 := Below.refl wy1.heap.size wy1
  go_wp2_with (fail)
  refine (implShortestRec a0 Ay1 len1 cy1 by1 0 M1 _ (HRy1.out.below hBwy1_25) hcapy1).mono ?_
  rw [HRV.out]
  rintro e wl ⟨_, rfl, hO0, hN⟩
  rw [HRP.out, HRT.out, HRF.out] at hO0
  rw [HRB.out]
  obtain ⟨Al, cl, Bl, dl, rfl, hO1, hO2, hO3⟩ := hO0
  have hO : RO wl wy1.heap.size (.agg #[.int .i64 RP, .slice Al RT.length cl, .slice Bl RF.length dl]) RP RT RF := ⟨Al, cl, Bl, dl, rfl, hO1, hO2, hO3⟩
  clear hO1 hO2 hO3
  have hBw_26 := below_more hBw_24 hN
  clear hBw_24
  have hBwb_26 := below_more hBwb_24 hN
  clear hBwb_24
  have hBwj_26 := below_more hBwj_24 hN
  clear hBwj_24
  have hBwy1_26 := below_more hBwy1_25 hN
  clear hBwy1_25
  have hkN := keep_of_below hN
  have bxs0' := hkN.cell bxs0 (fun h => h)
  clear bxs0
  have bxs0 := bxs0'
  clear bxs0'
  have bxs1' := hkN.cell bxs1 (fun h => h)
  clear bxs1
  have bxs1 := bxs1'
  clear bxs1'
  have bxs2' := hkN.cell bxs2 (fun h => h)
  clear bxs2
  have bxs2 := bxs2'
  clear bxs2'
  have lbs' := Nat.lt_of_lt_of_le lbs hN.size
  clear lbs
  have lbs := lbs'
  clear lbs'
  have bxg0' := hkN.cell bxg0 (fun h => h)
  clear bxg0
  have bxg0 := bxg0'
  clear bxg0'
  have bxg1' := hkN.cell bxg1 (fun h => h)
  clear bxg1
  have bxg1 := bxg1'
  clear bxg1'
  have bxg2' := hkN.cell bxg2 (fun h => h)
  clear bxg2
  have bxg2 := bxg2'
  clear bxg2'
  have lbg' := Nat.lt_of_lt_of_le lbg hN.size
  clear lbg
  have lbg := lbg'
  clear lbg'
  clear hkN
  have hzwl := hN.size
  clear hN
  have HLl := Lib.hid (show ∀ g, recBlk (.agg #[.int .i64 RP, .slice Al RT.length cl, .slice Bl RF.length dl]) g → _ from fun g hg => hO.lt g hg)
  have HRl := Lib.hid hO.rv
  have HOl := Lib.hid hO
  clear hO
  have hBwl_27 := Below.refl wl.heap.size wl
  go_wp2_with (fail)
  obtain ⟨wql, hQ⟩ : ∃ W, wl.alloc (.cells #[.int .i64 RP, .slice Al RT.length cl, .slice Bl RF.length dl] 42) = W := ⟨_, rfl⟩
  rw [hQ]
  have hN : Below wl.heap.size wl wql := by rw [← hQ]; exact (Below.refl _ _).alloc (Nat.le_refl _) _
  obtain ⟨hn0, hn1, hn2⟩ := box3 wl (.int .i64 RP) (.slice Al RT.length cl) (.slice Bl RF.length dl) 42
  rw [hQ] at hn0 hn1 hn2
  have hnl : wl.heap.size < wql.heap.size := cell_lt hn0
  have lcl := hnl
  clear hQ
  have hBw_28 := below_more hBw_26 hN
  clear hBw_26
  have hBwb_28 := below_more hBwb_26 hN
  clear hBwb_26
  have hBwj_28 := below_more hBwj_26 hN
  clear hBwj_26
  have hBwy1_28 := below_more hBwy1_26 hN
  clear hBwy1_26
  have hBwl_28 := below_more hBwl_27 hN
  clear hBwl_27
  have hkN := keep_of_below hN
  have bxs0' := hkN.cell bxs0 (fun h => h)
  clear bxs0
  have bxs0 := bxs0'
  clear bxs0'
  have bxs1' := hkN.cell bxs1 (fun h => h)
  clear bxs1
  have bxs1 := bxs1'
  clear bxs1'
  have bxs2' := hkN.cell bxs2 (fun h => h)
  clear bxs2
  have bxs2 := bxs2'
  clear bxs2'
  have lbs' := Nat.lt_of_lt_of_le lbs hN.size
  clear lbs
  have lbs := lbs'
  clear lbs'
  have bxg0' := hkN.cell bxg0 (fun h => h)
  clear bxg0
  have bxg0 := bxg0'
  clear bxg0'
  have bxg1' := hkN.cell bxg1 (fun h => h)
  clear bxg1
  have bxg1 := bxg1'
  clear bxg1'
  have bxg2' := hkN.cell bxg2 (fun h => h)
  clear bxg2
  have bxg2 := bxg2'
  clear bxg2'
  have lbg' := Nat.lt_of_lt_of_le lbg hN.size
  clear lbg
  have lbg := lbg'
  clear lbg'
  clear hkN
  have hzwql := hN.size
  clear hN
  have bxl0 := hn0
  clear hn0
  have bxl1 := hn1
  clear hn1
  have bxl2 := hn2
  clear hn2
  have lbl := hnl
  clear hnl
  refine (eqRec _ RP RT RF _ RP RT RF _ (HRl.out.below hBwl_28) (HRs.out.below hBwb_28)).mono ?_
  rintro e we29 ⟨rfl, hN⟩
  rw [decide_eq_true (show RP = RP ∧ RT = RT ∧ RF = RF from ⟨rfl, rfl, rfl⟩)]
  have hBw_30 := below_more hBw_28 hN
  clear hBw_28
  have hBwb_30 := below_more hBwb_28 hN
  clear hBwb_28
  have hBwj_30 := below_more hBwj_28 hN
  clear hBwj_28
  have hBwy1_30 := below_more hBwy1_28 hN
  clear hBwy1_28
  have hBwl_30 := below_more hBwl_28 hN
  clear hBwl_28
  have hkN := keep_of_below hN
  have bxs0' := hkN.cell bxs0 (fun h => h)
  clear bxs0
  have bxs0 := bxs0'
  clear bxs0'
  have bxs1' := hkN.cell bxs1 (fun h => h)
  clear bxs1
  have bxs1 := bxs1'
  clear bxs1'
  have bxs2' := hkN.cell bxs2 (fun h => h)
  clear bxs2
  have bxs2 := bxs2'
  clear bxs2'
  have lbs' := Nat.lt_of_lt_of_le lbs hN.size
  clear lbs
  have lbs := lbs'
  clear lbs'
  have bxg0' := hkN.cell bxg0 (fun h => h)
  clear bxg0
  have bxg0 := bxg0'
  clear bxg0'
  have bxg1' := hkN.cell bxg1 (fun h => h)
  clear bxg1
  have bxg1 := bxg1'
  clear bxg1'
  have bxg2' := hkN.cell bxg2 (fun h => h)
  clear bxg2
  have bxg2 := bxg2'
  clear bxg2'
  have lbg' := Nat.lt_of_lt_of_le lbg hN.size
  clear lbg
  have lbg := lbg'
  clear lbg'
  have bxl0' := hkN.cell bxl0 (fun h => h)
  clear bxl0
  have bxl0 := bxl0'
  clear bxl0'
  have bxl1' := hkN.cell bxl1 (fun h => h)
  clear bxl1
  have bxl1 := bxl1'
  clear bxl1'
  have bxl2' := hkN.cell bxl2 (fun h => h)
  clear bxl2
  have bxl2 := bxl2'
  clear bxl2'
  have lbl' := Nat.lt_of_lt_of_le lbl hN.size
  clear lbl
  have lbl := lbl'
  clear lbl'
  clear hkN
  have hzwe29 := hN.size
  clear hN
  go_wp2_with (fail)
  refine (heldRec _ RP 1 RT.length RF.length _ (HRj.out.below hBwj_30) (by omega) (by omega)).mono ?_
  rintro e wh2 ⟨rfl, hN⟩
  have hBw_31 := below_more hBw_30 hN
  clear hBw_30
  have hBwb_31 := below_more hBwb_30 hN
  clear hBwb_30
  have hBwj_31 := below_more hBwj_30 hN
  clear hBwj_30
  have hBwy1_31 := below_more hBwy1_30 hN
  clear hBwy1_30
  have hBwl_31 := below_more hBwl_30 hN
  clear hBwl_30
  have hkN := keep_of_below hN
  have bxs0' := hkN.cell bxs0 (fun h => h)
  clear bxs0
  have bxs0 := bxs0'
  clear bxs0'
  have bxs1' := hkN.cell bxs1 (fun h => h)
  clear bxs1
  have bxs1 := bxs1'
  clear bxs1'
  have bxs2' := hkN.cell bxs2 (fun h => h)
  clear bxs2
  have bxs2 := bxs2'
  clear bxs2'
  have lbs' := Nat.lt_of_lt_of_le lbs hN.size
  clear lbs
  have lbs := lbs'
  clear lbs'
  have bxg0' := hkN.cell bxg0 (fun h => h)
  clear bxg0
  have bxg0 := bxg0'
  clear bxg0'
  have bxg1' := hkN.cell bxg1 (fun h => h)
  clear bxg1
  have bxg1 := bxg1'
  clear bxg1'
  have bxg2' := hkN.cell bxg2 (fun h => h)
  clear bxg2
  have bxg2 := bxg2'
  clear bxg2'
  have lbg' := Nat.lt_of_lt_of_le lbg hN.size
  clear lbg
  have lbg := lbg'
  clear lbg'
  have bxl0' := hkN.cell bxl0 (fun h => h)
  clear bxl0
  have bxl0 := bxl0'
  clear bxl0'
  have bxl1' := hkN.cell bxl1 (fun h => h)
  clear bxl1
  have bxl1 := bxl1'
  clear bxl1'
  have bxl2' := hkN.cell bxl2 (fun h => h)
  clear bxl2
  have bxl2 := bxl2'
  clear bxl2'
  have lbl' := Nat.lt_of_lt_of_le lbl hN.size
  clear lbl
  have lbl := lbl'
  clear lbl'
  clear hkN
  have hzwh2 := hN.size
  clear hN
  have hpq2 : 0 ≤ 1 + (RT.length : Int) + (RF.length : Int) := by omega
  go_wp2_with (fail)
  go_ret
  exact ⟨rfl, hBw_31⟩
end Go.Proofs.Ytcjpjcigjljplaa

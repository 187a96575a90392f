/-
  The walk of the exact law of RecLeast.
-/
import Derived.Deep.RegionHeld3
import Derived.Test.YtbpndmcejbiedaaDoorRlZ
import Derived.Test.YtbpndmcejbiedaaDoorEx
namespace Go.Proofs.YtbpndmcejbiedaaDoor
open Go.RowKit
set_option maxRecDepth 100000 in
set_option maxHeartbeats 2000000 in
set_option linter.unusedVariables false in
theorem walkFnExactRecLeast (p0 : Int) (Aa0 : Option Addr) (na0 ca0 : Nat) (Ba0 : Option Addr) (ma0 da0 : Nat) (T0 F0 : List Int) (w : World) (w0 : RV w (.agg #[.int .i64 p0, .slice Aa0 na0 ca0, .slice Ba0 ma0 da0]) p0 T0 F0) (ge : Addr) (hge : GE w ge) :
    Calls Tryd.prog 5 #[.agg #[.int .i64 p0, .slice Aa0 na0 ca0, .slice Ba0 ma0 da0]] w fun e w' => e = .returned (.bool true) ∧ Below w.heap.size w w' := by
  have H0 := Lib.hid w0
  have HGE := Lib.hid hge
  clear hge
  clear w0
  go_enter Tryd.func5, Tryd.ntmps5
  have hBw0 := Below.refl w.heap.size w
  go_wp2_with (fail)
  obtain ⟨wqa0, hQ⟩ : ∃ W, w.alloc (.cells #[.int .i64 p0, .slice Aa0 na0 ca0, .slice Ba0 ma0 da0] 24) = W := ⟨_, rfl⟩
  rw [hQ]
  have hN : Below w.heap.size w wqa0 := by rw [← hQ]; exact (Below.refl _ _).alloc (Nat.le_refl _) _
  obtain ⟨hn0, hn1, hn2⟩ := box3 w (.int .i64 p0) (.slice Aa0 na0 ca0) (.slice Ba0 ma0 da0) 24
  rw [hQ] at hn0 hn1 hn2
  have hnl : w.heap.size < wqa0.heap.size := cell_lt hn0
  have lca0 := hnl
  clear hQ
  have hBw_1 := below_more hBw0 hN
  clear hBw0
  have hzwqa0 := hN.size
  clear hN
  have bxa00 := hn0
  clear hn0
  have bxa01 := hn1
  clear hn1
  have bxa02 := hn2
  clear hn2
  have lba0 := hnl
  clear hnl
  refine (szRec _ p0 T0 F0 1048576 _ (H0.out.below hBw_1) (by decide) (by decide)).mono ?_
  rintro e wz0 ⟨r0, rfl, hr0, hN⟩
  have hBw_2 := below_more hBw_1 hN
  clear hBw_1
  have hkN := keep_of_below hN
  have bxa00' := hkN.cell bxa00 (fun h => h)
  clear bxa00
  have bxa00 := bxa00'
  clear bxa00'
  have bxa01' := hkN.cell bxa01 (fun h => h)
  clear bxa01
  have bxa01 := bxa01'
  clear bxa01'
  have bxa02' := hkN.cell bxa02 (fun h => h)
  clear bxa02
  have bxa02 := bxa02'
  clear bxa02'
  have lba0' := Nat.lt_of_lt_of_le lba0 hN.size
  clear lba0
  have lba0 := lba0'
  clear lba0'
  clear hkN
  have hzwz0 := hN.size
  clear hN
  rcases hr0 with hr0 | ⟨hr00, hrx0, hTn0, hFn0⟩
  · go_wp2_with (fail)
    go_ret
    exact ⟨rfl, hBw_2⟩
  have hT0 : T0.length ≤ 1048576 := by omega
  have hF0 : F0.length ≤ 1048576 := by omega
  obtain ⟨RV0, hRV⟩ : ∃ RV, leastRecR p0 T0 F0 = RV := ⟨_, rfl⟩
  have hbd := leastRecR_len p0 T0 F0
  rw [hRV] at hbd
  obtain ⟨RP, hRP⟩ : ∃ RP, RV0.1 = RP := ⟨_, rfl⟩
  obtain ⟨RT, hRT⟩ : ∃ RT, RV0.2.1 = RT := ⟨_, rfl⟩
  obtain ⟨RF, hRF⟩ : ∃ RF, RV0.2.2 = RF := ⟨_, rfl⟩
  rw [hRT, hRF] at hbd
  have HRP := Lib.hid hRP
  have HRT := Lib.hid hRT
  have HRF := Lib.hid hRF
  clear hRP hRT hRF
  obtain ⟨hbT, hbF⟩ := hbd
  have HRV := Lib.hid hRV
  clear hRV
  go_wp2_with (fail)
  refine (toRec _ p0 T0 F0 _ (H0.out.below hBw_2) hT0 hF0).mono ?_
  rintro e ws0 ⟨_, rfl, ⟨As0, cs0, Bs0, ds0, rfl, hO1, hO2, hO3⟩, hN⟩
  have hO : RO ws0 wz0.heap.size (.agg #[.int .i64 p0, .slice As0 T0.length cs0, .slice Bs0 F0.length ds0]) p0 T0 F0 := ⟨As0, cs0, Bs0, ds0, rfl, hO1, hO2, hO3⟩
  clear hO1 hO2 hO3
  have hBw_3 := below_more hBw_2 hN
  clear hBw_2
  have hkN := keep_of_below hN
  have bxa00' := hkN.cell bxa00 (fun h => h)
  clear bxa00
  have bxa00 := bxa00'
  clear bxa00'
  have bxa01' := hkN.cell bxa01 (fun h => h)
  clear bxa01
  have bxa01 := bxa01'
  clear bxa01'
  have bxa02' := hkN.cell bxa02 (fun h => h)
  clear bxa02
  have bxa02 := bxa02'
  clear bxa02'
  have lba0' := Nat.lt_of_lt_of_le lba0 hN.size
  clear lba0
  have lba0 := lba0'
  clear lba0'
  clear hkN
  have hzws0 := hN.size
  clear hN
  have HLs0 := Lib.hid (show ∀ g, recBlk (.agg #[.int .i64 p0, .slice As0 T0.length cs0, .slice Bs0 F0.length ds0]) g → _ from fun g hg => hO.lt g hg)
  have HRs0 := Lib.hid hO.rv
  have HOs0 := Lib.hid hO
  clear hO
  have hBws0_4 := Below.refl ws0.heap.size ws0
  go_wp2_with (fail)
  refine (specRecLeast _ p0 T0 F0 _ (HRs0.out.below hBws0_4)).mono ?_
  rw [HRV.out]
  rintro e wb ⟨_, rfl, hO0, hN⟩
  rw [HRP.out, HRT.out, HRF.out] at hO0
  obtain ⟨As, cs, Bs, ds, rfl, hO1, hO2, hO3⟩ := hO0
  have hO : RO wb ws0.heap.size (.agg #[.int .i64 RP, .slice As RT.length cs, .slice Bs RF.length ds]) RP RT RF := ⟨As, cs, Bs, ds, rfl, hO1, hO2, hO3⟩
  clear hO1 hO2 hO3
  have hBw_5 := below_more hBw_3 hN
  clear hBw_3
  have hBws0_5 := below_more hBws0_4 hN
  clear hBws0_4
  have hkN := keep_of_below hN
  have bxa00' := hkN.cell bxa00 (fun h => h)
  clear bxa00
  have bxa00 := bxa00'
  clear bxa00'
  have bxa01' := hkN.cell bxa01 (fun h => h)
  clear bxa01
  have bxa01 := bxa01'
  clear bxa01'
  have bxa02' := hkN.cell bxa02 (fun h => h)
  clear bxa02
  have bxa02 := bxa02'
  clear bxa02'
  have lba0' := Nat.lt_of_lt_of_le lba0 hN.size
  clear lba0
  have lba0 := lba0'
  clear lba0'
  clear hkN
  have hzwb := hN.size
  clear hN
  have HLs := Lib.hid (show ∀ g, recBlk (.agg #[.int .i64 RP, .slice As RT.length cs, .slice Bs RF.length ds]) g → _ from fun g hg => hO.lt g hg)
  have HRs := Lib.hid hO.rv
  have HOs := Lib.hid hO
  clear hO
  have hBwb_6 := Below.refl wb.heap.size wb
  go_wp2_with (fail)
  obtain ⟨wqs, hQ⟩ : ∃ W, wb.alloc (.cells #[.int .i64 RP, .slice As RT.length cs, .slice Bs RF.length ds] 29) = W := ⟨_, rfl⟩
  rw [hQ]
  have hN : Below wb.heap.size wb wqs := by rw [← hQ]; exact (Below.refl _ _).alloc (Nat.le_refl _) _
  obtain ⟨hn0, hn1, hn2⟩ := box3 wb (.int .i64 RP) (.slice As RT.length cs) (.slice Bs RF.length ds) 29
  rw [hQ] at hn0 hn1 hn2
  have hnl : wb.heap.size < wqs.heap.size := cell_lt hn0
  have lcs := hnl
  clear hQ
  have hBw_7 := below_more hBw_5 hN
  clear hBw_5
  have hBwb_7 := below_more hBwb_6 hN
  clear hBwb_6
  have hkN := keep_of_below hN
  have bxa00' := hkN.cell bxa00 (fun h => h)
  clear bxa00
  have bxa00 := bxa00'
  clear bxa00'
  have bxa01' := hkN.cell bxa01 (fun h => h)
  clear bxa01
  have bxa01 := bxa01'
  clear bxa01'
  have bxa02' := hkN.cell bxa02 (fun h => h)
  clear bxa02
  have bxa02 := bxa02'
  clear bxa02'
  have lba0' := Nat.lt_of_lt_of_le lba0 hN.size
  clear lba0
  have lba0 := lba0'
  clear lba0'
  clear hkN
  have hzwqs := hN.size
  clear hN
  have bxs0 := hn0
  clear hn0
  have bxs1 := hn1
  clear hn1
  have bxs2 := hn2
  clear hn2
  have lbs := hnl
  clear hnl
  refine (toRec _ p0 T0 F0 _ (H0.out.below hBw_7) hT0 hF0).mono ?_
  rintro e wx0 ⟨_, rfl, ⟨Ax0, cx0, Bx0, dx0, rfl, hO1, hO2, hO3⟩, hN⟩
  have hO : RO wx0 wqs.heap.size (.agg #[.int .i64 p0, .slice Ax0 T0.length cx0, .slice Bx0 F0.length dx0]) p0 T0 F0 := ⟨Ax0, cx0, Bx0, dx0, rfl, hO1, hO2, hO3⟩
  clear hO1 hO2 hO3
  have hBw_8 := below_more hBw_7 hN
  clear hBw_7
  have hBwb_8 := below_more hBwb_7 hN
  clear hBwb_7
  have hkN := keep_of_below hN
  have bxa00' := hkN.cell bxa00 (fun h => h)
  clear bxa00
  have bxa00 := bxa00'
  clear bxa00'
  have bxa01' := hkN.cell bxa01 (fun h => h)
  clear bxa01
  have bxa01 := bxa01'
  clear bxa01'
  have bxa02' := hkN.cell bxa02 (fun h => h)
  clear bxa02
  have bxa02 := bxa02'
  clear bxa02'
  have lba0' := Nat.lt_of_lt_of_le lba0 hN.size
  clear lba0
  have lba0 := lba0'
  clear lba0'
  have bxs0' := hkN.cell bxs0 (fun h => h)
  clear bxs0
  have bxs0 := bxs0'
  clear bxs0'
  have bxs1' := hkN.cell bxs1 (fun h => h)
  clear bxs1
  have bxs1 := bxs1'
  clear bxs1'
  have bxs2' := hkN.cell bxs2 (fun h => h)
  clear bxs2
  have bxs2 := bxs2'
  clear bxs2'
  have lbs' := Nat.lt_of_lt_of_le lbs hN.size
  clear lbs
  have lbs := lbs'
  clear lbs'
  clear hkN
  have hzwx0 := hN.size
  clear hN
  have HLx0 := Lib.hid (show ∀ g, recBlk (.agg #[.int .i64 p0, .slice Ax0 T0.length cx0, .slice Bx0 F0.length dx0]) g → _ from fun g hg => hO.lt g hg)
  have HRx0 := Lib.hid hO.rv
  have HOx0 := Lib.hid hO
  clear hO
  have hBwx0_9 := Below.refl wx0.heap.size wx0
  go_wp2_with (fail)
  obtain ⟨wqx0, hQ⟩ : ∃ W, wx0.alloc (.cells #[.int .i64 p0, .slice Ax0 T0.length cx0, .slice Bx0 F0.length dx0] 29) = W := ⟨_, rfl⟩
  rw [hQ]
  have hN : Below wx0.heap.size wx0 wqx0 := by rw [← hQ]; exact (Below.refl _ _).alloc (Nat.le_refl _) _
  obtain ⟨hn0, hn1, hn2⟩ := box3 wx0 (.int .i64 p0) (.slice Ax0 T0.length cx0) (.slice Bx0 F0.length dx0) 29
  rw [hQ] at hn0 hn1 hn2
  have hnl : wx0.heap.size < wqx0.heap.size := cell_lt hn0
  have lcx0 := hnl
  clear hQ
  have hBw_10 := below_more hBw_8 hN
  clear hBw_8
  have hBwb_10 := below_more hBwb_8 hN
  clear hBwb_8
  have hBwx0_10 := below_more hBwx0_9 hN
  clear hBwx0_9
  have hkN := keep_of_below hN
  have bxa00' := hkN.cell bxa00 (fun h => h)
  clear bxa00
  have bxa00 := bxa00'
  clear bxa00'
  have bxa01' := hkN.cell bxa01 (fun h => h)
  clear bxa01
  have bxa01 := bxa01'
  clear bxa01'
  have bxa02' := hkN.cell bxa02 (fun h => h)
  clear bxa02
  have bxa02 := bxa02'
  clear bxa02'
  have lba0' := Nat.lt_of_lt_of_le lba0 hN.size
  clear lba0
  have lba0 := lba0'
  clear lba0'
  have bxs0' := hkN.cell bxs0 (fun h => h)
  clear bxs0
  have bxs0 := bxs0'
  clear bxs0'
  have bxs1' := hkN.cell bxs1 (fun h => h)
  clear bxs1
  have bxs1 := bxs1'
  clear bxs1'
  have bxs2' := hkN.cell bxs2 (fun h => h)
  clear bxs2
  have bxs2 := bxs2'
  clear bxs2'
  have lbs' := Nat.lt_of_lt_of_le lbs hN.size
  clear lbs
  have lbs := lbs'
  clear lbs'
  clear hkN
  have hzwqx0 := hN.size
  clear hN
  have bxx00 := hn0
  clear hn0
  have bxx01 := hn1
  clear hn1
  have bxx02 := hn2
  clear hn2
  have lbx0 := hnl
  clear hnl
  refine (implRecLeast _ p0 T0 F0 _ (HRx0.out.below hBwx0_10) ge (HGE.out.below hBw_10)).mono ?_
  rw [HRV.out]
  rintro e wd ⟨_, rfl, hO0, hN⟩
  rw [HRP.out, HRT.out, HRF.out] at hO0
  obtain ⟨Ag, cg, Bg, dg, rfl, hO1, hO2, hO3⟩ := hO0
  have hO : RO wd wqx0.heap.size (.agg #[.int .i64 RP, .slice Ag RT.length cg, .slice Bg RF.length dg]) RP RT RF := ⟨Ag, cg, Bg, dg, rfl, hO1, hO2, hO3⟩
  clear hO1 hO2 hO3
  have hBw_11 := below_more hBw_10 hN
  clear hBw_10
  have hBwb_11 := below_more hBwb_10 hN
  clear hBwb_10
  have hBwx0_11 := below_more hBwx0_10 hN
  clear hBwx0_10
  have hkN := keep_of_below hN
  have bxa00' := hkN.cell bxa00 (fun h => h)
  clear bxa00
  have bxa00 := bxa00'
  clear bxa00'
  have bxa01' := hkN.cell bxa01 (fun h => h)
  clear bxa01
  have bxa01 := bxa01'
  clear bxa01'
  have bxa02' := hkN.cell bxa02 (fun h => h)
  clear bxa02
  have bxa02 := bxa02'
  clear bxa02'
  have lba0' := Nat.lt_of_lt_of_le lba0 hN.size
  clear lba0
  have lba0 := lba0'
  clear lba0'
  have bxs0' := hkN.cell bxs0 (fun h => h)
  clear bxs0
  have bxs0 := bxs0'
  clear bxs0'
  have bxs1' := hkN.cell bxs1 (fun h => h)
  clear bxs1
  have bxs1 := bxs1'
  clear bxs1'
  have bxs2' := hkN.cell bxs2 (fun h => h)
  clear bxs2
  have bxs2 := bxs2'
  clear bxs2'
  have lbs' := Nat.lt_of_lt_of_le lbs hN.size
  clear lbs
  have lbs := lbs'
  clear lbs'
  have bxx00' := hkN.cell bxx00 (fun h => h)
  clear bxx00
  have bxx00 := bxx00'
  clear bxx00'
  have bxx01' := hkN.cell bxx01 (fun h => h)
  clear bxx01
  have bxx01 := bxx01'
  clear bxx01'
  have bxx02' := hkN.cell bxx02 (fun h => h)
  clear bxx02
  have bxx02 := bxx02'
  clear bxx02'
  have lbx0' := Nat.lt_of_lt_of_le lbx0 hN.size
  clear lbx0
  have lbx0 := lbx0'
  clear lbx0'
  clear hkN
  have hzwd := hN.size
  clear hN
  have HLg := Lib.hid (show ∀ g, recBlk (.agg #[.int .i64 RP, .slice Ag RT.length cg, .slice Bg RF.length dg]) g → _ from fun g hg => hO.lt g hg)
  have HRg := Lib.hid hO.rv
  have HOg := Lib.hid hO
  clear hO
  have hBwd_12 := Below.refl wd.heap.size wd
  go_wp2_with (fail)
  obtain ⟨wqg, hQ⟩ : ∃ W, wd.alloc (.cells #[.int .i64 RP, .slice Ag RT.length cg, .slice Bg RF.length dg] 29) = W := ⟨_, rfl⟩
  rw [hQ]
  have hN : Below wd.heap.size wd wqg := by rw [← hQ]; exact (Below.refl _ _).alloc (Nat.le_refl _) _
  obtain ⟨hn0, hn1, hn2⟩ := box3 wd (.int .i64 RP) (.slice Ag RT.length cg) (.slice Bg RF.length dg) 29
  rw [hQ] at hn0 hn1 hn2
  have hnl : wd.heap.size < wqg.heap.size := cell_lt hn0
  have lcg := hnl
  clear hQ
  have hBw_13 := below_more hBw_11 hN
  clear hBw_11
  have hBwb_13 := below_more hBwb_11 hN
  clear hBwb_11
  have hBwx0_13 := below_more hBwx0_11 hN
  clear hBwx0_11
  have hBwd_13 := below_more hBwd_12 hN
  clear hBwd_12
  have hkN := keep_of_below hN
  have bxa00' := hkN.cell bxa00 (fun h => h)
  clear bxa00
  have bxa00 := bxa00'
  clear bxa00'
  have bxa01' := hkN.cell bxa01 (fun h => h)
  clear bxa01
  have bxa01 := bxa01'
  clear bxa01'
  have bxa02' := hkN.cell bxa02 (fun h => h)
  clear bxa02
  have bxa02 := bxa02'
  clear bxa02'
  have lba0' := Nat.lt_of_lt_of_le lba0 hN.size
  clear lba0
  have lba0 := lba0'
  clear lba0'
  have bxs0' := hkN.cell bxs0 (fun h => h)
  clear bxs0
  have bxs0 := bxs0'
  clear bxs0'
  have bxs1' := hkN.cell bxs1 (fun h => h)
  clear bxs1
  have bxs1 := bxs1'
  clear bxs1'
  have bxs2' := hkN.cell bxs2 (fun h => h)
  clear bxs2
  have bxs2 := bxs2'
  clear bxs2'
  have lbs' := Nat.lt_of_lt_of_le lbs hN.size
  clear lbs
  have lbs := lbs'
  clear lbs'
  have bxx00' := hkN.cell bxx00 (fun h => h)
  clear bxx00
  have bxx00 := bxx00'
  clear bxx00'
  have bxx01' := hkN.cell bxx01 (fun h => h)
  clear bxx01
  have bxx01 := bxx01'
  clear bxx01'
  have bxx02' := hkN.cell bxx02 (fun h => h)
  clear bxx02
  have bxx02 := bxx02'
  clear bxx02'
  have lbx0' := Nat.lt_of_lt_of_le lbx0 hN.size
  clear lbx0
  have lbx0 := lbx0'
  clear lbx0'
  clear hkN
  have hzwqg := hN.size
  clear hN
  have bxg0 := hn0
  clear hn0
  have bxg1 := hn1
  clear hn1
  have bxg2 := hn2
  clear hn2
  have lbg := hnl
  clear hnl
  refine (eqRec _ RP RT RF _ RP RT RF _ (HRg.out.below hBwd_13) (HRs.out.below hBwb_13)).mono ?_
  rintro e we14 ⟨rfl, hN⟩
  rw [decide_eq_true (show RP = RP ∧ RT = RT ∧ RF = RF from ⟨rfl, rfl, rfl⟩)]
  have hBw_15 := below_more hBw_13 hN
  clear hBw_13
  have hBwb_15 := below_more hBwb_13 hN
  clear hBwb_13
  have hBwx0_15 := below_more hBwx0_13 hN
  clear hBwx0_13
  have hBwd_15 := below_more hBwd_13 hN
  clear hBwd_13
  have hkN := keep_of_below hN
  have bxa00' := hkN.cell bxa00 (fun h => h)
  clear bxa00
  have bxa00 := bxa00'
  clear bxa00'
  have bxa01' := hkN.cell bxa01 (fun h => h)
  clear bxa01
  have bxa01 := bxa01'
  clear bxa01'
  have bxa02' := hkN.cell bxa02 (fun h => h)
  clear bxa02
  have bxa02 := bxa02'
  clear bxa02'
  have lba0' := Nat.lt_of_lt_of_le lba0 hN.size
  clear lba0
  have lba0 := lba0'
  clear lba0'
  have bxs0' := hkN.cell bxs0 (fun h => h)
  clear bxs0
  have bxs0 := bxs0'
  clear bxs0'
  have bxs1' := hkN.cell bxs1 (fun h => h)
  clear bxs1
  have bxs1 := bxs1'
  clear bxs1'
  have bxs2' := hkN.cell bxs2 (fun h => h)
  clear bxs2
  have bxs2 := bxs2'
  clear bxs2'
  have lbs' := Nat.lt_of_lt_of_le lbs hN.size
  clear lbs
  have lbs := lbs'
  clear lbs'
  have bxx00' := hkN.cell bxx00 (fun h => h)
  clear bxx00
  have bxx00 := bxx00'
  clear bxx00'
  have bxx01' := hkN.cell bxx01 (fun h => h)
  clear bxx01
  have bxx01 := bxx01'
  clear bxx01'
  have bxx02' := hkN.cell bxx02 (fun h => h)
  clear bxx02
  have bxx02 := bxx02'
  clear bxx02'
  have lbx0' := Nat.lt_of_lt_of_le lbx0 hN.size
  clear lbx0
  have lbx0 := lbx0'
  clear lbx0'
  have bxg0' := hkN.cell bxg0 (fun h => h)
  clear bxg0
  have bxg0 := bxg0'
  clear bxg0'
  have bxg1' := hkN.cell bxg1 (fun h => h)
  clear bxg1
  have bxg1 := bxg1'
  clear bxg1'
  have bxg2' := hkN.cell bxg2 (fun h => h)
  clear bxg2
  have bxg2 := bxg2'
  clear bxg2'
  have lbg' := Nat.lt_of_lt_of_le lbg hN.size
  clear lbg
  have lbg := lbg'
  clear lbg'
  clear hkN
  have hzwe14 := hN.size
  clear hN
  go_wp2_with (fail)
  have cdx00 : we14.drew.cell? ⟨wx0.heap.size, 0, none⟩ = some (.int .i64 p0) := bxx00
  have cdx01 : we14.drew.cell? ⟨wx0.heap.size, 1, none⟩ = some (.slice Ax0 T0.length cx0) := bxx01
  have cdx02 : we14.drew.cell? ⟨wx0.heap.size, 2, none⟩ = some (.slice Bx0 F0.length dx0) := bxx02
  have cda00 : we14.drew.cell? ⟨w.heap.size, 0, none⟩ = some (.int .i64 p0) := bxa00
  have cda01 : we14.drew.cell? ⟨w.heap.size, 1, none⟩ = some (.slice Aa0 na0 ca0) := bxa01
  have cda02 : we14.drew.cell? ⟨w.heap.size, 2, none⟩ = some (.slice Ba0 ma0 da0) := bxa02
  have ZA : we14.cell? ⟨wx0.heap.size, 0, none⟩ = some (.int .i64 p0) ∧ we14.cell? ⟨wx0.heap.size, 1, none⟩ = some (.slice Ax0 T0.length cx0) ∧ we14.cell? ⟨wx0.heap.size, 2, none⟩ = some (.slice Bx0 F0.length dx0) ∧ we14.cell? ⟨w.heap.size, 0, none⟩ = some (.int .i64 p0) ∧ we14.cell? ⟨w.heap.size, 1, none⟩ = some (.slice Aa0 na0 ca0) ∧ we14.cell? ⟨w.heap.size, 2, none⟩ = some (.slice Ba0 ma0 da0) := ⟨bxx00, bxx01, bxx02, bxa00, bxa01, bxa02⟩
  have ZB : we14.drew.cell? ⟨wx0.heap.size, 0, none⟩ = some (.int .i64 p0) ∧ we14.drew.cell? ⟨wx0.heap.size, 1, none⟩ = some (.slice Ax0 T0.length cx0) ∧ we14.drew.cell? ⟨wx0.heap.size, 2, none⟩ = some (.slice Bx0 F0.length dx0) ∧ we14.drew.cell? ⟨w.heap.size, 0, none⟩ = some (.int .i64 p0) ∧ we14.drew.cell? ⟨w.heap.size, 1, none⟩ = some (.slice Aa0 na0 ca0) ∧ we14.drew.cell? ⟨w.heap.size, 2, none⟩ = some (.slice Ba0 ma0 da0) := ⟨cdx00, cdx01, cdx02, cda00, cda01, cda02⟩
  have hdr : Below we14.heap.size we14 we14.drew := below_drawn (Below.refl _ _) ⟨1, rfl⟩
  have HBd := Lib.hid (below_more hBw_15 hdr)
  have HRxd := Lib.hid ((HRx0.out.below hBwx0_15).below hdr)
  have HDR := Lib.hid hdr
  clear hdr
  go_region_held3 (fun w' => w'.cell? ⟨wx0.heap.size, 0, none⟩ = some (.int .i64 p0) ∧ w'.cell? ⟨wx0.heap.size, 1, none⟩ = some (.slice Ax0 T0.length cx0) ∧ w'.cell? ⟨wx0.heap.size, 2, none⟩ = some (.slice Bx0 F0.length dx0) ∧ w'.cell? ⟨w.heap.size, 0, none⟩ = some (.int .i64 p0) ∧ w'.cell? ⟨w.heap.size, 1, none⟩ = some (.slice Aa0 na0 ca0) ∧ w'.cell? ⟨w.heap.size, 2, none⟩ = some (.slice Ba0 ma0 da0)) (first | assumption | exact ZD | exact ZC | exact ZB | exact ZA | go_keep) (first | (go_at_call 8; refine (toRec _ p0 T0 F0 _ (H0.out.below HBd.out) hT0 hF0).mono ?_; rintro e wf0 ⟨_, rfl, ⟨Af0, cf0, Bf0, df0, rfl, hO1, hO2, hO3⟩, hN⟩; have hO : RO wf0 we14.drew.heap.size (.agg #[.int .i64 p0, .slice Af0 T0.length cf0, .slice Bf0 F0.length df0]) p0 T0 F0 := ⟨Af0, cf0, Bf0, df0, rfl, hO1, hO2, hO3⟩; have HRf0 := Lib.hid hO.rv; have HRxe := Lib.hid (HRxd.out.below hN); have cex00 := (keep_of_below hN).cell cdx00 (fun h => h); have cex01 := (keep_of_below hN).cell cdx01 (fun h => h); have cex02 := (keep_of_below hN).cell cdx02 (fun h => h); have cea00 := (keep_of_below hN).cell cda00 (fun h => h); have cea01 := (keep_of_below hN).cell cda01 (fun h => h); have cea02 := (keep_of_below hN).cell cda02 (fun h => h); have ZC := And.intro cex00 (And.intro cex01 (And.intro cex02 (And.intro cea00 (And.intro cea01 cea02)))); have HNf := Lib.hid hN; clear hO hO1 hO2 hO3 hN) | (go_at_call 11; refine (eqRec _ p0 T0 F0 _ p0 T0 F0 _ HRxe.out HRf0.out).mono ?_; rintro e we16 ⟨rfl, hN⟩; rw [decide_eq_true (show p0 = p0 ∧ T0 = T0 ∧ F0 = F0 from ⟨rfl, rfl, rfl⟩)]; have cgx00 := (keep_of_below hN).cell cex00 (fun h => h); have cgx01 := (keep_of_below hN).cell cex01 (fun h => h); have cgx02 := (keep_of_below hN).cell cex02 (fun h => h); have cga00 := (keep_of_below hN).cell cea00 (fun h => h); have cga01 := (keep_of_below hN).cell cea01 (fun h => h); have cga02 := (keep_of_below hN).cell cea02 (fun h => h); have ZD := And.intro cgx00 (And.intro cgx01 (And.intro cgx02 (And.intro cga00 (And.intro cga01 cga02)))); have HNe := Lib.hid hN; clear hN))
  have hN : Below we14.heap.size we14 we16 := below_more (below_more HDR.out HNf.out) HNe.out
  clear ZA ZB ZC ZD HBd HRxd HRxe HDR HNf HNe HRf0
  clear cdx00 cdx01 cdx02 cda00 cda01 cda02 cex00 cex01 cex02 cea00 cea01 cea02 cgx00 cgx01 cgx02 cga00 cga01 cga02
  have hBw_17 := below_more hBw_15 hN
  clear hBw_15
  have hBwb_17 := below_more hBwb_15 hN
  clear hBwb_15
  have hBwx0_17 := below_more hBwx0_15 hN
  clear hBwx0_15
  have hBwd_17 := below_more hBwd_15 hN
  clear hBwd_15
  have hkN := keep_of_below hN
  have bxa00' := hkN.cell bxa00 (fun h => h)
  clear bxa00
  have bxa00 := bxa00'
  clear bxa00'
  have bxa01' := hkN.cell bxa01 (fun h => h)
  clear bxa01
  have bxa01 := bxa01'
  clear bxa01'
  have bxa02' := hkN.cell bxa02 (fun h => h)
  clear bxa02
  have bxa02 := bxa02'
  clear bxa02'
  have lba0' := Nat.lt_of_lt_of_le lba0 hN.size
  clear lba0
  have lba0 := lba0'
  clear lba0'
  have bxs0' := hkN.cell bxs0 (fun h => h)
  clear bxs0
  have bxs0 := bxs0'
  clear bxs0'
  have bxs1' := hkN.cell bxs1 (fun h => h)
  clear bxs1
  have bxs1 := bxs1'
  clear bxs1'
  have bxs2' := hkN.cell bxs2 (fun h => h)
  clear bxs2
  have bxs2 := bxs2'
  clear bxs2'
  have lbs' := Nat.lt_of_lt_of_le lbs hN.size
  clear lbs
  have lbs := lbs'
  clear lbs'
  have bxx00' := hkN.cell bxx00 (fun h => h)
  clear bxx00
  have bxx00 := bxx00'
  clear bxx00'
  have bxx01' := hkN.cell bxx01 (fun h => h)
  clear bxx01
  have bxx01 := bxx01'
  clear bxx01'
  have bxx02' := hkN.cell bxx02 (fun h => h)
  clear bxx02
  have bxx02 := bxx02'
  clear bxx02'
  have lbx0' := Nat.lt_of_lt_of_le lbx0 hN.size
  clear lbx0
  have lbx0 := lbx0'
  clear lbx0'
  have bxg0' := hkN.cell bxg0 (fun h => h)
  clear bxg0
  have bxg0 := bxg0'
  clear bxg0'
  have bxg1' := hkN.cell bxg1 (fun h => h)
  clear bxg1
  have bxg1 := bxg1'
  clear bxg1'
  have bxg2' := hkN.cell bxg2 (fun h => h)
  clear bxg2
  have bxg2 := bxg2'
  clear bxg2'
  have lbg' := Nat.lt_of_lt_of_le lbg hN.size
  clear lbg
  have lbg := lbg'
  clear lbg'
  clear hkN
  have hzwe16 := hN.size
  clear hN
  go_wp2_with (fail)
  have hown := HOx0.out.below hBwx0_17
  refine (markRec _ _ p0 T0 F0 (1) _ hown (by omega) (by omega)).mono ?_
  rintro e wm0 ⟨rfl, _, hK0⟩
  have hK := hK0.mono (T := fun g => wqs.heap.size ≤ g ∧ g < wx0.heap.size) (fun g _ hg => HLx0.out g hg)
  clear hK0 hown
  have hzzwm0 := hK.size
  have hX := hK.below (B := wb.heap.size) (by have h1 := (hBwb_17).size; omega) (fun k hk => by have h1 := hk.1; omega)
  have hBwb_18 := (hBwb_17).trans hX
  have hBw_18 := (hBw_17).trans (hX.mono (by omega))
  have bxa00' := hK.cell bxa00 (fun h => by have h1 := h.1; have h2 := h.2; simp only at h1 h2; omega)
  clear bxa00
  have bxa00 := bxa00'
  clear bxa00'
  have bxa01' := hK.cell bxa01 (fun h => by have h1 := h.1; have h2 := h.2; simp only at h1 h2; omega)
  clear bxa01
  have bxa01 := bxa01'
  clear bxa01'
  have bxa02' := hK.cell bxa02 (fun h => by have h1 := h.1; have h2 := h.2; simp only at h1 h2; omega)
  clear bxa02
  have bxa02 := bxa02'
  clear bxa02'
  have lba0' := Nat.lt_of_lt_of_le lba0 hK.size
  clear lba0
  have lba0 := lba0'
  clear lba0'
  have bxs0' := hK.cell bxs0 (fun h => by have h1 := h.1; have h2 := h.2; simp only at h1 h2; omega)
  clear bxs0
  have bxs0 := bxs0'
  clear bxs0'
  have bxs1' := hK.cell bxs1 (fun h => by have h1 := h.1; have h2 := h.2; simp only at h1 h2; omega)
  clear bxs1
  have bxs1 := bxs1'
  clear bxs1'
  have bxs2' := hK.cell bxs2 (fun h => by have h1 := h.1; have h2 := h.2; simp only at h1 h2; omega)
  clear bxs2
  have bxs2 := bxs2'
  clear bxs2'
  have lbs' := Nat.lt_of_lt_of_le lbs hK.size
  clear lbs
  have lbs := lbs'
  clear lbs'
  have bxx00' := hK.cell bxx00 (fun h => by have h1 := h.1; have h2 := h.2; simp only at h1 h2; omega)
  clear bxx00
  have bxx00 := bxx00'
  clear bxx00'
  have bxx01' := hK.cell bxx01 (fun h => by have h1 := h.1; have h2 := h.2; simp only at h1 h2; omega)
  clear bxx01
  have bxx01 := bxx01'
  clear bxx01'
  have bxx02' := hK.cell bxx02 (fun h => by have h1 := h.1; have h2 := h.2; simp only at h1 h2; omega)
  clear bxx02
  have bxx02 := bxx02'
  clear bxx02'
  have lbx0' := Nat.lt_of_lt_of_le lbx0 hK.size
  clear lbx0
  have lbx0 := lbx0'
  clear lbx0'
  have bxg0' := hK.cell bxg0 (fun h => by have h1 := h.1; have h2 := h.2; simp only at h1 h2; omega)
  clear bxg0
  have bxg0 := bxg0'
  clear bxg0'
  have bxg1' := hK.cell bxg1 (fun h => by have h1 := h.1; have h2 := h.2; simp only at h1 h2; omega)
  clear bxg1
  have bxg1 := bxg1'
  clear bxg1'
  have bxg2' := hK.cell bxg2 (fun h => by have h1 := h.1; have h2 := h.2; simp only at h1 h2; omega)
  clear bxg2
  have bxg2 := bxg2'
  clear bxg2'
  have lbg' := Nat.lt_of_lt_of_le lbg hK.size
  clear lbg
  have lbg := lbg'
  clear lbg'
  have hOg := (HOg.out.below hBwd_17).keep hK (fun g hg hs => by have := HLg.out g hg; omega)
  clear HOg HRg
  have HOg := Lib.hid hOg
  have HRg := Lib.hid hOg.rv
  clear hOg
  clear hK hX
  have hBwd_19 := Below.refl wm0.heap.size wm0
  have hpos : 0 ≤ 1 + (T0.length : Int) + (F0.length : Int) := by omega
  go_wp2_with (fail)
  refine (eqRec _ RP RT RF _ RP RT RF _ (HRg.out.below hBwd_19) (HRs.out.below hBwb_18)).mono ?_
  rintro e we20 ⟨rfl, hN⟩
  rw [decide_eq_true (show RP = RP ∧ RT = RT ∧ RF = RF from ⟨rfl, rfl, rfl⟩)]
  have hBw_21 := below_more hBw_18 hN
  clear hBw_18
  have hBwb_21 := below_more hBwb_18 hN
  clear hBwb_18
  have hBwd_21 := below_more hBwd_19 hN
  clear hBwd_19
  have hkN := keep_of_below hN
  have bxa00' := hkN.cell bxa00 (fun h => h)
  clear bxa00
  have bxa00 := bxa00'
  clear bxa00'
  have bxa01' := hkN.cell bxa01 (fun h => h)
  clear bxa01
  have bxa01 := bxa01'
  clear bxa01'
  have bxa02' := hkN.cell bxa02 (fun h => h)
  clear bxa02
  have bxa02 := bxa02'
  clear bxa02'
  have lba0' := Nat.lt_of_lt_of_le lba0 hN.size
  clear lba0
  have lba0 := lba0'
  clear lba0'
  have bxs0' := hkN.cell bxs0 (fun h => h)
  clear bxs0
  have bxs0 := bxs0'
  clear bxs0'
  have bxs1' := hkN.cell bxs1 (fun h => h)
  clear bxs1
  have bxs1 := bxs1'
  clear bxs1'
  have bxs2' := hkN.cell bxs2 (fun h => h)
  clear bxs2
  have bxs2 := bxs2'
  clear bxs2'
  have lbs' := Nat.lt_of_lt_of_le lbs hN.size
  clear lbs
  have lbs := lbs'
  clear lbs'
  have bxx00' := hkN.cell bxx00 (fun h => h)
  clear bxx00
  have bxx00 := bxx00'
  clear bxx00'
  have bxx01' := hkN.cell bxx01 (fun h => h)
  clear bxx01
  have bxx01 := bxx01'
  clear bxx01'
  have bxx02' := hkN.cell bxx02 (fun h => h)
  clear bxx02
  have bxx02 := bxx02'
  clear bxx02'
  have lbx0' := Nat.lt_of_lt_of_le lbx0 hN.size
  clear lbx0
  have lbx0 := lbx0'
  clear lbx0'
  have bxg0' := hkN.cell bxg0 (fun h => h)
  clear bxg0
  have bxg0 := bxg0'
  clear bxg0'
  have bxg1' := hkN.cell bxg1 (fun h => h)
  clear bxg1
  have bxg1 := bxg1'
  clear bxg1'
  have bxg2' := hkN.cell bxg2 (fun h => h)
  clear bxg2
  have bxg2 := bxg2'
  clear bxg2'
  have lbg' := Nat.lt_of_lt_of_le lbg hN.size
  clear lbg
  have lbg := lbg'
  clear lbg'
  clear hkN
  have hzwe20 := hN.size
  clear hN
  go_wp2_with (fail)
  refine (markRec _ _ RP RT RF 1 _ (HOg.out.below hBwd_21) (by omega) (by omega)).mono ?_
  rintro e wj ⟨rfl, hO, hK0⟩
  have hK := hK0.mono (T := fun g => wqx0.heap.size ≤ g ∧ g < wd.heap.size) (fun g _ hg => HLg.out g hg)
  clear hK0
  have hzzwj := hK.size
  have hX := hK.below (B := wb.heap.size) (by have h1 := (hBwb_21).size; omega) (fun k hk => by have h1 := hk.1; omega)
  have hBwb_22 := (hBwb_21).trans hX
  have hBw_22 := (hBw_21).trans (hX.mono (by omega))
  have bxa00' := hK.cell bxa00 (fun h => by have h1 := h.1; have h2 := h.2; simp only at h1 h2; omega)
  clear bxa00
  have bxa00 := bxa00'
  clear bxa00'
  have bxa01' := hK.cell bxa01 (fun h => by have h1 := h.1; have h2 := h.2; simp only at h1 h2; omega)
  clear bxa01
  have bxa01 := bxa01'
  clear bxa01'
  have bxa02' := hK.cell bxa02 (fun h => by have h1 := h.1; have h2 := h.2; simp only at h1 h2; omega)
  clear bxa02
  have bxa02 := bxa02'
  clear bxa02'
  have lba0' := Nat.lt_of_lt_of_le lba0 hK.size
  clear lba0
  have lba0 := lba0'
  clear lba0'
  have bxs0' := hK.cell bxs0 (fun h => by have h1 := h.1; have h2 := h.2; simp only at h1 h2; omega)
  clear bxs0
  have bxs0 := bxs0'
  clear bxs0'
  have bxs1' := hK.cell bxs1 (fun h => by have h1 := h.1; have h2 := h.2; simp only at h1 h2; omega)
  clear bxs1
  have bxs1 := bxs1'
  clear bxs1'
  have bxs2' := hK.cell bxs2 (fun h => by have h1 := h.1; have h2 := h.2; simp only at h1 h2; omega)
  clear bxs2
  have bxs2 := bxs2'
  clear bxs2'
  have lbs' := Nat.lt_of_lt_of_le lbs hK.size
  clear lbs
  have lbs := lbs'
  clear lbs'
  have bxx00' := hK.cell bxx00 (fun h => by have h1 := h.1; have h2 := h.2; simp only at h1 h2; omega)
  clear bxx00
  have bxx00 := bxx00'
  clear bxx00'
  have bxx01' := hK.cell bxx01 (fun h => by have h1 := h.1; have h2 := h.2; simp only at h1 h2; omega)
  clear bxx01
  have bxx01 := bxx01'
  clear bxx01'
  have bxx02' := hK.cell bxx02 (fun h => by have h1 := h.1; have h2 := h.2; simp only at h1 h2; omega)
  clear bxx02
  have bxx02 := bxx02'
  clear bxx02'
  have lbx0' := Nat.lt_of_lt_of_le lbx0 hK.size
  clear lbx0
  have lbx0 := lbx0'
  clear lbx0'
  have bxg0' := hK.cell bxg0 (fun h => by have h1 := h.1; have h2 := h.2; simp only at h1 h2; omega)
  clear bxg0
  have bxg0 := bxg0'
  clear bxg0'
  have bxg1' := hK.cell bxg1 (fun h => by have h1 := h.1; have h2 := h.2; simp only at h1 h2; omega)
  clear bxg1
  have bxg1 := bxg1'
  clear bxg1'
  have bxg2' := hK.cell bxg2 (fun h => by have h1 := h.1; have h2 := h.2; simp only at h1 h2; omega)
  clear bxg2
  have bxg2 := bxg2'
  clear bxg2'
  have lbg' := Nat.lt_of_lt_of_le lbg hK.size
  clear lbg
  have lbg := lbg'
  clear lbg'
  have HRj := Lib.hid hO.rv
  clear hO hK hX
  have hBwj_23 := Below.refl wj.heap.size wj
  go_wp2_with (fail)
  refine (heldRec _ RP 1 RT.length RF.length _ (HRj.out.below hBwj_23) (by omega) (by omega)).mono ?_
  rintro e wh1 ⟨rfl, hN⟩
  have hBw_24 := below_more hBw_22 hN
  clear hBw_22
  have hBwb_24 := below_more hBwb_22 hN
  clear hBwb_22
  have hBwj_24 := below_more hBwj_23 hN
  clear hBwj_23
  have hkN := keep_of_below hN
  have bxa00' := hkN.cell bxa00 (fun h => h)
  clear bxa00
  have bxa00 := bxa00'
  clear bxa00'
  have bxa01' := hkN.cell bxa01 (fun h => h)
  clear bxa01
  have bxa01 := bxa01'
  clear bxa01'
  have bxa02' := hkN.cell bxa02 (fun h => h)
  clear bxa02
  have bxa02 := bxa02'
  clear bxa02'
  have lba0' := Nat.lt_of_lt_of_le lba0 hN.size
  clear lba0
  have lba0 := lba0'
  clear lba0'
  have bxs0' := hkN.cell bxs0 (fun h => h)
  clear bxs0
  have bxs0 := bxs0'
  clear bxs0'
  have bxs1' := hkN.cell bxs1 (fun h => h)
  clear bxs1
  have bxs1 := bxs1'
  clear bxs1'
  have bxs2' := hkN.cell bxs2 (fun h => h)
  clear bxs2
  have bxs2 := bxs2'
  clear bxs2'
  have lbs' := Nat.lt_of_lt_of_le lbs hN.size
  clear lbs
  have lbs := lbs'
  clear lbs'
  have bxx00' := hkN.cell bxx00 (fun h => h)
  clear bxx00
  have bxx00 := bxx00'
  clear bxx00'
  have bxx01' := hkN.cell bxx01 (fun h => h)
  clear bxx01
  have bxx01 := bxx01'
  clear bxx01'
  have bxx02' := hkN.cell bxx02 (fun h => h)
  clear bxx02
  have bxx02 := bxx02'
  clear bxx02'
  have lbx0' := Nat.lt_of_lt_of_le lbx0 hN.size
  clear lbx0
  have lbx0 := lbx0'
  clear lbx0'
  have bxg0' := hkN.cell bxg0 (fun h => h)
  clear bxg0
  have bxg0 := bxg0'
  clear bxg0'
  have bxg1' := hkN.cell bxg1 (fun h => h)
  clear bxg1
  have bxg1 := bxg1'
  clear bxg1'
  have bxg2' := hkN.cell bxg2 (fun h => h)
  clear bxg2
  have bxg2 := bxg2'
  clear bxg2'
  have lbg' := Nat.lt_of_lt_of_le lbg hN.size
  clear lbg
  have lbg := lbg'
  clear lbg'
  clear hkN
  have hzwh1 := hN.size
  clear hN
  have hpq1 : 0 ≤ 1 + (RT.length : Int) + (RF.length : Int) := by omega
  have hqg : ((1 + (RT.length : Int) + (RF.length : Int)) != (1 + (RT.length : Int) + (RF.length : Int))) = false := by simp
  go_wp2_with (fail)
  refine (toRec _ p0 T0 F0 _ (H0.out.below hBw_24) hT0 hF0).mono ?_
  rintro e wy0 ⟨_, rfl, ⟨Ay0, cy0, By0, dy0, rfl, hO1, hO2, hO3⟩, hN⟩
  have hO : RO wy0 wh1.heap.size (.agg #[.int .i64 p0, .slice Ay0 T0.length cy0, .slice By0 F0.length dy0]) p0 T0 F0 := ⟨Ay0, cy0, By0, dy0, rfl, hO1, hO2, hO3⟩
  clear hO1 hO2 hO3
  have hBw_25 := below_more hBw_24 hN
  clear hBw_24
  have hBwb_25 := below_more hBwb_24 hN
  clear hBwb_24
  have hBwj_25 := below_more hBwj_24 hN
  clear hBwj_24
  have hkN := keep_of_below hN
  have bxa00' := hkN.cell bxa00 (fun h => h)
  clear bxa00
  have bxa00 := bxa00'
  clear bxa00'
  have bxa01' := hkN.cell bxa01 (fun h => h)
  clear bxa01
  have bxa01 := bxa01'
  clear bxa01'
  have bxa02' := hkN.cell bxa02 (fun h => h)
  clear bxa02
  have bxa02 := bxa02'
  clear bxa02'
  have lba0' := Nat.lt_of_lt_of_le lba0 hN.size
  clear lba0
  have lba0 := lba0'
  clear lba0'
  have bxs0' := hkN.cell bxs0 (fun h => h)
  clear bxs0
  have bxs0 := bxs0'
  clear bxs0'
  have bxs1' := hkN.cell bxs1 (fun h => h)
  clear bxs1
  have bxs1 := bxs1'
  clear bxs1'
  have bxs2' := hkN.cell bxs2 (fun h => h)
  clear bxs2
  have bxs2 := bxs2'
  clear bxs2'
  have lbs' := Nat.lt_of_lt_of_le lbs hN.size
  clear lbs
  have lbs := lbs'
  clear lbs'
  have bxx00' := hkN.cell bxx00 (fun h => h)
  clear bxx00
  have bxx00 := bxx00'
  clear bxx00'
  have bxx01' := hkN.cell bxx01 (fun h => h)
  clear bxx01
  have bxx01 := bxx01'
  clear bxx01'
  have bxx02' := hkN.cell bxx02 (fun h => h)
  clear bxx02
  have bxx02 := bxx02'
  clear bxx02'
  have lbx0' := Nat.lt_of_lt_of_le lbx0 hN.size
  clear lbx0
  have lbx0 := lbx0'
  clear lbx0'
  have bxg0' := hkN.cell bxg0 (fun h => h)
  clear bxg0
  have bxg0 := bxg0'
  clear bxg0'
  have bxg1' := hkN.cell bxg1 (fun h => h)
  clear bxg1
  have bxg1 := bxg1'
  clear bxg1'
  have bxg2' := hkN.cell bxg2 (fun h => h)
  clear bxg2
  have bxg2 := bxg2'
  clear bxg2'
  have lbg' := Nat.lt_of_lt_of_le lbg hN.size
  clear lbg
  have lbg := lbg'
  clear lbg'
  clear hkN
  have hzwy0 := hN.size
  clear hN
  have HLy0 := Lib.hid (show ∀ g, recBlk (.agg #[.int .i64 p0, .slice Ay0 T0.length cy0, .slice By0 F0.length dy0]) g → _ from fun g hg => hO.lt g hg)
  have HRy0 := Lib.hid hO.rv
  have HOy0 := Lib.hid hO
  clear hO
  have hBwy0_26 := Below.refl wy0.heap.size wy0
  go_wp2_with (fail)
  refine (implRecLeast _ p0 T0 F0 _ (HRy0.out.below hBwy0_26) ge (HGE.out.below hBw_25)).mono ?_
  rw [HRV.out]
  rintro e wl ⟨_, rfl, hO0, hN⟩
  rw [HRP.out, HRT.out, HRF.out] at hO0
  obtain ⟨Al, cl, Bl, dl, rfl, hO1, hO2, hO3⟩ := hO0
  have hO : RO wl wy0.heap.size (.agg #[.int .i64 RP, .slice Al RT.length cl, .slice Bl RF.length dl]) RP RT RF := ⟨Al, cl, Bl, dl, rfl, hO1, hO2, hO3⟩
  clear hO1 hO2 hO3
  have hBw_27 := below_more hBw_25 hN
  clear hBw_25
  have hBwb_27 := below_more hBwb_25 hN
  clear hBwb_25
  have hBwj_27 := below_more hBwj_25 hN
  clear hBwj_25
  have hBwy0_27 := below_more hBwy0_26 hN
  clear hBwy0_26
  have hkN := keep_of_below hN
  have bxa00' := hkN.cell bxa00 (fun h => h)
  clear bxa00
  have bxa00 := bxa00'
  clear bxa00'
  have bxa01' := hkN.cell bxa01 (fun h => h)
  clear bxa01
  have bxa01 := bxa01'
  clear bxa01'
  have bxa02' := hkN.cell bxa02 (fun h => h)
  clear bxa02
  have bxa02 := bxa02'
  clear bxa02'
  have lba0' := Nat.lt_of_lt_of_le lba0 hN.size
  clear lba0
  have lba0 := lba0'
  clear lba0'
  have bxs0' := hkN.cell bxs0 (fun h => h)
  clear bxs0
  have bxs0 := bxs0'
  clear bxs0'
  have bxs1' := hkN.cell bxs1 (fun h => h)
  clear bxs1
  have bxs1 := bxs1'
  clear bxs1'
  have bxs2' := hkN.cell bxs2 (fun h => h)
  clear bxs2
  have bxs2 := bxs2'
  clear bxs2'
  have lbs' := Nat.lt_of_lt_of_le lbs hN.size
  clear lbs
  have lbs := lbs'
  clear lbs'
  have bxx00' := hkN.cell bxx00 (fun h => h)
  clear bxx00
  have bxx00 := bxx00'
  clear bxx00'
  have bxx01' := hkN.cell bxx01 (fun h => h)
  clear bxx01
  have bxx01 := bxx01'
  clear bxx01'
  have bxx02' := hkN.cell bxx02 (fun h => h)
  clear bxx02
  have bxx02 := bxx02'
  clear bxx02'
  have lbx0' := Nat.lt_of_lt_of_le lbx0 hN.size
  clear lbx0
  have lbx0 := lbx0'
  clear lbx0'
  have bxg0' := hkN.cell bxg0 (fun h => h)
  clear bxg0
  have bxg0 := bxg0'
  clear bxg0'
  have bxg1' := hkN.cell bxg1 (fun h => h)
  clear bxg1
  have bxg1 := bxg1'
  clear bxg1'
  have bxg2' := hkN.cell bxg2 (fun h => h)
  clear bxg2
  have bxg2 := bxg2'
  clear bxg2'
  have lbg' := Nat.lt_of_lt_of_le lbg hN.size
  clear lbg
  have lbg := lbg'
  clear lbg'
  clear hkN
  have hzwl := hN.size
  clear hN
  have HLl := Lib.hid (show ∀ g, recBlk (.agg #[.int .i64 RP, .slice Al RT.length cl, .slice Bl RF.length dl]) g → _ from fun g hg => hO.lt g hg)
  have HRl := Lib.hid hO.rv
  have HOl := Lib.hid hO
  clear hO
  have hBwl_28 := Below.refl wl.heap.size wl
  go_wp2_with (fail)
  obtain ⟨wql, hQ⟩ : ∃ W, wl.alloc (.cells #[.int .i64 RP, .slice Al RT.length cl, .slice Bl RF.length dl] 29) = W := ⟨_, rfl⟩
  rw [hQ]
  have hN : Below wl.heap.size wl wql := by rw [← hQ]; exact (Below.refl _ _).alloc (Nat.le_refl _) _
  obtain ⟨hn0, hn1, hn2⟩ := box3 wl (.int .i64 RP) (.slice Al RT.length cl) (.slice Bl RF.length dl) 29
  rw [hQ] at hn0 hn1 hn2
  have hnl : wl.heap.size < wql.heap.size := cell_lt hn0
  have lcl := hnl
  clear hQ
  have hBw_29 := below_more hBw_27 hN
  clear hBw_27
  have hBwb_29 := below_more hBwb_27 hN
  clear hBwb_27
  have hBwj_29 := below_more hBwj_27 hN
  clear hBwj_27
  have hBwy0_29 := below_more hBwy0_27 hN
  clear hBwy0_27
  have hBwl_29 := below_more hBwl_28 hN
  clear hBwl_28
  have hkN := keep_of_below hN
  have bxa00' := hkN.cell bxa00 (fun h => h)
  clear bxa00
  have bxa00 := bxa00'
  clear bxa00'
  have bxa01' := hkN.cell bxa01 (fun h => h)
  clear bxa01
  have bxa01 := bxa01'
  clear bxa01'
  have bxa02' := hkN.cell bxa02 (fun h => h)
  clear bxa02
  have bxa02 := bxa02'
  clear bxa02'
  have lba0' := Nat.lt_of_lt_of_le lba0 hN.size
  clear lba0
  have lba0 := lba0'
  clear lba0'
  have bxs0' := hkN.cell bxs0 (fun h => h)
  clear bxs0
  have bxs0 := bxs0'
  clear bxs0'
  have bxs1' := hkN.cell bxs1 (fun h => h)
  clear bxs1
  have bxs1 := bxs1'
  clear bxs1'
  have bxs2' := hkN.cell bxs2 (fun h => h)
  clear bxs2
  have bxs2 := bxs2'
  clear bxs2'
  have lbs' := Nat.lt_of_lt_of_le lbs hN.size
  clear lbs
  have lbs := lbs'
  clear lbs'
  have bxx00' := hkN.cell bxx00 (fun h => h)
  clear bxx00
  have bxx00 := bxx00'
  clear bxx00'
  have bxx01' := hkN.cell bxx01 (fun h => h)
  clear bxx01
  have bxx01 := bxx01'
  clear bxx01'
  have bxx02' := hkN.cell bxx02 (fun h => h)
  clear bxx02
  have bxx02 := bxx02'
  clear bxx02'
  have lbx0' := Nat.lt_of_lt_of_le lbx0 hN.size
  clear lbx0
  have lbx0 := lbx0'
  clear lbx0'
  have bxg0' := hkN.cell bxg0 (fun h => h)
  clear bxg0
  have bxg0 := bxg0'
  clear bxg0'
  have bxg1' := hkN.cell bxg1 (fun h => h)
  clear bxg1
  have bxg1 := bxg1'
  clear bxg1'
  have bxg2' := hkN.cell bxg2 (fun h => h)
  clear bxg2
  have bxg2 := bxg2'
  clear bxg2'
  have lbg' := Nat.lt_of_lt_of_le lbg hN.size
  clear lbg
  have lbg := lbg'
  clear lbg'
  clear hkN
  have hzwql := hN.size
  clear hN
  have bxl0 := hn0
  clear hn0
  have bxl1 := hn1
  clear hn1
  have bxl2 := hn2
  clear hn2
  have lbl := hnl
  clear hnl
  refine (eqRec _ RP RT RF _ RP RT RF _ (HRl.out.below hBwl_29) (HRs.out.below hBwb_29)).mono ?_
  rintro e we30 ⟨rfl, hN⟩
  rw [decide_eq_true (show RP = RP ∧ RT = RT ∧ RF = RF from ⟨rfl, rfl, rfl⟩)]
  have hBw_31 := below_more hBw_29 hN
  clear hBw_29
  have hBwb_31 := below_more hBwb_29 hN
  clear hBwb_29
  have hBwj_31 := below_more hBwj_29 hN
  clear hBwj_29
  have hBwy0_31 := below_more hBwy0_29 hN
  clear hBwy0_29
  have hBwl_31 := below_more hBwl_29 hN
  clear hBwl_29
  have hkN := keep_of_below hN
  have bxa00' := hkN.cell bxa00 (fun h => h)
  clear bxa00
  have bxa00 := bxa00'
  clear bxa00'
  have bxa01' := hkN.cell bxa01 (fun h => h)
  clear bxa01
  have bxa01 := bxa01'
  clear bxa01'
  have bxa02' := hkN.cell bxa02 (fun h => h)
  clear bxa02
  have bxa02 := bxa02'
  clear bxa02'
  have lba0' := Nat.lt_of_lt_of_le lba0 hN.size
  clear lba0
  have lba0 := lba0'
  clear lba0'
  have bxs0' := hkN.cell bxs0 (fun h => h)
  clear bxs0
  have bxs0 := bxs0'
  clear bxs0'
  have bxs1' := hkN.cell bxs1 (fun h => h)
  clear bxs1
  have bxs1 := bxs1'
  clear bxs1'
  have bxs2' := hkN.cell bxs2 (fun h => h)
  clear bxs2
  have bxs2 := bxs2'
  clear bxs2'
  have lbs' := Nat.lt_of_lt_of_le lbs hN.size
  clear lbs
  have lbs := lbs'
  clear lbs'
  have bxx00' := hkN.cell bxx00 (fun h => h)
  clear bxx00
  have bxx00 := bxx00'
  clear bxx00'
  have bxx01' := hkN.cell bxx01 (fun h => h)
  clear bxx01
  have bxx01 := bxx01'
  clear bxx01'
  have bxx02' := hkN.cell bxx02 (fun h => h)
  clear bxx02
  have bxx02 := bxx02'
  clear bxx02'
  have lbx0' := Nat.lt_of_lt_of_le lbx0 hN.size
  clear lbx0
  have lbx0 := lbx0'
  clear lbx0'
  have bxg0' := hkN.cell bxg0 (fun h => h)
  clear bxg0
  have bxg0 := bxg0'
  clear bxg0'
  have bxg1' := hkN.cell bxg1 (fun h => h)
  clear bxg1
  have bxg1 := bxg1'
  clear bxg1'
  have bxg2' := hkN.cell bxg2 (fun h => h)
  clear bxg2
  have bxg2 := bxg2'
  clear bxg2'
  have lbg' := Nat.lt_of_lt_of_le lbg hN.size
  clear lbg
  have lbg := lbg'
  clear lbg'
  have bxl0' := hkN.cell bxl0 (fun h => h)
  clear bxl0
  have bxl0 := bxl0'
  clear bxl0'
  have bxl1' := hkN.cell bxl1 (fun h => h)
  clear bxl1
  have bxl1 := bxl1'
  clear bxl1'
  have bxl2' := hkN.cell bxl2 (fun h => h)
  clear bxl2
  have bxl2 := bxl2'
  clear bxl2'
  have lbl' := Nat.lt_of_lt_of_le lbl hN.size
  clear lbl
  have lbl := lbl'
  clear lbl'
  clear hkN
  have hzwe30 := hN.size
  clear hN
  go_wp2_with (fail)
  refine (heldRec _ RP 1 RT.length RF.length _ (HRj.out.below hBwj_31) (by omega) (by omega)).mono ?_
  rintro e wh2 ⟨rfl, hN⟩
  have hBw_32 := below_more hBw_31 hN
  clear hBw_31
  have hBwb_32 := below_more hBwb_31 hN
  clear hBwb_31
  have hBwj_32 := below_more hBwj_31 hN
  clear hBwj_31
  have hBwy0_32 := below_more hBwy0_31 hN
  clear hBwy0_31
  have hBwl_32 := below_more hBwl_31 hN
  clear hBwl_31
  have hkN := keep_of_below hN
  have bxa00' := hkN.cell bxa00 (fun h => h)
  clear bxa00
  have bxa00 := bxa00'
  clear bxa00'
  have bxa01' := hkN.cell bxa01 (fun h => h)
  clear bxa01
  have bxa01 := bxa01'
  clear bxa01'
  have bxa02' := hkN.cell bxa02 (fun h => h)
  clear bxa02
  have bxa02 := bxa02'
  clear bxa02'
  have lba0' := Nat.lt_of_lt_of_le lba0 hN.size
  clear lba0
  have lba0 := lba0'
  clear lba0'
  have bxs0' := hkN.cell bxs0 (fun h => h)
  clear bxs0
  have bxs0 := bxs0'
  clear bxs0'
  have bxs1' := hkN.cell bxs1 (fun h => h)
  clear bxs1
  have bxs1 := bxs1'
  clear bxs1'
  have bxs2' := hkN.cell bxs2 (fun h => h)
  clear bxs2
  have bxs2 := bxs2'
  clear bxs2'
  have lbs' := Nat.lt_of_lt_of_le lbs hN.size
  clear lbs
  have lbs := lbs'
  clear lbs'
  have bxx00' := hkN.cell bxx00 (fun h => h)
  clear bxx00
  have bxx00 := bxx00'
  clear bxx00'
  have bxx01' := hkN.cell bxx01 (fun h => h)
  clear bxx01
  have bxx01 := bxx01'
  clear bxx01'
  have bxx02' := hkN.cell bxx02 (fun h => h)
  clear bxx02
  have bxx02 := bxx02'
  clear bxx02'
  have lbx0' := Nat.lt_of_lt_of_le lbx0 hN.size
  clear lbx0
  have lbx0 := lbx0'
  clear lbx0'
  have bxg0' := hkN.cell bxg0 (fun h => h)
  clear bxg0
  have bxg0 := bxg0'
  clear bxg0'
  have bxg1' := hkN.cell bxg1 (fun h => h)
  clear bxg1
  have bxg1 := bxg1'
  clear bxg1'
  have bxg2' := hkN.cell bxg2 (fun h => h)
  clear bxg2
  have bxg2 := bxg2'
  clear bxg2'
  have lbg' := Nat.lt_of_lt_of_le lbg hN.size
  clear lbg
  have lbg := lbg'
  clear lbg'
  have bxl0' := hkN.cell bxl0 (fun h => h)
  clear bxl0
  have bxl0 := bxl0'
  clear bxl0'
  have bxl1' := hkN.cell bxl1 (fun h => h)
  clear bxl1
  have bxl1 := bxl1'
  clear bxl1'
  have bxl2' := hkN.cell bxl2 (fun h => h)
  clear bxl2
  have bxl2 := bxl2'
  clear bxl2'
  have lbl' := Nat.lt_of_lt_of_le lbl hN.size
  clear lbl
  have lbl := lbl'
  clear lbl'
  clear hkN
  have hzwh2 := hN.size
  clear hN
  have hpq2 : 0 ≤ 1 + (RT.length : Int) + (RF.length : Int) := by omega
  go_wp2_with (fail)
  go_ret
  exact ⟨rfl, hBw_32⟩
end Go.Proofs.YtbpndmcejbiedaaDoor

/-
  The walk of the exact law of TableDets.
-/
import Derived.Deep.RegionHeld3
import Derived.Test.YtcjpjcigjljplaaTbZ
namespace Go.Proofs.Ytcjpjcigjljplaa
open Go.RowKit
set_option maxRecDepth 100000 in
set_option maxHeartbeats 2000000 in
set_option linter.unusedVariables false in
theorem walkFnExactTableDets (p0 : Int) (Aa0 : Option Addr) (na0 ca0 : Nat) (Ba0 : Option Addr) (ma0 da0 : Nat) (T0 F0 : List Int) (w : World) (w0 : RV w (.agg #[.int .i64 p0, .slice Aa0 na0 ca0, .slice Ba0 ma0 da0]) p0 T0 F0) :
    Calls Try.prog 6 #[.agg #[.int .i64 p0, .slice Aa0 na0 ca0, .slice Ba0 ma0 da0]] w fun e w' => e = .returned (.bool true) ∧ Below w.heap.size w w' := by
  have H0 := Lib.hid w0
  clear w0
  go_enter Try.func6, Try.ntmps6
  have hBw0 := Below.refl w.heap.size w
  go_wp2_with (fail)
  obtain ⟨wqa0, hQ⟩ : ∃ W, w.alloc (.cells #[.int .i64 p0, .slice Aa0 na0 ca0, .slice Ba0 ma0 da0] 39) = W := ⟨_, rfl⟩
  rw [hQ]
  have hN : Below w.heap.size w wqa0 := by rw [← hQ]; exact (Below.refl _ _).alloc (Nat.le_refl _) _
  obtain ⟨hn0, hn1, hn2⟩ := box3 w (.int .i64 p0) (.slice Aa0 na0 ca0) (.slice Ba0 ma0 da0) 39
  rw [hQ] at hn0 hn1 hn2
  have hnl : w.heap.size < wqa0.heap.size := cell_lt hn0
  have lca0 := hnl
  clear hQ
  have hBw_1 := below_more hBw0 hN
  clear hBw0
  have hzwqa0 := hN.size
  clear hN
  have bxa00 := hn0
  clear hn0
  have bxa01 := hn1
  clear hn1
  have bxa02 := hn2
  clear hn2
  have lba0 := hnl
  clear hnl
  refine (szRec _ p0 T0 F0 1048576 _ (H0.out.below hBw_1) (by decide) (by decide)).mono ?_
  rintro e wz0 ⟨r0, rfl, hr0, hN⟩
  have hBw_2 := below_more hBw_1 hN
  clear hBw_1
  have hkN := keep_of_below hN
  have bxa00' := hkN.cell bxa00 (fun h => h)
  clear bxa00
  have bxa00 := bxa00'
  clear bxa00'
  have bxa01' := hkN.cell bxa01 (fun h => h)
  clear bxa01
  have bxa01 := bxa01'
  clear bxa01'
  have bxa02' := hkN.cell bxa02 (fun h => h)
  clear bxa02
  have bxa02 := bxa02'
  clear bxa02'
  have lba0' := Nat.lt_of_lt_of_le lba0 hN.size
  clear lba0
  have lba0 := lba0'
  clear lba0'
  clear hkN
  have hzwz0 := hN.size
  clear hN
  rcases hr0 with hr0 | ⟨hr00, hrx0, hTn0, hFn0⟩
  · go_wp2_with (fail)
    go_ret
    exact ⟨rfl, hBw_2⟩
  have hT0 : T0.length ≤ 1048576 := by omega
  have hF0 : F0.length ≤ 1048576 := by omega
  obtain ⟨RV0, hRV⟩ : ∃ RV, detsO p0 T0 F0 = RV := ⟨_, rfl⟩
  have hbd := detsO_len p0 T0 F0
  rw [hRV] at hbd
  obtain ⟨RS, hRS⟩ : ∃ RS, RV0 = RS := ⟨_, rfl⟩
  rw [hRS] at hRV hbd
  clear hRS
  have HRV := Lib.hid hRV
  clear hRV
  go_wp2_with (fail)
  refine (toRec _ p0 T0 F0 _ (H0.out.below hBw_2) hT0 hF0).mono ?_
  rintro e ws0 ⟨_, rfl, ⟨As0, cs0, Bs0, ds0, rfl, hO1, hO2, hO3⟩, hN⟩
  have hO : RO ws0 wz0.heap.size (.agg #[.int .i64 p0, .slice As0 T0.length cs0, .slice Bs0 F0.length ds0]) p0 T0 F0 := ⟨As0, cs0, Bs0, ds0, rfl, hO1, hO2, hO3⟩
  clear hO1 hO2 hO3
  have hBw_3 := below_more hBw_2 hN
  clear hBw_2
  have hkN := keep_of_below hN
  have bxa00' := hkN.cell bxa00 (fun h => h)
  clear bxa00
  have bxa00 := bxa00'
  clear bxa00'
  have bxa01' := hkN.cell bxa01 (fun h => h)
  clear bxa01
  have bxa01 := bxa01'
  clear bxa01'
  have bxa02' := hkN.cell bxa02 (fun h => h)
  clear bxa02
  have bxa02 := bxa02'
  clear bxa02'
  have lba0' := Nat.lt_of_lt_of_le lba0 hN.size
  clear lba0
  have lba0 := lba0'
  clear lba0'
  clear hkN
  have hzws0 := hN.size
  clear hN
  have HLs0 := Lib.hid (show ∀ g, recBlk (.agg #[.int .i64 p0, .slice As0 T0.length cs0, .slice Bs0 F0.length ds0]) g → _ from fun g hg => hO.lt g hg)
  have HRs0 := Lib.hid hO.rv
  have HOs0 := Lib.hid hO
  clear hO
  have hBws0_4 := Below.refl ws0.heap.size ws0
  go_wp2_with (fail)
  refine (specTableDets _ p0 T0 F0 _ (HRs0.out.below hBws0_4)).mono ?_
  rw [HRV.out]
  rintro e wb ⟨As, cs, rfl, hO, hN⟩
  have hBw_5 := below_more hBw_3 hN
  clear hBw_3
  have hBws0_5 := below_more hBws0_4 hN
  clear hBws0_4
  have hkN := keep_of_below hN
  have bxa00' := hkN.cell bxa00 (fun h => h)
  clear bxa00
  have bxa00 := bxa00'
  clear bxa00'
  have bxa01' := hkN.cell bxa01 (fun h => h)
  clear bxa01
  have bxa01 := bxa01'
  clear bxa01'
  have bxa02' := hkN.cell bxa02 (fun h => h)
  clear bxa02
  have bxa02 := bxa02'
  clear bxa02'
  have lba0' := Nat.lt_of_lt_of_le lba0 hN.size
  clear lba0
  have lba0 := lba0'
  clear lba0'
  clear hkN
  have hzwb := hN.size
  clear hN
  have HLs := Lib.hid (show ∀ g, (Value.slice As RS.length cs).ownBlock = some g → _ from fun g hg => hO.lt g hg)
  obtain ⟨bs, hRa⟩ := hO.ia
  have HRs := Lib.hid hRa
  have HOs := Lib.hid hO
  clear hO hRa
  have hBwb_6 := Below.refl wb.heap.size wb
  go_wp2_with (fail)
  refine (toRec _ p0 T0 F0 _ (H0.out.below hBw_5) hT0 hF0).mono ?_
  rintro e wx0 ⟨_, rfl, ⟨Ax0, cx0, Bx0, dx0, rfl, hO1, hO2, hO3⟩, hN⟩
  have hO : RO wx0 wb.heap.size (.agg #[.int .i64 p0, .slice Ax0 T0.length cx0, .slice Bx0 F0.length dx0]) p0 T0 F0 := ⟨Ax0, cx0, Bx0, dx0, rfl, hO1, hO2, hO3⟩
  clear hO1 hO2 hO3
  have hBw_7 := below_more hBw_5 hN
  clear hBw_5
  have hBwb_7 := below_more hBwb_6 hN
  clear hBwb_6
  have hkN := keep_of_below hN
  have bxa00' := hkN.cell bxa00 (fun h => h)
  clear bxa00
  have bxa00 := bxa00'
  clear bxa00'
  have bxa01' := hkN.cell bxa01 (fun h => h)
  clear bxa01
  have bxa01 := bxa01'
  clear bxa01'
  have bxa02' := hkN.cell bxa02 (fun h => h)
  clear bxa02
  have bxa02 := bxa02'
  clear bxa02'
  have lba0' := Nat.lt_of_lt_of_le lba0 hN.size
  clear lba0
  have lba0 := lba0'
  clear lba0'
  clear hkN
  have hzwx0 := hN.size
  clear hN
  have HLx0 := Lib.hid (show ∀ g, recBlk (.agg #[.int .i64 p0, .slice Ax0 T0.length cx0, .slice Bx0 F0.length dx0]) g → _ from fun g hg => hO.lt g hg)
  have HRx0 := Lib.hid hO.rv
  have HOx0 := Lib.hid hO
  clear hO
  have hBwx0_8 := Below.refl wx0.heap.size wx0
  go_wp2_with (fail)
  obtain ⟨wqx0, hQ⟩ : ∃ W, wx0.alloc (.cells #[.int .i64 p0, .slice Ax0 T0.length cx0, .slice Bx0 F0.length dx0] 42) = W := ⟨_, rfl⟩
  rw [hQ]
  have hN : Below wx0.heap.size wx0 wqx0 := by rw [← hQ]; exact (Below.refl _ _).alloc (Nat.le_refl _) _
  obtain ⟨hn0, hn1, hn2⟩ := box3 wx0 (.int .i64 p0) (.slice Ax0 T0.length cx0) (.slice Bx0 F0.length dx0) 42
  rw [hQ] at hn0 hn1 hn2
  have hnl : wx0.heap.size < wqx0.heap.size := cell_lt hn0
  have lcx0 := hnl
  clear hQ
  have hBw_9 := below_more hBw_7 hN
  clear hBw_7
  have hBwb_9 := below_more hBwb_7 hN
  clear hBwb_7
  have hBwx0_9 := below_more hBwx0_8 hN
  clear hBwx0_8
  have hkN := keep_of_below hN
  have bxa00' := hkN.cell bxa00 (fun h => h)
  clear bxa00
  have bxa00 := bxa00'
  clear bxa00'
  have bxa01' := hkN.cell bxa01 (fun h => h)
  clear bxa01
  have bxa01 := bxa01'
  clear bxa01'
  have bxa02' := hkN.cell bxa02 (fun h => h)
  clear bxa02
  have bxa02 := bxa02'
  clear bxa02'
  have lba0' := Nat.lt_of_lt_of_le lba0 hN.size
  clear lba0
  have lba0 := lba0'
  clear lba0'
  clear hkN
  have hzwqx0 := hN.size
  clear hN
  have bxx00 := hn0
  clear hn0
  have bxx01 := hn1
  clear hn1
  have bxx02 := hn2
  clear hn2
  have lbx0 := hnl
  clear hnl
  refine (implTableDets _ p0 T0 F0 _ (HRx0.out.below hBwx0_9)).mono ?_
  rw [HRV.out]
  rintro e wd ⟨Ag, cg, rfl, hO, hN⟩
  have hBw_10 := below_more hBw_9 hN
  clear hBw_9
  have hBwb_10 := below_more hBwb_9 hN
  clear hBwb_9
  have hBwx0_10 := below_more hBwx0_9 hN
  clear hBwx0_9
  have hkN := keep_of_below hN
  have bxa00' := hkN.cell bxa00 (fun h => h)
  clear bxa00
  have bxa00 := bxa00'
  clear bxa00'
  have bxa01' := hkN.cell bxa01 (fun h => h)
  clear bxa01
  have bxa01 := bxa01'
  clear bxa01'
  have bxa02' := hkN.cell bxa02 (fun h => h)
  clear bxa02
  have bxa02 := bxa02'
  clear bxa02'
  have lba0' := Nat.lt_of_lt_of_le lba0 hN.size
  clear lba0
  have lba0 := lba0'
  clear lba0'
  have bxx00' := hkN.cell bxx00 (fun h => h)
  clear bxx00
  have bxx00 := bxx00'
  clear bxx00'
  have bxx01' := hkN.cell bxx01 (fun h => h)
  clear bxx01
  have bxx01 := bxx01'
  clear bxx01'
  have bxx02' := hkN.cell bxx02 (fun h => h)
  clear bxx02
  have bxx02 := bxx02'
  clear bxx02'
  have lbx0' := Nat.lt_of_lt_of_le lbx0 hN.size
  clear lbx0
  have lbx0 := lbx0'
  clear lbx0'
  clear hkN
  have hzwd := hN.size
  clear hN
  have HLg := Lib.hid (show ∀ g, (Value.slice Ag RS.length cg).ownBlock = some g → _ from fun g hg => hO.lt g hg)
  obtain ⟨bg, hRa⟩ := hO.ia
  have HRg := Lib.hid hRa
  have HOg := Lib.hid hO
  clear hO hRa
  have hBwd_11 := Below.refl wd.heap.size wd
  go_wp2_with (fail)
  refine (eqIntS Ag RS.length cg bg 0 RS As RS.length cs bs 0 RS _ (HRg.out.below hBwd_11) (HRs.out.below hBwb_10)).mono ?_
  rintro e we12 ⟨rfl, hm⟩
  rw [decide_eq_true (rfl : RS = RS)]
  have hN := below_drawn (Below.refl wd.heap.size wd) hm
  clear hm
  have hBw_13 := below_more hBw_10 hN
  clear hBw_10
  have hBwb_13 := below_more hBwb_10 hN
  clear hBwb_10
  have hBwx0_13 := below_more hBwx0_10 hN
  clear hBwx0_10
  have hBwd_13 := below_more hBwd_11 hN
  clear hBwd_11
  have hkN := keep_of_below hN
  have bxa00' := hkN.cell bxa00 (fun h => h)
  clear bxa00
  have bxa00 := bxa00'
  clear bxa00'
  have bxa01' := hkN.cell bxa01 (fun h => h)
  clear bxa01
  have bxa01 := bxa01'
  clear bxa01'
  have bxa02' := hkN.cell bxa02 (fun h => h)
  clear bxa02
  have bxa02 := bxa02'
  clear bxa02'
  have lba0' := Nat.lt_of_lt_of_le lba0 hN.size
  clear lba0
  have lba0 := lba0'
  clear lba0'
  have bxx00' := hkN.cell bxx00 (fun h => h)
  clear bxx00
  have bxx00 := bxx00'
  clear bxx00'
  have bxx01' := hkN.cell bxx01 (fun h => h)
  clear bxx01
  have bxx01 := bxx01'
  clear bxx01'
  have bxx02' := hkN.cell bxx02 (fun h => h)
  clear bxx02
  have bxx02 := bxx02'
  clear bxx02'
  have lbx0' := Nat.lt_of_lt_of_le lbx0 hN.size
  clear lbx0
  have lbx0 := lbx0'
  clear lbx0'
  clear hkN
  have hzwe12 := hN.size
  clear hN
  go_wp2_with (fail)
  have cdx00 : we12.drew.cell? ⟨wx0.heap.size, 0, none⟩ = some (.int .i64 p0) := bxx00
  have cdx01 : we12.drew.cell? ⟨wx0.heap.size, 1, none⟩ = some (.slice Ax0 T0.length cx0) := bxx01
  have cdx02 : we12.drew.cell? ⟨wx0.heap.size, 2, none⟩ = some (.slice Bx0 F0.length dx0) := bxx02
  have cda00 : we12.drew.cell? ⟨w.heap.size, 0, none⟩ = some (.int .i64 p0) := bxa00
  have cda01 : we12.drew.cell? ⟨w.heap.size, 1, none⟩ = some (.slice Aa0 na0 ca0) := bxa01
  have cda02 : we12.drew.cell? ⟨w.heap.size, 2, none⟩ = some (.slice Ba0 ma0 da0) := bxa02
  have ZA : we12.cell? ⟨wx0.heap.size, 0, none⟩ = some (.int .i64 p0) ∧ we12.cell? ⟨wx0.heap.size, 1, none⟩ = some (.slice Ax0 T0.length cx0) ∧ we12.cell? ⟨wx0.heap.size, 2, none⟩ = some (.slice Bx0 F0.length dx0) ∧ we12.cell? ⟨w.heap.size, 0, none⟩ = some (.int .i64 p0) ∧ we12.cell? ⟨w.heap.size, 1, none⟩ = some (.slice Aa0 na0 ca0) ∧ we12.cell? ⟨w.heap.size, 2, none⟩ = some (.slice Ba0 ma0 da0) := ⟨bxx00, bxx01, bxx02, bxa00, bxa01, bxa02⟩
  have ZB : we12.drew.cell? ⟨wx0.heap.size, 0, none⟩ = some (.int .i64 p0) ∧ we12.drew.cell? ⟨wx0.heap.size, 1, none⟩ = some (.slice Ax0 T0.length cx0) ∧ we12.drew.cell? ⟨wx0.heap.size, 2, none⟩ = some (.slice Bx0 F0.length dx0) ∧ we12.drew.cell? ⟨w.heap.size, 0, none⟩ = some (.int .i64 p0) ∧ we12.drew.cell? ⟨w.heap.size, 1, none⟩ = some (.slice Aa0 na0 ca0) ∧ we12.drew.cell? ⟨w.heap.size, 2, none⟩ = some (.slice Ba0 ma0 da0) := ⟨cdx00, cdx01, cdx02, cda00, cda01, cda02⟩
  have hdr : Below we12.heap.size we12 we12.drew := below_drawn (Below.refl _ _) ⟨1, rfl⟩
  have HBd := Lib.hid (below_more hBw_13 hdr)
  have HRxd := Lib.hid ((HRx0.out.below hBwx0_13).below hdr)
  have HDR := Lib.hid hdr
  clear hdr
  go_region_held3 (fun w' => w'.cell? ⟨wx0.heap.size, 0, none⟩ = some (.int .i64 p0) ∧ w'.cell? ⟨wx0.heap.size, 1, none⟩ = some (.slice Ax0 T0.length cx0) ∧ w'.cell? ⟨wx0.heap.size, 2, none⟩ = some (.slice Bx0 F0.length dx0) ∧ w'.cell? ⟨w.heap.size, 0, none⟩ = some (.int .i64 p0) ∧ w'.cell? ⟨w.heap.size, 1, none⟩ = some (.slice Aa0 na0 ca0) ∧ w'.cell? ⟨w.heap.size, 2, none⟩ = some (.slice Ba0 ma0 da0)) (first | assumption | exact ZD | exact ZC | exact ZB | exact ZA | go_keep) (first | (go_at_call 25; refine (toRec _ p0 T0 F0 _ (H0.out.below HBd.out) hT0 hF0).mono ?_; rintro e wf0 ⟨_, rfl, ⟨Af0, cf0, Bf0, df0, rfl, hO1, hO2, hO3⟩, hN⟩; have hO : RO wf0 we12.drew.heap.size (.agg #[.int .i64 p0, .slice Af0 T0.length cf0, .slice Bf0 F0.length df0]) p0 T0 F0 := ⟨Af0, cf0, Bf0, df0, rfl, hO1, hO2, hO3⟩; have HRf0 := Lib.hid hO.rv; have HRxe := Lib.hid (HRxd.out.below hN); have cex00 := (keep_of_below hN).cell cdx00 (fun h => h); have cex01 := (keep_of_below hN).cell cdx01 (fun h => h); have cex02 := (keep_of_below hN).cell cdx02 (fun h => h); have cea00 := (keep_of_below hN).cell cda00 (fun h => h); have cea01 := (keep_of_below hN).cell cda01 (fun h => h); have cea02 := (keep_of_below hN).cell cda02 (fun h => h); have ZC := And.intro cex00 (And.intro cex01 (And.intro cex02 (And.intro cea00 (And.intro cea01 cea02)))); have HNf := Lib.hid hN; clear hO hO1 hO2 hO3 hN) | (go_at_call 27; refine (eqRec _ p0 T0 F0 _ p0 T0 F0 _ HRxe.out HRf0.out).mono ?_; rintro e we14 ⟨rfl, hN⟩; rw [decide_eq_true (show p0 = p0 ∧ T0 = T0 ∧ F0 = F0 from ⟨rfl, rfl, rfl⟩)]; have cgx00 := (keep_of_below hN).cell cex00 (fun h => h); have cgx01 := (keep_of_below hN).cell cex01 (fun h => h); have cgx02 := (keep_of_below hN).cell cex02 (fun h => h); have cga00 := (keep_of_below hN).cell cea00 (fun h => h); have cga01 := (keep_of_below hN).cell cea01 (fun h => h); have cga02 := (keep_of_below hN).cell cea02 (fun h => h); have ZD := And.intro cgx00 (And.intro cgx01 (And.intro cgx02 (And.intro cga00 (And.intro cga01 cga02)))); have HNe := Lib.hid hN; clear hN))
  have hN : Below we12.heap.size we12 we14 := below_more (below_more HDR.out HNf.out) HNe.out
  clear ZA ZB ZC ZD HBd HRxd HRxe HDR HNf HNe HRf0
  clear cdx00 cdx01 cdx02 cda00 cda01 cda02 cex00 cex01 cex02 cea00 cea01 cea02 cgx00 cgx01 cgx02 cga00 cga01 cga02
  have hBw_15 := below_more hBw_13 hN
  clear hBw_13
  have hBwb_15 := below_more hBwb_13 hN
  clear hBwb_13
  have hBwx0_15 := below_more hBwx0_13 hN
  clear hBwx0_13
  have hBwd_15 := below_more hBwd_13 hN
  clear hBwd_13
  have hkN := keep_of_below hN
  have bxa00' := hkN.cell bxa00 (fun h => h)
  clear bxa00
  have bxa00 := bxa00'
  clear bxa00'
  have bxa01' := hkN.cell bxa01 (fun h => h)
  clear bxa01
  have bxa01 := bxa01'
  clear bxa01'
  have bxa02' := hkN.cell bxa02 (fun h => h)
  clear bxa02
  have bxa02 := bxa02'
  clear bxa02'
  have lba0' := Nat.lt_of_lt_of_le lba0 hN.size
  clear lba0
  have lba0 := lba0'
  clear lba0'
  have bxx00' := hkN.cell bxx00 (fun h => h)
  clear bxx00
  have bxx00 := bxx00'
  clear bxx00'
  have bxx01' := hkN.cell bxx01 (fun h => h)
  clear bxx01
  have bxx01 := bxx01'
  clear bxx01'
  have bxx02' := hkN.cell bxx02 (fun h => h)
  clear bxx02
  have bxx02 := bxx02'
  clear bxx02'
  have lbx0' := Nat.lt_of_lt_of_le lbx0 hN.size
  clear lbx0
  have lbx0 := lbx0'
  clear lbx0'
  clear hkN
  have hzwe14 := hN.size
  clear hN
  go_wp2_with (fail)
  have hown := HOx0.out.below hBwx0_15
  refine (markRec _ _ p0 T0 F0 (1) _ hown (by omega) (by omega)).mono ?_
  rintro e wm0 ⟨rfl, _, hK0⟩
  have hK := hK0.mono (T := fun g => wb.heap.size ≤ g ∧ g < wx0.heap.size) (fun g _ hg => HLx0.out g hg)
  clear hK0 hown
  have hzzwm0 := hK.size
  have hX := hK.below (B := wb.heap.size) (by have h1 := (hBwb_15).size; omega) (fun k hk => by have h1 := hk.1; omega)
  have hBwb_16 := (hBwb_15).trans hX
  have hBw_16 := (hBw_15).trans (hX.mono (by omega))
  have bxa00' := hK.cell bxa00 (fun h => by have h1 := h.1; have h2 := h.2; simp only at h1 h2; omega)
  clear bxa00
  have bxa00 := bxa00'
  clear bxa00'
  have bxa01' := hK.cell bxa01 (fun h => by have h1 := h.1; have h2 := h.2; simp only at h1 h2; omega)
  clear bxa01
  have bxa01 := bxa01'
  clear bxa01'
  have bxa02' := hK.cell bxa02 (fun h => by have h1 := h.1; have h2 := h.2; simp only at h1 h2; omega)
  clear bxa02
  have bxa02 := bxa02'
  clear bxa02'
  have lba0' := Nat.lt_of_lt_of_le lba0 hK.size
  clear lba0
  have lba0 := lba0'
  clear lba0'
  have bxx00' := hK.cell bxx00 (fun h => by have h1 := h.1; have h2 := h.2; simp only at h1 h2; omega)
  clear bxx00
  have bxx00 := bxx00'
  clear bxx00'
  have bxx01' := hK.cell bxx01 (fun h => by have h1 := h.1; have h2 := h.2; simp only at h1 h2; omega)
  clear bxx01
  have bxx01 := bxx01'
  clear bxx01'
  have bxx02' := hK.cell bxx02 (fun h => by have h1 := h.1; have h2 := h.2; simp only at h1 h2; omega)
  clear bxx02
  have bxx02 := bxx02'
  clear bxx02'
  have lbx0' := Nat.lt_of_lt_of_le lbx0 hK.size
  clear lbx0
  have lbx0 := lbx0'
  clear lbx0'
  have hOg := OIk (OIb HOg.out hBwd_15) hK (fun g hg hs => by have := HLg.out g hg; omega)
  obtain ⟨bg_0, hRa⟩ := hOg.ia
  clear HOg HRg
  have HOg := Lib.hid hOg
  have HRg := Lib.hid hRa
  clear hOg hRa
  clear hK hX
  have hBwd_17 := Below.refl wm0.heap.size wm0
  have hpos : 0 ≤ 1 + (T0.length : Int) + (F0.length : Int) := by omega
  go_wp2_with (fail)
  refine (eqIntS Ag RS.length cg bg_0 0 RS As RS.length cs bs 0 RS _ (HRg.out.below hBwd_17) (HRs.out.below hBwb_16)).mono ?_
  rintro e we18 ⟨rfl, hm⟩
  rw [decide_eq_true (rfl : RS = RS)]
  have hN := below_drawn (Below.refl wm0.heap.size wm0) hm
  clear hm
  have hBw_19 := below_more hBw_16 hN
  clear hBw_16
  have hBwb_19 := below_more hBwb_16 hN
  clear hBwb_16
  have hBwd_19 := below_more hBwd_17 hN
  clear hBwd_17
  have hkN := keep_of_below hN
  have bxa00' := hkN.cell bxa00 (fun h => h)
  clear bxa00
  have bxa00 := bxa00'
  clear bxa00'
  have bxa01' := hkN.cell bxa01 (fun h => h)
  clear bxa01
  have bxa01 := bxa01'
  clear bxa01'
  have bxa02' := hkN.cell bxa02 (fun h => h)
  clear bxa02
  have bxa02 := bxa02'
  clear bxa02'
  have lba0' := Nat.lt_of_lt_of_le lba0 hN.size
  clear lba0
  have lba0 := lba0'
  clear lba0'
  have bxx00' := hkN.cell bxx00 (fun h => h)
  clear bxx00
  have bxx00 := bxx00'
  clear bxx00'
  have bxx01' := hkN.cell bxx01 (fun h => h)
  clear bxx01
  have bxx01 := bxx01'
  clear bxx01'
  have bxx02' := hkN.cell bxx02 (fun h => h)
  clear bxx02
  have bxx02 := bxx02'
  clear bxx02'
  have lbx0' := Nat.lt_of_lt_of_le lbx0 hN.size
  clear lbx0
  have lbx0 := lbx0'
  clear lbx0'
  clear hkN
  have hzwe18 := hN.size
  clear hN
  go_wp2_with (fail)
  refine (markIntS _ Ag RS.length cg RS 1 _ (OIb HOg.out hBwd_19) (by omega) (by omega)).mono ?_
  rintro e wj ⟨rfl, hO, hK0⟩
  have hK := hK0.mono (T := fun g => wqx0.heap.size ≤ g ∧ g < wd.heap.size) (fun g _ hg => HLg.out g hg)
  clear hK0
  have hzzwj := hK.size
  have hX := hK.below (B := wb.heap.size) (by have h1 := (hBwb_19).size; omega) (fun k hk => by have h1 := hk.1; omega)
  have hBwb_20 := (hBwb_19).trans hX
  have hBw_20 := (hBw_19).trans (hX.mono (by omega))
  have bxa00' := hK.cell bxa00 (fun h => by have h1 := h.1; have h2 := h.2; simp only at h1 h2; omega)
  clear bxa00
  have bxa00 := bxa00'
  clear bxa00'
  have bxa01' := hK.cell bxa01 (fun h => by have h1 := h.1; have h2 := h.2; simp only at h1 h2; omega)
  clear bxa01
  have bxa01 := bxa01'
  clear bxa01'
  have bxa02' := hK.cell bxa02 (fun h => by have h1 := h.1; have h2 := h.2; simp only at h1 h2; omega)
  clear bxa02
  have bxa02 := bxa02'
  clear bxa02'
  have lba0' := Nat.lt_of_lt_of_le lba0 hK.size
  clear lba0
  have lba0 := lba0'
  clear lba0'
  have bxx00' := hK.cell bxx00 (fun h => by have h1 := h.1; have h2 := h.2; simp only at h1 h2; omega)
  clear bxx00
  have bxx00 := bxx00'
  clear bxx00'
  have bxx01' := hK.cell bxx01 (fun h => by have h1 := h.1; have h2 := h.2; simp only at h1 h2; omega)
  clear bxx01
  have bxx01 := bxx01'
  clear bxx01'
  have bxx02' := hK.cell bxx02 (fun h => by have h1 := h.1; have h2 := h.2; simp only at h1 h2; omega)
  clear bxx02
  have bxx02 := bxx02'
  clear bxx02'
  have lbx0' := Nat.lt_of_lt_of_le lbx0 hK.size
  clear lbx0
  have lbx0 := lbx0'
  clear lbx0'
  obtain ⟨bj, hRa⟩ := hO.ia
  have HRj := Lib.hid hRa
  clear hRa hO hK hX
  have hBwj_21 := Below.refl wj.heap.size wj
  go_wp2_with (fail)
  refine (heldIntS Ag RS.length cg bj 0 1 _ (HRj.out.below hBwj_21) (by omega) (by omega)).mono ?_
  rintro e w' ⟨rfl, rfl⟩
  have hpq1 : 0 ≤ 1 + (RS.length : Int) := by omega
  have hqg : ((1 + (RS.length : Int)) != (1 + (RS.length : Int))) = false := by simp
  go_wp2_with (fail)
  refine (toRec _ p0 T0 F0 _ (H0.out.below hBw_20) hT0 hF0).mono ?_
  rintro e wy0 ⟨_, rfl, ⟨Ay0, cy0, By0, dy0, rfl, hO1, hO2, hO3⟩, hN⟩
  have hO : RO wy0 wj.heap.size (.agg #[.int .i64 p0, .slice Ay0 T0.length cy0, .slice By0 F0.length dy0]) p0 T0 F0 := ⟨Ay0, cy0, By0, dy0, rfl, hO1, hO2, hO3⟩
  clear hO1 hO2 hO3
  have hBw_22 := below_more hBw_20 hN
  clear hBw_20
  have hBwb_22 := below_more hBwb_20 hN
  clear hBwb_20
  have hBwj_22 := below_more hBwj_21 hN
  clear hBwj_21
  have hkN := keep_of_below hN
  have bxa00' := hkN.cell bxa00 (fun h => h)
  clear bxa00
  have bxa00 := bxa00'
  clear bxa00'
  have bxa01' := hkN.cell bxa01 (fun h => h)
  clear bxa01
  have bxa01 := bxa01'
  clear bxa01'
  have bxa02' := hkN.cell bxa02 (fun h => h)
  clear bxa02
  have bxa02 := bxa02'
  clear bxa02'
  have lba0' := Nat.lt_of_lt_of_le lba0 hN.size
  clear lba0
  have lba0 := lba0'
  clear lba0'
  have bxx00' := hkN.cell bxx00 (fun h => h)
  clear bxx00
  have bxx00 := bxx00'
  clear bxx00'
  have bxx01' := hkN.cell bxx01 (fun h => h)
  clear bxx01
  have bxx01 := bxx01'
  clear bxx01'
  have bxx02' := hkN.cell bxx02 (fun h => h)
  clear bxx02
  have bxx02 := bxx02'
  clear bxx02'
  have lbx0' := Nat.lt_of_lt_of_le lbx0 hN.size
  clear lbx0
  have lbx0 := lbx0'
  clear lbx0'
  clear hkN
  have hzwy0 := hN.size
  clear hN
  have HLy0 := Lib.hid (show ∀ g, recBlk (.agg #[.int .i64 p0, .slice Ay0 T0.length cy0, .slice By0 F0.length dy0]) g → _ from fun g hg => hO.lt g hg)
  have HRy0 := Lib.hid hO.rv
  have HOy0 := Lib.hid hO
  clear hO
  have hBwy0_23 := Below.refl wy0.heap.size wy0
  go_wp2_with (fail)
  refine (implTableDets _ p0 T0 F0 _ (HRy0.out.below hBwy0_23)).mono ?_
  rw [HRV.out]
  rintro e wl ⟨Al, cl, rfl, hO, hN⟩
  have hBw_24 := below_more hBw_22 hN
  clear hBw_22
  have hBwb_24 := below_more hBwb_22 hN
  clear hBwb_22
  have hBwj_24 := below_more hBwj_22 hN
  clear hBwj_22
  have hBwy0_24 := below_more hBwy0_23 hN
  clear hBwy0_23
  have hkN := keep_of_below hN
  have bxa00' := hkN.cell bxa00 (fun h => h)
  clear bxa00
  have bxa00 := bxa00'
  clear bxa00'
  have bxa01' := hkN.cell bxa01 (fun h => h)
  clear bxa01
  have bxa01 := bxa01'
  clear bxa01'
  have bxa02' := hkN.cell bxa02 (fun h => h)
  clear bxa02
  have bxa02 := bxa02'
  clear bxa02'
  have lba0' := Nat.lt_of_lt_of_le lba0 hN.size
  clear lba0
  have lba0 := lba0'
  clear lba0'
  have bxx00' := hkN.cell bxx00 (fun h => h)
  clear bxx00
  have bxx00 := bxx00'
  clear bxx00'
  have bxx01' := hkN.cell bxx01 (fun h => h)
  clear bxx01
  have bxx01 := bxx01'
  clear bxx01'
  have bxx02' := hkN.cell bxx02 (fun h => h)
  clear bxx02
  have bxx02 := bxx02'
  clear bxx02'
  have lbx0' := Nat.lt_of_lt_of_le lbx0 hN.size
  clear lbx0
  have lbx0 := lbx0'
  clear lbx0'
  clear hkN
  have hzwl := hN.size
  clear hN
  have HLl := Lib.hid (show ∀ g, (Value.slice Al RS.length cl).ownBlock = some g → _ from fun g hg => hO.lt g hg)
  obtain ⟨bl, hRa⟩ := hO.ia
  have HRl := Lib.hid hRa
  have HOl := Lib.hid hO
  clear hO hRa
  have hBwl_25 := Below.refl wl.heap.size wl
  go_wp2_with (fail)
  refine (eqIntS Al RS.length cl bl 0 RS As RS.length cs bs 0 RS _ (HRl.out.below hBwl_25) (HRs.out.below hBwb_24)).mono ?_
  rintro e we26 ⟨rfl, hm⟩
  rw [decide_eq_true (rfl : RS = RS)]
  have hN := below_drawn (Below.refl wl.heap.size wl) hm
  clear hm
  have hBw_27 := below_more hBw_24 hN
  clear hBw_24
  have hBwb_27 := below_more hBwb_24 hN
  clear hBwb_24
  have hBwj_27 := below_more hBwj_24 hN
  clear hBwj_24
  have hBwy0_27 := below_more hBwy0_24 hN
  clear hBwy0_24
  have hBwl_27 := below_more hBwl_25 hN
  clear hBwl_25
  have hkN := keep_of_below hN
  have bxa00' := hkN.cell bxa00 (fun h => h)
  clear bxa00
  have bxa00 := bxa00'
  clear bxa00'
  have bxa01' := hkN.cell bxa01 (fun h => h)
  clear bxa01
  have bxa01 := bxa01'
  clear bxa01'
  have bxa02' := hkN.cell bxa02 (fun h => h)
  clear bxa02
  have bxa02 := bxa02'
  clear bxa02'
  have lba0' := Nat.lt_of_lt_of_le lba0 hN.size
  clear lba0
  have lba0 := lba0'
  clear lba0'
  have bxx00' := hkN.cell bxx00 (fun h => h)
  clear bxx00
  have bxx00 := bxx00'
  clear bxx00'
  have bxx01' := hkN.cell bxx01 (fun h => h)
  clear bxx01
  have bxx01 := bxx01'
  clear bxx01'
  have bxx02' := hkN.cell bxx02 (fun h => h)
  clear bxx02
  have bxx02 := bxx02'
  clear bxx02'
  have lbx0' := Nat.lt_of_lt_of_le lbx0 hN.size
  clear lbx0
  have lbx0 := lbx0'
  clear lbx0'
  clear hkN
  have hzwe26 := hN.size
  clear hN
  go_wp2_with (fail)
  refine (heldIntS Ag RS.length cg bj 0 1 _ (HRj.out.below hBwj_27) (by omega) (by omega)).mono ?_
  rintro e w' ⟨rfl, rfl⟩
  have hpq2 : 0 ≤ 1 + (RS.length : Int) := by omega
  go_wp2_with (fail)
  go_ret
  exact ⟨rfl, hBw_27⟩
end Go.Proofs.Ytcjpjcigjljplaa

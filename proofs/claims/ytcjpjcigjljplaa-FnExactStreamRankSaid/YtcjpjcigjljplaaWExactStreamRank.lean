/-
  The walk of the exact law of StreamRank.
-/
import Derived.Deep.RegionHeld3
import Derived.Test.YtcjpjcigjljplaaStR
namespace Go.Proofs.Ytcjpjcigjljplaa
open Go.RowKit
set_option maxRecDepth 100000 in
set_option maxHeartbeats 2000000 in
set_option linter.unusedVariables false in
theorem walkFnExactStreamRank (p0 : Int) (Aa0 : Option Addr) (na0 ca0 : Nat) (Ba0 : Option Addr) (ma0 da0 : Nat) (T0 F0 : List Int) (w : World) (w0 : RV w (.agg #[.int .i64 p0, .slice Aa0 na0 ca0, .slice Ba0 ma0 da0]) p0 T0 F0) :
    Calls Try.prog 5 #[.agg #[.int .i64 p0, .slice Aa0 na0 ca0, .slice Ba0 ma0 da0]] w fun e w' => e = .returned (.bool true) ∧ Below w.heap.size w w' := by
  have H0 := Lib.hid w0
  clear w0
  go_enter Try.func5, Try.ntmps5
  have hBw0 := Below.refl w.heap.size w
  go_wp2_with (fail)
  obtain ⟨wqa0, hQ⟩ : ∃ W, w.alloc (.cells #[.int .i64 p0, .slice Aa0 na0 ca0, .slice Ba0 ma0 da0] 39) = W := ⟨_, rfl⟩
  rw [hQ]
  have hN : Below w.heap.size w wqa0 := by rw [← hQ]; exact (Below.refl _ _).alloc (Nat.le_refl _) _
  obtain ⟨hn0, hn1, hn2⟩ := box3 w (.int .i64 p0) (.slice Aa0 na0 ca0) (.slice Ba0 ma0 da0) 39
  rw [hQ] at hn0 hn1 hn2
  have hnl : w.heap.size < wqa0.heap.size := cell_lt hn0
  have lca0 := hnl
  clear hQ
  have hBw_1 := below_more hBw0 hN
  clear hBw0
  have hzwqa0 := hN.size
  clear hN
  have bxa00 := hn0
  clear hn0
  have bxa01 := hn1
  clear hn1
  have bxa02 := hn2
  clear hn2
  have lba0 := hnl
  clear hnl
  refine (szRec _ p0 T0 F0 1048576 _ (H0.out.below hBw_1) (by decide) (by decide)).mono ?_
  rintro e wz0 ⟨r0, rfl, hr0, hN⟩
  have hBw_2 := below_more hBw_1 hN
  clear hBw_1
  have hkN := keep_of_below hN
  have bxa00' := hkN.cell bxa00 (fun h => h)
  clear bxa00
  have bxa00 := bxa00'
  clear bxa00'
  have bxa01' := hkN.cell bxa01 (fun h => h)
  clear bxa01
  have bxa01 := bxa01'
  clear bxa01'
  have bxa02' := hkN.cell bxa02 (fun h => h)
  clear bxa02
  have bxa02 := bxa02'
  clear bxa02'
  have lba0' := Nat.lt_of_lt_of_le lba0 hN.size
  clear lba0
  have lba0 := lba0'
  clear lba0'
  clear hkN
  have hzwz0 := hN.size
  clear hN
  rcases hr0 with hr0 | ⟨hr00, hrx0, hTn0, hFn0⟩
  · go_wp2_with (fail)
    go_ret
    exact ⟨rfl, hBw_2⟩
  have hT0 : T0.length ≤ 1048576 := by omega
  have hF0 : F0.length ≤ 1048576 := by omega
  obtain ⟨RV0, hRV⟩ : ∃ RV, streamRankR p0 T0 F0 = RV := ⟨_, rfl⟩
  have hbd := streamRank_bd p0 T0 F0
  rw [hRV] at hbd
  have hqb : (RV0 != RV0) = false := by simp
  have HRV := Lib.hid hRV
  clear hRV
  go_wp2_with (fail)
  refine (toRec _ p0 T0 F0 _ (H0.out.below hBw_2) hT0 hF0).mono ?_
  rintro e ws0 ⟨_, rfl, ⟨As0, cs0, Bs0, ds0, rfl, hO1, hO2, hO3⟩, hN⟩
  have hO : RO ws0 wz0.heap.size (.agg #[.int .i64 p0, .slice As0 T0.length cs0, .slice Bs0 F0.length ds0]) p0 T0 F0 := ⟨As0, cs0, Bs0, ds0, rfl, hO1, hO2, hO3⟩
  clear hO1 hO2 hO3
  have hBw_3 := below_more hBw_2 hN
  clear hBw_2
  have hkN := keep_of_below hN
  have bxa00' := hkN.cell bxa00 (fun h => h)
  clear bxa00
  have bxa00 := bxa00'
  clear bxa00'
  have bxa01' := hkN.cell bxa01 (fun h => h)
  clear bxa01
  have bxa01 := bxa01'
  clear bxa01'
  have bxa02' := hkN.cell bxa02 (fun h => h)
  clear bxa02
  have bxa02 := bxa02'
  clear bxa02'
  have lba0' := Nat.lt_of_lt_of_le lba0 hN.size
  clear lba0
  have lba0 := lba0'
  clear lba0'
  clear hkN
  have hzws0 := hN.size
  clear hN
  have HLs0 := Lib.hid (show ∀ g, recBlk (.agg #[.int .i64 p0, .slice As0 T0.length cs0, .slice Bs0 F0.length ds0]) g → _ from fun g hg => hO.lt g hg)
  have HRs0 := Lib.hid hO.rv
  have HOs0 := Lib.hid hO
  clear hO
  have hBws0_4 := Below.refl ws0.heap.size ws0
  go_wp2_with (fail)
  refine (specStreamRank _ p0 T0 F0 _ (HRs0.out.below hBws0_4)).mono ?_
  rw [HRV.out]
  rintro e wb ⟨rfl, hN⟩
  have hBw_5 := below_more hBw_3 hN
  clear hBw_3
  have hBws0_5 := below_more hBws0_4 hN
  clear hBws0_4
  have hkN := keep_of_below hN
  have bxa00' := hkN.cell bxa00 (fun h => h)
  clear bxa00
  have bxa00 := bxa00'
  clear bxa00'
  have bxa01' := hkN.cell bxa01 (fun h => h)
  clear bxa01
  have bxa01 := bxa01'
  clear bxa01'
  have bxa02' := hkN.cell bxa02 (fun h => h)
  clear bxa02
  have bxa02 := bxa02'
  clear bxa02'
  have lba0' := Nat.lt_of_lt_of_le lba0 hN.size
  clear lba0
  have lba0 := lba0'
  clear lba0'
  clear hkN
  have hzwb := hN.size
  clear hN
  go_wp2_with (fail)
  refine (toRec _ p0 T0 F0 _ (H0.out.below hBw_5) hT0 hF0).mono ?_
  rintro e wx0 ⟨_, rfl, ⟨Ax0, cx0, Bx0, dx0, rfl, hO1, hO2, hO3⟩, hN⟩
  have hO : RO wx0 wb.heap.size (.agg #[.int .i64 p0, .slice Ax0 T0.length cx0, .slice Bx0 F0.length dx0]) p0 T0 F0 := ⟨Ax0, cx0, Bx0, dx0, rfl, hO1, hO2, hO3⟩
  clear hO1 hO2 hO3
  have hBw_6 := below_more hBw_5 hN
  clear hBw_5
  have hkN := keep_of_below hN
  have bxa00' := hkN.cell bxa00 (fun h => h)
  clear bxa00
  have bxa00 := bxa00'
  clear bxa00'
  have bxa01' := hkN.cell bxa01 (fun h => h)
  clear bxa01
  have bxa01 := bxa01'
  clear bxa01'
  have bxa02' := hkN.cell bxa02 (fun h => h)
  clear bxa02
  have bxa02 := bxa02'
  clear bxa02'
  have lba0' := Nat.lt_of_lt_of_le lba0 hN.size
  clear lba0
  have lba0 := lba0'
  clear lba0'
  clear hkN
  have hzwx0 := hN.size
  clear hN
  have HLx0 := Lib.hid (show ∀ g, recBlk (.agg #[.int .i64 p0, .slice Ax0 T0.length cx0, .slice Bx0 F0.length dx0]) g → _ from fun g hg => hO.lt g hg)
  have HRx0 := Lib.hid hO.rv
  have HOx0 := Lib.hid hO
  clear hO
  have hBwx0_7 := Below.refl wx0.heap.size wx0
  go_wp2_with (fail)
  obtain ⟨wqx0, hQ⟩ : ∃ W, wx0.alloc (.cells #[.int .i64 p0, .slice Ax0 T0.length cx0, .slice Bx0 F0.length dx0] 42) = W := ⟨_, rfl⟩
  rw [hQ]
  have hN : Below wx0.heap.size wx0 wqx0 := by rw [← hQ]; exact (Below.refl _ _).alloc (Nat.le_refl _) _
  obtain ⟨hn0, hn1, hn2⟩ := box3 wx0 (.int .i64 p0) (.slice Ax0 T0.length cx0) (.slice Bx0 F0.length dx0) 42
  rw [hQ] at hn0 hn1 hn2
  have hnl : wx0.heap.size < wqx0.heap.size := cell_lt hn0
  have lcx0 := hnl
  clear hQ
  have hBw_8 := below_more hBw_6 hN
  clear hBw_6
  have hBwx0_8 := below_more hBwx0_7 hN
  clear hBwx0_7
  have hkN := keep_of_below hN
  have bxa00' := hkN.cell bxa00 (fun h => h)
  clear bxa00
  have bxa00 := bxa00'
  clear bxa00'
  have bxa01' := hkN.cell bxa01 (fun h => h)
  clear bxa01
  have bxa01 := bxa01'
  clear bxa01'
  have bxa02' := hkN.cell bxa02 (fun h => h)
  clear bxa02
  have bxa02 := bxa02'
  clear bxa02'
  have lba0' := Nat.lt_of_lt_of_le lba0 hN.size
  clear lba0
  have lba0 := lba0'
  clear lba0'
  clear hkN
  have hzwqx0 := hN.size
  clear hN
  have bxx00 := hn0
  clear hn0
  have bxx01 := hn1
  clear hn1
  have bxx02 := hn2
  clear hn2
  have lbx0 := hnl
  clear hnl
  refine (implStreamRank _ p0 T0 F0 _ (HRx0.out.below hBwx0_8)).mono ?_
  rw [HRV.out]
  rintro e wd ⟨rfl, hN⟩
  have hBw_9 := below_more hBw_8 hN
  clear hBw_8
  have hBwx0_9 := below_more hBwx0_8 hN
  clear hBwx0_8
  have hkN := keep_of_below hN
  have bxa00' := hkN.cell bxa00 (fun h => h)
  clear bxa00
  have bxa00 := bxa00'
  clear bxa00'
  have bxa01' := hkN.cell bxa01 (fun h => h)
  clear bxa01
  have bxa01 := bxa01'
  clear bxa01'
  have bxa02' := hkN.cell bxa02 (fun h => h)
  clear bxa02
  have bxa02 := bxa02'
  clear bxa02'
  have lba0' := Nat.lt_of_lt_of_le lba0 hN.size
  clear lba0
  have lba0 := lba0'
  clear lba0'
  have bxx00' := hkN.cell bxx00 (fun h => h)
  clear bxx00
  have bxx00 := bxx00'
  clear bxx00'
  have bxx01' := hkN.cell bxx01 (fun h => h)
  clear bxx01
  have bxx01 := bxx01'
  clear bxx01'
  have bxx02' := hkN.cell bxx02 (fun h => h)
  clear bxx02
  have bxx02 := bxx02'
  clear bxx02'
  have lbx0' := Nat.lt_of_lt_of_le lbx0 hN.size
  clear lbx0
  have lbx0 := lbx0'
  clear lbx0'
  clear hkN
  have hzwd := hN.size
  clear hN
  go_wp2_with (fail)
  have cdx00 : wd.drew.cell? ⟨wx0.heap.size, 0, none⟩ = some (.int .i64 p0) := bxx00
  have cdx01 : wd.drew.cell? ⟨wx0.heap.size, 1, none⟩ = some (.slice Ax0 T0.length cx0) := bxx01
  have cdx02 : wd.drew.cell? ⟨wx0.heap.size, 2, none⟩ = some (.slice Bx0 F0.length dx0) := bxx02
  have cda00 : wd.drew.cell? ⟨w.heap.size, 0, none⟩ = some (.int .i64 p0) := bxa00
  have cda01 : wd.drew.cell? ⟨w.heap.size, 1, none⟩ = some (.slice Aa0 na0 ca0) := bxa01
  have cda02 : wd.drew.cell? ⟨w.heap.size, 2, none⟩ = some (.slice Ba0 ma0 da0) := bxa02
  have ZA : wd.cell? ⟨wx0.heap.size, 0, none⟩ = some (.int .i64 p0) ∧ wd.cell? ⟨wx0.heap.size, 1, none⟩ = some (.slice Ax0 T0.length cx0) ∧ wd.cell? ⟨wx0.heap.size, 2, none⟩ = some (.slice Bx0 F0.length dx0) ∧ wd.cell? ⟨w.heap.size, 0, none⟩ = some (.int .i64 p0) ∧ wd.cell? ⟨w.heap.size, 1, none⟩ = some (.slice Aa0 na0 ca0) ∧ wd.cell? ⟨w.heap.size, 2, none⟩ = some (.slice Ba0 ma0 da0) := ⟨bxx00, bxx01, bxx02, bxa00, bxa01, bxa02⟩
  have ZB : wd.drew.cell? ⟨wx0.heap.size, 0, none⟩ = some (.int .i64 p0) ∧ wd.drew.cell? ⟨wx0.heap.size, 1, none⟩ = some (.slice Ax0 T0.length cx0) ∧ wd.drew.cell? ⟨wx0.heap.size, 2, none⟩ = some (.slice Bx0 F0.length dx0) ∧ wd.drew.cell? ⟨w.heap.size, 0, none⟩ = some (.int .i64 p0) ∧ wd.drew.cell? ⟨w.heap.size, 1, none⟩ = some (.slice Aa0 na0 ca0) ∧ wd.drew.cell? ⟨w.heap.size, 2, none⟩ = some (.slice Ba0 ma0 da0) := ⟨cdx00, cdx01, cdx02, cda00, cda01, cda02⟩
  have hdr : Below wd.heap.size wd wd.drew := below_drawn (Below.refl _ _) ⟨1, rfl⟩
  have HBd := Lib.hid (below_more hBw_9 hdr)
  have HRxd := Lib.hid ((HRx0.out.below hBwx0_9).below hdr)
  have HDR := Lib.hid hdr
  clear hdr
  go_region_held3 (fun w' => w'.cell? ⟨wx0.heap.size, 0, none⟩ = some (.int .i64 p0) ∧ w'.cell? ⟨wx0.heap.size, 1, none⟩ = some (.slice Ax0 T0.length cx0) ∧ w'.cell? ⟨wx0.heap.size, 2, none⟩ = some (.slice Bx0 F0.length dx0) ∧ w'.cell? ⟨w.heap.size, 0, none⟩ = some (.int .i64 p0) ∧ w'.cell? ⟨w.heap.size, 1, none⟩ = some (.slice Aa0 na0 ca0) ∧ w'.cell? ⟨w.heap.size, 2, none⟩ = some (.slice Ba0 ma0 da0)) (first | assumption | exact ZD | exact ZC | exact ZB | exact ZA | go_keep) (first | (go_at_call 25; refine (toRec _ p0 T0 F0 _ (H0.out.below HBd.out) hT0 hF0).mono ?_; rintro e wf0 ⟨_, rfl, ⟨Af0, cf0, Bf0, df0, rfl, hO1, hO2, hO3⟩, hN⟩; have hO : RO wf0 wd.drew.heap.size (.agg #[.int .i64 p0, .slice Af0 T0.length cf0, .slice Bf0 F0.length df0]) p0 T0 F0 := ⟨Af0, cf0, Bf0, df0, rfl, hO1, hO2, hO3⟩; have HRf0 := Lib.hid hO.rv; have HRxe := Lib.hid (HRxd.out.below hN); have cex00 := (keep_of_below hN).cell cdx00 (fun h => h); have cex01 := (keep_of_below hN).cell cdx01 (fun h => h); have cex02 := (keep_of_below hN).cell cdx02 (fun h => h); have cea00 := (keep_of_below hN).cell cda00 (fun h => h); have cea01 := (keep_of_below hN).cell cda01 (fun h => h); have cea02 := (keep_of_below hN).cell cda02 (fun h => h); have ZC := And.intro cex00 (And.intro cex01 (And.intro cex02 (And.intro cea00 (And.intro cea01 cea02)))); have HNf := Lib.hid hN; clear hO hO1 hO2 hO3 hN) | (go_at_call 27; refine (eqRec _ p0 T0 F0 _ p0 T0 F0 _ HRxe.out HRf0.out).mono ?_; rintro e we10 ⟨rfl, hN⟩; rw [decide_eq_true (show p0 = p0 ∧ T0 = T0 ∧ F0 = F0 from ⟨rfl, rfl, rfl⟩)]; have cgx00 := (keep_of_below hN).cell cex00 (fun h => h); have cgx01 := (keep_of_below hN).cell cex01 (fun h => h); have cgx02 := (keep_of_below hN).cell cex02 (fun h => h); have cga00 := (keep_of_below hN).cell cea00 (fun h => h); have cga01 := (keep_of_below hN).cell cea01 (fun h => h); have cga02 := (keep_of_below hN).cell cea02 (fun h => h); have ZD := And.intro cgx00 (And.intro cgx01 (And.intro cgx02 (And.intro cga00 (And.intro cga01 cga02)))); have HNe := Lib.hid hN; clear hN))
  have hN : Below wd.heap.size wd we10 := below_more (below_more HDR.out HNf.out) HNe.out
  clear ZA ZB ZC ZD HBd HRxd HRxe HDR HNf HNe HRf0
  clear cdx00 cdx01 cdx02 cda00 cda01 cda02 cex00 cex01 cex02 cea00 cea01 cea02 cgx00 cgx01 cgx02 cga00 cga01 cga02
  have hBw_11 := below_more hBw_9 hN
  clear hBw_9
  have hBwx0_11 := below_more hBwx0_9 hN
  clear hBwx0_9
  have hkN := keep_of_below hN
  have bxa00' := hkN.cell bxa00 (fun h => h)
  clear bxa00
  have bxa00 := bxa00'
  clear bxa00'
  have bxa01' := hkN.cell bxa01 (fun h => h)
  clear bxa01
  have bxa01 := bxa01'
  clear bxa01'
  have bxa02' := hkN.cell bxa02 (fun h => h)
  clear bxa02
  have bxa02 := bxa02'
  clear bxa02'
  have lba0' := Nat.lt_of_lt_of_le lba0 hN.size
  clear lba0
  have lba0 := lba0'
  clear lba0'
  have bxx00' := hkN.cell bxx00 (fun h => h)
  clear bxx00
  have bxx00 := bxx00'
  clear bxx00'
  have bxx01' := hkN.cell bxx01 (fun h => h)
  clear bxx01
  have bxx01 := bxx01'
  clear bxx01'
  have bxx02' := hkN.cell bxx02 (fun h => h)
  clear bxx02
  have bxx02 := bxx02'
  clear bxx02'
  have lbx0' := Nat.lt_of_lt_of_le lbx0 hN.size
  clear lbx0
  have lbx0 := lbx0'
  clear lbx0'
  clear hkN
  have hzwe10 := hN.size
  clear hN
  go_wp2_with (fail)
  go_ret
  exact ⟨rfl, hBw_11⟩
end Go.Proofs.Ytcjpjcigjljplaa

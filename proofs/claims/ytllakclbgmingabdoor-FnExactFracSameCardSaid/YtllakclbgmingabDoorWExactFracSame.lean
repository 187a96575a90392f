/-
  The walk of the exact law of FracSame.
-/
import Derived.Deep.RegionHeld3
import Derived.Test.YtllakclbgmingabDoorFrSs
import Derived.Test.YtllakclbgmingabDoorFc
import Derived.Test.YtllakclbgmingabDoorEx
namespace Go.Proofs.YtllakclbgmingabDoor
open Go.RowKit
set_option maxRecDepth 100000 in
set_option maxHeartbeats 32000000 in
set_option linter.unusedVariables false in
theorem walkFnExactFracSame (p0 : Int) (Aa0 : Option Addr) (na0 ca0 : Nat) (Ba0 : Option Addr) (ma0 da0 : Nat) (T0 F0 : List Int) (p1 : Int) (Aa1 : Option Addr) (na1 ca1 : Nat) (Ba1 : Option Addr) (ma1 da1 : Nat) (T1 F1 : List Int) (w : World) (w0 : RV w (.agg #[.int .i64 p0, .slice Aa0 na0 ca0, .slice Ba0 ma0 da0]) p0 T0 F0) (w1 : RV w (.agg #[.int .i64 p1, .slice Aa1 na1 ca1, .slice Ba1 ma1 da1]) p1 T1 F1) (ge : Addr) (hge : GE w ge) :
    Calls Tryd.prog 6 #[.agg #[.int .i64 p0, .slice Aa0 na0 ca0, .slice Ba0 ma0 da0], .agg #[.int .i64 p1, .slice Aa1 na1 ca1, .slice Ba1 ma1 da1]] w fun e w' => e = .returned (.bool true) ∧ Below w.heap.size w w' := by
  have H0 := Lib.hid w0
  have H1 := Lib.hid w1
  have HGE := Lib.hid hge
  clear hge
  clear w0 w1
  go_enter Tryd.func6, Tryd.ntmps6
  have hBw0 := Below.refl w.heap.size w
  go_wp2_with (fail)
  obtain ⟨wqa0, hQ⟩ : ∃ W, w.alloc (.cells #[.int .i64 p0, .slice Aa0 na0 ca0, .slice Ba0 ma0 da0] 34) = W := ⟨_, rfl⟩
  rw [hQ]
  have hN : Below w.heap.size w wqa0 := by rw [← hQ]; exact (Below.refl _ _).alloc (Nat.le_refl _) _
  obtain ⟨hn0, hn1, hn2⟩ := box3 w (.int .i64 p0) (.slice Aa0 na0 ca0) (.slice Ba0 ma0 da0) 34
  rw [hQ] at hn0 hn1 hn2
  have hse' : wqa0.heap.size = w.heap.size + 1 := by rw [← hQ]; simp
  have hnl : w.heap.size < wqa0.heap.size := cell_lt hn0
  have lca0 := hnl
  clear hQ
  have hse := hse'
  clear hse'
  have hBw_1 := below_more hBw0 hN
  clear hBw0
  have hzwqa0 := hN.size
  clear hN
  have bxa00 := hn0
  clear hn0
  have bxa01 := hn1
  clear hn1
  have bxa02 := hn2
  clear hn2
  have lba0 := hnl
  clear hnl
  obtain ⟨wqa1, hQ⟩ : ∃ W, wqa0.alloc (.cells #[.int .i64 p1, .slice Aa1 na1 ca1, .slice Ba1 ma1 da1] 34) = W := ⟨_, rfl⟩
  rw [hQ]
  have hN : Below wqa0.heap.size wqa0 wqa1 := by rw [← hQ]; exact (Below.refl _ _).alloc (Nat.le_refl _) _
  obtain ⟨hn0, hn1, hn2⟩ := box3 wqa0 (.int .i64 p1) (.slice Aa1 na1 ca1) (.slice Ba1 ma1 da1) 34
  rw [hQ] at hn0 hn1 hn2
  have hnl : wqa0.heap.size < wqa1.heap.size := cell_lt hn0
  rw [hse] at hn0 hn1 hn2 hnl
  clear hse
  have lca1 := hnl
  clear hQ
  have hBw_2 := below_more hBw_1 hN
  clear hBw_1
  have hkN := keep_of_below hN
  have bxa00' := hkN.cell bxa00 (fun h => h)
  clear bxa00
  have bxa00 := bxa00'
  clear bxa00'
  have bxa01' := hkN.cell bxa01 (fun h => h)
  clear bxa01
  have bxa01 := bxa01'
  clear bxa01'
  have bxa02' := hkN.cell bxa02 (fun h => h)
  clear bxa02
  have bxa02 := bxa02'
  clear bxa02'
  have lba0' := Nat.lt_of_lt_of_le lba0 hN.size
  clear lba0
  have lba0 := lba0'
  clear lba0'
  clear hkN
  have hzwqa1 := hN.size
  clear hN
  have bxa10 := hn0
  clear hn0
  have bxa11 := hn1
  clear hn1
  have bxa12 := hn2
  clear hn2
  have lba1 := hnl
  clear hnl
  refine (szFrac _ p0 T0 F0 1048576 _ (H0.out.below hBw_2) (by decide) (by decide)).mono ?_
  rintro e wz0 ⟨r0, rfl, hr0, hN⟩
  have hBw_3 := below_more hBw_2 hN
  clear hBw_2
  have hkN := keep_of_below hN
  have bxa00' := hkN.cell bxa00 (fun h => h)
  clear bxa00
  have bxa00 := bxa00'
  clear bxa00'
  have bxa01' := hkN.cell bxa01 (fun h => h)
  clear bxa01
  have bxa01 := bxa01'
  clear bxa01'
  have bxa02' := hkN.cell bxa02 (fun h => h)
  clear bxa02
  have bxa02 := bxa02'
  clear bxa02'
  have lba0' := Nat.lt_of_lt_of_le lba0 hN.size
  clear lba0
  have lba0 := lba0'
  clear lba0'
  have bxa10' := hkN.cell bxa10 (fun h => h)
  clear bxa10
  have bxa10 := bxa10'
  clear bxa10'
  have bxa11' := hkN.cell bxa11 (fun h => h)
  clear bxa11
  have bxa11 := bxa11'
  clear bxa11'
  have bxa12' := hkN.cell bxa12 (fun h => h)
  clear bxa12
  have bxa12 := bxa12'
  clear bxa12'
  have lba1' := Nat.lt_of_lt_of_le lba1 hN.size
  clear lba1
  have lba1 := lba1'
  clear lba1'
  clear hkN
  have hzwz0 := hN.size
  clear hN
  rcases hr0 with hr0 | ⟨hr00, hrx0, hTn0, hFn0⟩
  · go_wp2_with (fail)
    go_ret
    exact ⟨rfl, hBw_3⟩
  have hT0 : T0.length ≤ 1048576 := by omega
  have hF0 : F0.length ≤ 1048576 := by omega
  go_wp2_with (fail)
  refine (szFrac _ p1 T1 F1 r0 _ (H1.out.below hBw_3) (by omega) (by omega)).mono ?_
  rintro e wz1 ⟨r1, rfl, hr1, hN⟩
  have hBw_4 := below_more hBw_3 hN
  clear hBw_3
  have hkN := keep_of_below hN
  have bxa00' := hkN.cell bxa00 (fun h => h)
  clear bxa00
  have bxa00 := bxa00'
  clear bxa00'
  have bxa01' := hkN.cell bxa01 (fun h => h)
  clear bxa01
  have bxa01 := bxa01'
  clear bxa01'
  have bxa02' := hkN.cell bxa02 (fun h => h)
  clear bxa02
  have bxa02 := bxa02'
  clear bxa02'
  have lba0' := Nat.lt_of_lt_of_le lba0 hN.size
  clear lba0
  have lba0 := lba0'
  clear lba0'
  have bxa10' := hkN.cell bxa10 (fun h => h)
  clear bxa10
  have bxa10 := bxa10'
  clear bxa10'
  have bxa11' := hkN.cell bxa11 (fun h => h)
  clear bxa11
  have bxa11 := bxa11'
  clear bxa11'
  have bxa12' := hkN.cell bxa12 (fun h => h)
  clear bxa12
  have bxa12 := bxa12'
  clear bxa12'
  have lba1' := Nat.lt_of_lt_of_le lba1 hN.size
  clear lba1
  have lba1 := lba1'
  clear lba1'
  clear hkN
  have hzwz1 := hN.size
  clear hN
  rcases hr1 with hr1 | ⟨hr01, hrx1, hTn1, hFn1⟩
  · go_wp2_with (fail)
    go_ret
    exact ⟨rfl, hBw_4⟩
  have hT1 : T1.length ≤ 1048576 := by omega
  have hF1 : F1.length ≤ 1048576 := by omega
  obtain ⟨RV0, hRV⟩ : ∃ RV, fracSameR p0 T0 F0 p1 T1 F1 = RV := ⟨_, rfl⟩
  have hqb : (RV0 != RV0) = false := by cases RV0 <;> rfl
  have HRV := Lib.hid hRV
  clear hRV
  go_wp2_with (fail)
  have cda00 : wz1.drew.cell? ⟨w.heap.size, 0, none⟩ = some (.int .i64 p0) := bxa00
  have cda01 : wz1.drew.cell? ⟨w.heap.size, 1, none⟩ = some (.slice Aa0 na0 ca0) := bxa01
  have cda02 : wz1.drew.cell? ⟨w.heap.size, 2, none⟩ = some (.slice Ba0 ma0 da0) := bxa02
  have cda10 : wz1.drew.cell? ⟨w.heap.size + 1, 0, none⟩ = some (.int .i64 p1) := bxa10
  have cda11 : wz1.drew.cell? ⟨w.heap.size + 1, 1, none⟩ = some (.slice Aa1 na1 ca1) := bxa11
  have cda12 : wz1.drew.cell? ⟨w.heap.size + 1, 2, none⟩ = some (.slice Ba1 ma1 da1) := bxa12
  have ZA : wz1.cell? ⟨w.heap.size, 0, none⟩ = some (.int .i64 p0) ∧ wz1.cell? ⟨w.heap.size, 1, none⟩ = some (.slice Aa0 na0 ca0) ∧ wz1.cell? ⟨w.heap.size, 2, none⟩ = some (.slice Ba0 ma0 da0) ∧ wz1.cell? ⟨w.heap.size + 1, 0, none⟩ = some (.int .i64 p1) ∧ wz1.cell? ⟨w.heap.size + 1, 1, none⟩ = some (.slice Aa1 na1 ca1) ∧ wz1.cell? ⟨w.heap.size + 1, 2, none⟩ = some (.slice Ba1 ma1 da1) := ⟨bxa00, bxa01, bxa02, bxa10, bxa11, bxa12⟩
  have ZB : wz1.drew.cell? ⟨w.heap.size, 0, none⟩ = some (.int .i64 p0) ∧ wz1.drew.cell? ⟨w.heap.size, 1, none⟩ = some (.slice Aa0 na0 ca0) ∧ wz1.drew.cell? ⟨w.heap.size, 2, none⟩ = some (.slice Ba0 ma0 da0) ∧ wz1.drew.cell? ⟨w.heap.size + 1, 0, none⟩ = some (.int .i64 p1) ∧ wz1.drew.cell? ⟨w.heap.size + 1, 1, none⟩ = some (.slice Aa1 na1 ca1) ∧ wz1.drew.cell? ⟨w.heap.size + 1, 2, none⟩ = some (.slice Ba1 ma1 da1) := ⟨cda00, cda01, cda02, cda10, cda11, cda12⟩
  have hdr : Below wz1.heap.size wz1 wz1.drew := below_drawn (Below.refl _ _) ⟨1, rfl⟩
  have HAd0 := Lib.hid ((H0.out.below hBw_4).below hdr)
  have HAd1 := Lib.hid ((H1.out.below hBw_4).below hdr)
  have HDR := Lib.hid hdr
  clear hdr
  have Q1 : True := trivial
  have Q2 : True := trivial
  go_region_held3 (fun w' => w'.cell? ⟨w.heap.size, 0, none⟩ = some (.int .i64 p0) ∧ w'.cell? ⟨w.heap.size, 1, none⟩ = some (.slice Aa0 na0 ca0) ∧ w'.cell? ⟨w.heap.size, 2, none⟩ = some (.slice Ba0 ma0 da0) ∧ w'.cell? ⟨w.heap.size + 1, 0, none⟩ = some (.int .i64 p1) ∧ w'.cell? ⟨w.heap.size + 1, 1, none⟩ = some (.slice Aa1 na1 ca1) ∧ w'.cell? ⟨w.heap.size + 1, 2, none⟩ = some (.slice Ba1 ma1 da1)) (first | assumption | exact ZE | exact ZD | exact ZC | exact ZB | exact ZA | go_keep) (first | (clear Q1; go_at_call 19; (with_reducible refine (toFrac _ p0 T0 F0 _ HAd0.out hT0 hF0).mono ?_); rintro e wpwb ⟨u0, rfl, hO, hN⟩; have HRu0 := Lib.hid hO.rv; have HAe1 := Lib.hid (HAd1.out.below hN); have cea00 := (keep_of_below hN).cell cda00 (fun h => h); have cea01 := (keep_of_below hN).cell cda01 (fun h => h); have cea02 := (keep_of_below hN).cell cda02 (fun h => h); have cea10 := (keep_of_below hN).cell cda10 (fun h => h); have cea11 := (keep_of_below hN).cell cda11 (fun h => h); have cea12 := (keep_of_below hN).cell cda12 (fun h => h); have ZC := And.intro cea00 (And.intro cea01 (And.intro cea02 (And.intro cea10 (And.intro cea11 cea12)))); have HNa := Lib.hid hN; clear hO hN) | (clear Q2; go_at_call 19; (with_reducible refine (toFrac _ p1 T1 F1 _ HAe1.out hT1 hF1).mono ?_); rintro e wqwb ⟨u1, rfl, hO, hN⟩; have HRu1 := Lib.hid hO.rv; have HRu0 := Lib.hid (HRu0.out.below hN); have cga00 := (keep_of_below hN).cell cea00 (fun h => h); have cga01 := (keep_of_below hN).cell cea01 (fun h => h); have cga02 := (keep_of_below hN).cell cea02 (fun h => h); have cga10 := (keep_of_below hN).cell cea10 (fun h => h); have cga11 := (keep_of_below hN).cell cea11 (fun h => h); have cga12 := (keep_of_below hN).cell cea12 (fun h => h); have ZD := And.intro cga00 (And.intro cga01 (And.intro cga02 (And.intro cga10 (And.intro cga11 cga12)))); have HNb := Lib.hid hN; clear hO hN) | (go_at_call 24; refine (specFracSame _ p0 T0 F0 _ p1 T1 F1 _ HRu0.out HRu1.out).mono ?_; rw [HRV.out]; rintro e wb ⟨rfl, hN⟩; have cha00 := (keep_of_below hN).cell cga00 (fun h => h); have cha01 := (keep_of_below hN).cell cga01 (fun h => h); have cha02 := (keep_of_below hN).cell cga02 (fun h => h); have cha10 := (keep_of_below hN).cell cga10 (fun h => h); have cha11 := (keep_of_below hN).cell cga11 (fun h => h); have cha12 := (keep_of_below hN).cell cga12 (fun h => h); have ZE := And.intro cha00 (And.intro cha01 (And.intro cha02 (And.intro cha10 (And.intro cha11 cha12)))); have HNc := Lib.hid hN; clear hN))
  have hN : Below wz1.heap.size wz1 wb := below_more (below_more (below_more HDR.out HNa.out) HNb.out) HNc.out
  clear ZA ZB ZC ZD ZE HAd0 HAd1 HAe1 HRu1 HRu0 HDR HNa HNb HNc
  clear cda00 cda01 cda02 cda10 cda11 cda12 cea00 cea01 cea02 cea10 cea11 cea12 cga00 cga01 cga02 cga10 cga11 cga12 cha00 cha01 cha02 cha10 cha11 cha12
  have hBw_5 := below_more hBw_4 hN
  clear hBw_4
  have hkN := keep_of_below hN
  have bxa00' := hkN.cell bxa00 (fun h => h)
  clear bxa00
  have bxa00 := bxa00'
  clear bxa00'
  have bxa01' := hkN.cell bxa01 (fun h => h)
  clear bxa01
  have bxa01 := bxa01'
  clear bxa01'
  have bxa02' := hkN.cell bxa02 (fun h => h)
  clear bxa02
  have bxa02 := bxa02'
  clear bxa02'
  have lba0' := Nat.lt_of_lt_of_le lba0 hN.size
  clear lba0
  have lba0 := lba0'
  clear lba0'
  have bxa10' := hkN.cell bxa10 (fun h => h)
  clear bxa10
  have bxa10 := bxa10'
  clear bxa10'
  have bxa11' := hkN.cell bxa11 (fun h => h)
  clear bxa11
  have bxa11 := bxa11'
  clear bxa11'
  have bxa12' := hkN.cell bxa12 (fun h => h)
  clear bxa12
  have bxa12 := bxa12'
  clear bxa12'
  have lba1' := Nat.lt_of_lt_of_le lba1 hN.size
  clear lba1
  have lba1 := lba1'
  clear lba1'
  clear hkN
  have hzwb := hN.size
  clear hN
  have hBwb_6 := Below.refl wb.heap.size wb
  go_wp2_with (fail)
  refine (toFrac _ p0 T0 F0 _ (H0.out.below hBw_5) hT0 hF0).mono ?_
  rintro e wx0 ⟨_, rfl, ⟨Ax0, cx0, Bx0, dx0, rfl, hO1, hO2, hO3⟩, hN⟩
  have hO : RO wx0 wb.heap.size (.agg #[.int .i64 p0, .slice Ax0 T0.length cx0, .slice Bx0 F0.length dx0]) p0 T0 F0 := ⟨Ax0, cx0, Bx0, dx0, rfl, hO1, hO2, hO3⟩
  clear hO1 hO2 hO3
  have hBw_7 := below_more hBw_5 hN
  clear hBw_5
  have hBwb_7 := below_more hBwb_6 hN
  clear hBwb_6
  have hkN := keep_of_below hN
  have bxa00' := hkN.cell bxa00 (fun h => h)
  clear bxa00
  have bxa00 := bxa00'
  clear bxa00'
  have bxa01' := hkN.cell bxa01 (fun h => h)
  clear bxa01
  have bxa01 := bxa01'
  clear bxa01'
  have bxa02' := hkN.cell bxa02 (fun h => h)
  clear bxa02
  have bxa02 := bxa02'
  clear bxa02'
  have lba0' := Nat.lt_of_lt_of_le lba0 hN.size
  clear lba0
  have lba0 := lba0'
  clear lba0'
  have bxa10' := hkN.cell bxa10 (fun h => h)
  clear bxa10
  have bxa10 := bxa10'
  clear bxa10'
  have bxa11' := hkN.cell bxa11 (fun h => h)
  clear bxa11
  have bxa11 := bxa11'
  clear bxa11'
  have bxa12' := hkN.cell bxa12 (fun h => h)
  clear bxa12
  have bxa12 := bxa12'
  clear bxa12'
  have lba1' := Nat.lt_of_lt_of_le lba1 hN.size
  clear lba1
  have lba1 := lba1'
  clear lba1'
  clear hkN
  have hzwx0 := hN.size
  clear hN
  have HLx0 := Lib.hid (show ∀ g, recBlk (.agg #[.int .i64 p0, .slice Ax0 T0.length cx0, .slice Bx0 F0.length dx0]) g → _ from fun g hg => hO.lt g hg)
  have HRx0 := Lib.hid hO.rv
  have HOx0 := Lib.hid hO
  clear hO
  have hBwx0_8 := Below.refl wx0.heap.size wx0
  go_wp2_with (fail)
  obtain ⟨wqx0, hQ⟩ : ∃ W, wx0.alloc (.cells #[.int .i64 p0, .slice Ax0 T0.length cx0, .slice Bx0 F0.length dx0] 25) = W := ⟨_, rfl⟩
  rw [hQ]
  have hN : Below wx0.heap.size wx0 wqx0 := by rw [← hQ]; exact (Below.refl _ _).alloc (Nat.le_refl _) _
  obtain ⟨hn0, hn1, hn2⟩ := box3 wx0 (.int .i64 p0) (.slice Ax0 T0.length cx0) (.slice Bx0 F0.length dx0) 25
  rw [hQ] at hn0 hn1 hn2
  have hnl : wx0.heap.size < wqx0.heap.size := cell_lt hn0
  have lcx0 := hnl
  clear hQ
  have hBw_9 := below_more hBw_7 hN
  clear hBw_7
  have hBwb_9 := below_more hBwb_7 hN
  clear hBwb_7
  have hBwx0_9 := below_more hBwx0_8 hN
  clear hBwx0_8
  have hkN := keep_of_below hN
  have bxa00' := hkN.cell bxa00 (fun h => h)
  clear bxa00
  have bxa00 := bxa00'
  clear bxa00'
  have bxa01' := hkN.cell bxa01 (fun h => h)
  clear bxa01
  have bxa01 := bxa01'
  clear bxa01'
  have bxa02' := hkN.cell bxa02 (fun h => h)
  clear bxa02
  have bxa02 := bxa02'
  clear bxa02'
  have lba0' := Nat.lt_of_lt_of_le lba0 hN.size
  clear lba0
  have lba0 := lba0'
  clear lba0'
  have bxa10' := hkN.cell bxa10 (fun h => h)
  clear bxa10
  have bxa10 := bxa10'
  clear bxa10'
  have bxa11' := hkN.cell bxa11 (fun h => h)
  clear bxa11
  have bxa11 := bxa11'
  clear bxa11'
  have bxa12' := hkN.cell bxa12 (fun h => h)
  clear bxa12
  have bxa12 := bxa12'
  clear bxa12'
  have lba1' := Nat.lt_of_lt_of_le lba1 hN.size
  clear lba1
  have lba1 := lba1'
  clear lba1'
  clear hkN
  have hzwqx0 := hN.size
  clear hN
  have bxx00 := hn0
  clear hn0
  have bxx01 := hn1
  clear hn1
  have bxx02 := hn2
  clear hn2
  have lbx0 := hnl
  clear hnl
  refine (toFrac _ p1 T1 F1 _ (H1.out.below hBw_9) hT1 hF1).mono ?_
  rintro e wx1 ⟨_, rfl, ⟨Ax1, cx1, Bx1, dx1, rfl, hO1, hO2, hO3⟩, hN⟩
  have hO : RO wx1 wqx0.heap.size (.agg #[.int .i64 p1, .slice Ax1 T1.length cx1, .slice Bx1 F1.length dx1]) p1 T1 F1 := ⟨Ax1, cx1, Bx1, dx1, rfl, hO1, hO2, hO3⟩
  clear hO1 hO2 hO3
  have hBw_10 := below_more hBw_9 hN
  clear hBw_9
  have hBwb_10 := below_more hBwb_9 hN
  clear hBwb_9
  have hBwx0_10 := below_more hBwx0_9 hN
  clear hBwx0_9
  have hkN := keep_of_below hN
  have bxa00' := hkN.cell bxa00 (fun h => h)
  clear bxa00
  have bxa00 := bxa00'
  clear bxa00'
  have bxa01' := hkN.cell bxa01 (fun h => h)
  clear bxa01
  have bxa01 := bxa01'
  clear bxa01'
  have bxa02' := hkN.cell bxa02 (fun h => h)
  clear bxa02
  have bxa02 := bxa02'
  clear bxa02'
  have lba0' := Nat.lt_of_lt_of_le lba0 hN.size
  clear lba0
  have lba0 := lba0'
  clear lba0'
  have bxa10' := hkN.cell bxa10 (fun h => h)
  clear bxa10
  have bxa10 := bxa10'
  clear bxa10'
  have bxa11' := hkN.cell bxa11 (fun h => h)
  clear bxa11
  have bxa11 := bxa11'
  clear bxa11'
  have bxa12' := hkN.cell bxa12 (fun h => h)
  clear bxa12
  have bxa12 := bxa12'
  clear bxa12'
  have lba1' := Nat.lt_of_lt_of_le lba1 hN.size
  clear lba1
  have lba1 := lba1'
  clear lba1'
  have bxx00' := hkN.cell bxx00 (fun h => h)
  clear bxx00
  have bxx00 := bxx00'
  clear bxx00'
  have bxx01' := hkN.cell bxx01 (fun h => h)
  clear bxx01
  have bxx01 := bxx01'
  clear bxx01'
  have bxx02' := hkN.cell bxx02 (fun h => h)
  clear bxx02
  have bxx02 := bxx02'
  clear bxx02'
  have lbx0' := Nat.lt_of_lt_of_le lbx0 hN.size
  clear lbx0
  have lbx0 := lbx0'
  clear lbx0'
  clear hkN
  have hzwx1 := hN.size
  clear hN
  have HLx1 := Lib.hid (show ∀ g, recBlk (.agg #[.int .i64 p1, .slice Ax1 T1.length cx1, .slice Bx1 F1.length dx1]) g → _ from fun g hg => hO.lt g hg)
  have HRx1 := Lib.hid hO.rv
  have HOx1 := Lib.hid hO
  clear hO
  have hBwx1_11 := Below.refl wx1.heap.size wx1
  go_wp2_with (fail)
  obtain ⟨wqx1, hQ⟩ : ∃ W, wx1.alloc (.cells #[.int .i64 p1, .slice Ax1 T1.length cx1, .slice Bx1 F1.length dx1] 25) = W := ⟨_, rfl⟩
  rw [hQ]
  have hN : Below wx1.heap.size wx1 wqx1 := by rw [← hQ]; exact (Below.refl _ _).alloc (Nat.le_refl _) _
  obtain ⟨hn0, hn1, hn2⟩ := box3 wx1 (.int .i64 p1) (.slice Ax1 T1.length cx1) (.slice Bx1 F1.length dx1) 25
  rw [hQ] at hn0 hn1 hn2
  have hnl : wx1.heap.size < wqx1.heap.size := cell_lt hn0
  have lcx1 := hnl
  clear hQ
  have hBw_12 := below_more hBw_10 hN
  clear hBw_10
  have hBwb_12 := below_more hBwb_10 hN
  clear hBwb_10
  have hBwx0_12 := below_more hBwx0_10 hN
  clear hBwx0_10
  have hBwx1_12 := below_more hBwx1_11 hN
  clear hBwx1_11
  have hkN := keep_of_below hN
  have bxa00' := hkN.cell bxa00 (fun h => h)
  clear bxa00
  have bxa00 := bxa00'
  clear bxa00'
  have bxa01' := hkN.cell bxa01 (fun h => h)
  clear bxa01
  have bxa01 := bxa01'
  clear bxa01'
  have bxa02' := hkN.cell bxa02 (fun h => h)
  clear bxa02
  have bxa02 := bxa02'
  clear bxa02'
  have lba0' := Nat.lt_of_lt_of_le lba0 hN.size
  clear lba0
  have lba0 := lba0'
  clear lba0'
  have bxa10' := hkN.cell bxa10 (fun h => h)
  clear bxa10
  have bxa10 := bxa10'
  clear bxa10'
  have bxa11' := hkN.cell bxa11 (fun h => h)
  clear bxa11
  have bxa11 := bxa11'
  clear bxa11'
  have bxa12' := hkN.cell bxa12 (fun h => h)
  clear bxa12
  have bxa12 := bxa12'
  clear bxa12'
  have lba1' := Nat.lt_of_lt_of_le lba1 hN.size
  clear lba1
  have lba1 := lba1'
  clear lba1'
  have bxx00' := hkN.cell bxx00 (fun h => h)
  clear bxx00
  have bxx00 := bxx00'
  clear bxx00'
  have bxx01' := hkN.cell bxx01 (fun h => h)
  clear bxx01
  have bxx01 := bxx01'
  clear bxx01'
  have bxx02' := hkN.cell bxx02 (fun h => h)
  clear bxx02
  have bxx02 := bxx02'
  clear bxx02'
  have lbx0' := Nat.lt_of_lt_of_le lbx0 hN.size
  clear lbx0
  have lbx0 := lbx0'
  clear lbx0'
  clear hkN
  have hzwqx1 := hN.size
  clear hN
  have bxx10 := hn0
  clear hn0
  have bxx11 := hn1
  clear hn1
  have bxx12 := hn2
  clear hn2
  have lbx1 := hnl
  clear hnl
  refine (implFracSame _ p0 T0 F0 _ p1 T1 F1 _ (HRx0.out.below hBwx0_12) (HRx1.out.below hBwx1_12) ge (HGE.out.below hBw_12)).mono ?_
  rw [HRV.out]
  rintro e wd ⟨rfl, hN⟩
  have hBw_13 := below_more hBw_12 hN
  clear hBw_12
  have hBwb_13 := below_more hBwb_12 hN
  clear hBwb_12
  have hBwx0_13 := below_more hBwx0_12 hN
  clear hBwx0_12
  have hBwx1_13 := below_more hBwx1_12 hN
  clear hBwx1_12
  have hkN := keep_of_below hN
  have bxa00' := hkN.cell bxa00 (fun h => h)
  clear bxa00
  have bxa00 := bxa00'
  clear bxa00'
  have bxa01' := hkN.cell bxa01 (fun h => h)
  clear bxa01
  have bxa01 := bxa01'
  clear bxa01'
  have bxa02' := hkN.cell bxa02 (fun h => h)
  clear bxa02
  have bxa02 := bxa02'
  clear bxa02'
  have lba0' := Nat.lt_of_lt_of_le lba0 hN.size
  clear lba0
  have lba0 := lba0'
  clear lba0'
  have bxa10' := hkN.cell bxa10 (fun h => h)
  clear bxa10
  have bxa10 := bxa10'
  clear bxa10'
  have bxa11' := hkN.cell bxa11 (fun h => h)
  clear bxa11
  have bxa11 := bxa11'
  clear bxa11'
  have bxa12' := hkN.cell bxa12 (fun h => h)
  clear bxa12
  have bxa12 := bxa12'
  clear bxa12'
  have lba1' := Nat.lt_of_lt_of_le lba1 hN.size
  clear lba1
  have lba1 := lba1'
  clear lba1'
  have bxx00' := hkN.cell bxx00 (fun h => h)
  clear bxx00
  have bxx00 := bxx00'
  clear bxx00'
  have bxx01' := hkN.cell bxx01 (fun h => h)
  clear bxx01
  have bxx01 := bxx01'
  clear bxx01'
  have bxx02' := hkN.cell bxx02 (fun h => h)
  clear bxx02
  have bxx02 := bxx02'
  clear bxx02'
  have lbx0' := Nat.lt_of_lt_of_le lbx0 hN.size
  clear lbx0
  have lbx0 := lbx0'
  clear lbx0'
  have bxx10' := hkN.cell bxx10 (fun h => h)
  clear bxx10
  have bxx10 := bxx10'
  clear bxx10'
  have bxx11' := hkN.cell bxx11 (fun h => h)
  clear bxx11
  have bxx11 := bxx11'
  clear bxx11'
  have bxx12' := hkN.cell bxx12 (fun h => h)
  clear bxx12
  have bxx12 := bxx12'
  clear bxx12'
  have lbx1' := Nat.lt_of_lt_of_le lbx1 hN.size
  clear lbx1
  have lbx1 := lbx1'
  clear lbx1'
  clear hkN
  have hzwd := hN.size
  clear hN
  go_wp2_with (fail)
  have cdx00 : wd.drew.cell? ⟨wx0.heap.size, 0, none⟩ = some (.int .i64 p0) := bxx00
  have cdx01 : wd.drew.cell? ⟨wx0.heap.size, 1, none⟩ = some (.slice Ax0 T0.length cx0) := bxx01
  have cdx02 : wd.drew.cell? ⟨wx0.heap.size, 2, none⟩ = some (.slice Bx0 F0.length dx0) := bxx02
  have cda00 : wd.drew.cell? ⟨w.heap.size, 0, none⟩ = some (.int .i64 p0) := bxa00
  have cda01 : wd.drew.cell? ⟨w.heap.size, 1, none⟩ = some (.slice Aa0 na0 ca0) := bxa01
  have cda02 : wd.drew.cell? ⟨w.heap.size, 2, none⟩ = some (.slice Ba0 ma0 da0) := bxa02
  have ZA : wd.cell? ⟨wx0.heap.size, 0, none⟩ = some (.int .i64 p0) ∧ wd.cell? ⟨wx0.heap.size, 1, none⟩ = some (.slice Ax0 T0.length cx0) ∧ wd.cell? ⟨wx0.heap.size, 2, none⟩ = some (.slice Bx0 F0.length dx0) ∧ wd.cell? ⟨w.heap.size, 0, none⟩ = some (.int .i64 p0) ∧ wd.cell? ⟨w.heap.size, 1, none⟩ = some (.slice Aa0 na0 ca0) ∧ wd.cell? ⟨w.heap.size, 2, none⟩ = some (.slice Ba0 ma0 da0) := ⟨bxx00, bxx01, bxx02, bxa00, bxa01, bxa02⟩
  have ZB : wd.drew.cell? ⟨wx0.heap.size, 0, none⟩ = some (.int .i64 p0) ∧ wd.drew.cell? ⟨wx0.heap.size, 1, none⟩ = some (.slice Ax0 T0.length cx0) ∧ wd.drew.cell? ⟨wx0.heap.size, 2, none⟩ = some (.slice Bx0 F0.length dx0) ∧ wd.drew.cell? ⟨w.heap.size, 0, none⟩ = some (.int .i64 p0) ∧ wd.drew.cell? ⟨w.heap.size, 1, none⟩ = some (.slice Aa0 na0 ca0) ∧ wd.drew.cell? ⟨w.heap.size, 2, none⟩ = some (.slice Ba0 ma0 da0) := ⟨cdx00, cdx01, cdx02, cda00, cda01, cda02⟩
  have hdr : Below wd.heap.size wd wd.drew := below_drawn (Below.refl _ _) ⟨1, rfl⟩
  have HBd := Lib.hid (below_more hBw_13 hdr)
  have HRxd := Lib.hid ((HRx0.out.below hBwx0_13).below hdr)
  have HDR := Lib.hid hdr
  clear hdr
  go_region_held3 (fun w' => w'.cell? ⟨wx0.heap.size, 0, none⟩ = some (.int .i64 p0) ∧ w'.cell? ⟨wx0.heap.size, 1, none⟩ = some (.slice Ax0 T0.length cx0) ∧ w'.cell? ⟨wx0.heap.size, 2, none⟩ = some (.slice Bx0 F0.length dx0) ∧ w'.cell? ⟨w.heap.size, 0, none⟩ = some (.int .i64 p0) ∧ w'.cell? ⟨w.heap.size, 1, none⟩ = some (.slice Aa0 na0 ca0) ∧ w'.cell? ⟨w.heap.size, 2, none⟩ = some (.slice Ba0 ma0 da0)) (first | assumption | exact ZD | exact ZC | exact ZB | exact ZA | go_keep) (first | (go_at_call 19; refine (toFrac _ p0 T0 F0 _ (H0.out.below HBd.out) hT0 hF0).mono ?_; rintro e wf0 ⟨_, rfl, ⟨Af0, cf0, Bf0, df0, rfl, hO1, hO2, hO3⟩, hN⟩; have hO : RO wf0 wd.drew.heap.size (.agg #[.int .i64 p0, .slice Af0 T0.length cf0, .slice Bf0 F0.length df0]) p0 T0 F0 := ⟨Af0, cf0, Bf0, df0, rfl, hO1, hO2, hO3⟩; have HRf0 := Lib.hid hO.rv; have HRxe := Lib.hid (HRxd.out.below hN); have cex00 := (keep_of_below hN).cell cdx00 (fun h => h); have cex01 := (keep_of_below hN).cell cdx01 (fun h => h); have cex02 := (keep_of_below hN).cell cdx02 (fun h => h); have cea00 := (keep_of_below hN).cell cda00 (fun h => h); have cea01 := (keep_of_below hN).cell cda01 (fun h => h); have cea02 := (keep_of_below hN).cell cda02 (fun h => h); have ZC := And.intro cex00 (And.intro cex01 (And.intro cex02 (And.intro cea00 (And.intro cea01 cea02)))); have HNf := Lib.hid hN; clear hO hO1 hO2 hO3 hN) | (go_at_call 20; refine (eqFrac _ p0 T0 F0 _ p0 T0 F0 _ HRxe.out HRf0.out).mono ?_; rintro e we14 ⟨rfl, hN⟩; rw [decide_eq_true (show p0 = p0 ∧ T0 = T0 ∧ F0 = F0 from ⟨rfl, rfl, rfl⟩)]; have cgx00 := (keep_of_below hN).cell cex00 (fun h => h); have cgx01 := (keep_of_below hN).cell cex01 (fun h => h); have cgx02 := (keep_of_below hN).cell cex02 (fun h => h); have cga00 := (keep_of_below hN).cell cea00 (fun h => h); have cga01 := (keep_of_below hN).cell cea01 (fun h => h); have cga02 := (keep_of_below hN).cell cea02 (fun h => h); have ZD := And.intro cgx00 (And.intro cgx01 (And.intro cgx02 (And.intro cga00 (And.intro cga01 cga02)))); have HNe := Lib.hid hN; clear hN))
  have hN : Below wd.heap.size wd we14 := below_more (below_more HDR.out HNf.out) HNe.out
  clear ZA ZB ZC ZD HBd HRxd HRxe HDR HNf HNe HRf0
  clear cdx00 cdx01 cdx02 cda00 cda01 cda02 cex00 cex01 cex02 cea00 cea01 cea02 cgx00 cgx01 cgx02 cga00 cga01 cga02
  have hBw_15 := below_more hBw_13 hN
  clear hBw_13
  have hBwb_15 := below_more hBwb_13 hN
  clear hBwb_13
  have hBwx0_15 := below_more hBwx0_13 hN
  clear hBwx0_13
  have hBwx1_15 := below_more hBwx1_13 hN
  clear hBwx1_13
  have hkN := keep_of_below hN
  have bxa00' := hkN.cell bxa00 (fun h => h)
  clear bxa00
  have bxa00 := bxa00'
  clear bxa00'
  have bxa01' := hkN.cell bxa01 (fun h => h)
  clear bxa01
  have bxa01 := bxa01'
  clear bxa01'
  have bxa02' := hkN.cell bxa02 (fun h => h)
  clear bxa02
  have bxa02 := bxa02'
  clear bxa02'
  have lba0' := Nat.lt_of_lt_of_le lba0 hN.size
  clear lba0
  have lba0 := lba0'
  clear lba0'
  have bxa10' := hkN.cell bxa10 (fun h => h)
  clear bxa10
  have bxa10 := bxa10'
  clear bxa10'
  have bxa11' := hkN.cell bxa11 (fun h => h)
  clear bxa11
  have bxa11 := bxa11'
  clear bxa11'
  have bxa12' := hkN.cell bxa12 (fun h => h)
  clear bxa12
  have bxa12 := bxa12'
  clear bxa12'
  have lba1' := Nat.lt_of_lt_of_le lba1 hN.size
  clear lba1
  have lba1 := lba1'
  clear lba1'
  have bxx00' := hkN.cell bxx00 (fun h => h)
  clear bxx00
  have bxx00 := bxx00'
  clear bxx00'
  have bxx01' := hkN.cell bxx01 (fun h => h)
  clear bxx01
  have bxx01 := bxx01'
  clear bxx01'
  have bxx02' := hkN.cell bxx02 (fun h => h)
  clear bxx02
  have bxx02 := bxx02'
  clear bxx02'
  have lbx0' := Nat.lt_of_lt_of_le lbx0 hN.size
  clear lbx0
  have lbx0 := lbx0'
  clear lbx0'
  have bxx10' := hkN.cell bxx10 (fun h => h)
  clear bxx10
  have bxx10 := bxx10'
  clear bxx10'
  have bxx11' := hkN.cell bxx11 (fun h => h)
  clear bxx11
  have bxx11 := bxx11'
  clear bxx11'
  have bxx12' := hkN.cell bxx12 (fun h => h)
  clear bxx12
  have bxx12 := bxx12'
  clear bxx12'
  have lbx1' := Nat.lt_of_lt_of_le lbx1 hN.size
  clear lbx1
  have lbx1 := lbx1'
  clear lbx1'
  clear hkN
  have hzwe14 := hN.size
  clear hN
  go_wp2_with (fail)
  have cdx10 : we14.drew.cell? ⟨wx1.heap.size, 0, none⟩ = some (.int .i64 p1) := bxx10
  have cdx11 : we14.drew.cell? ⟨wx1.heap.size, 1, none⟩ = some (.slice Ax1 T1.length cx1) := bxx11
  have cdx12 : we14.drew.cell? ⟨wx1.heap.size, 2, none⟩ = some (.slice Bx1 F1.length dx1) := bxx12
  have cda10 : we14.drew.cell? ⟨w.heap.size + 1, 0, none⟩ = some (.int .i64 p1) := bxa10
  have cda11 : we14.drew.cell? ⟨w.heap.size + 1, 1, none⟩ = some (.slice Aa1 na1 ca1) := bxa11
  have cda12 : we14.drew.cell? ⟨w.heap.size + 1, 2, none⟩ = some (.slice Ba1 ma1 da1) := bxa12
  have ZA : we14.cell? ⟨wx1.heap.size, 0, none⟩ = some (.int .i64 p1) ∧ we14.cell? ⟨wx1.heap.size, 1, none⟩ = some (.slice Ax1 T1.length cx1) ∧ we14.cell? ⟨wx1.heap.size, 2, none⟩ = some (.slice Bx1 F1.length dx1) ∧ we14.cell? ⟨w.heap.size + 1, 0, none⟩ = some (.int .i64 p1) ∧ we14.cell? ⟨w.heap.size + 1, 1, none⟩ = some (.slice Aa1 na1 ca1) ∧ we14.cell? ⟨w.heap.size + 1, 2, none⟩ = some (.slice Ba1 ma1 da1) := ⟨bxx10, bxx11, bxx12, bxa10, bxa11, bxa12⟩
  have ZB : we14.drew.cell? ⟨wx1.heap.size, 0, none⟩ = some (.int .i64 p1) ∧ we14.drew.cell? ⟨wx1.heap.size, 1, none⟩ = some (.slice Ax1 T1.length cx1) ∧ we14.drew.cell? ⟨wx1.heap.size, 2, none⟩ = some (.slice Bx1 F1.length dx1) ∧ we14.drew.cell? ⟨w.heap.size + 1, 0, none⟩ = some (.int .i64 p1) ∧ we14.drew.cell? ⟨w.heap.size + 1, 1, none⟩ = some (.slice Aa1 na1 ca1) ∧ we14.drew.cell? ⟨w.heap.size + 1, 2, none⟩ = some (.slice Ba1 ma1 da1) := ⟨cdx10, cdx11, cdx12, cda10, cda11, cda12⟩
  have hdr : Below we14.heap.size we14 we14.drew := below_drawn (Below.refl _ _) ⟨1, rfl⟩
  have HBd := Lib.hid (below_more hBw_15 hdr)
  have HRxd := Lib.hid ((HRx1.out.below hBwx1_15).below hdr)
  have HDR := Lib.hid hdr
  clear hdr
  go_region_held3 (fun w' => w'.cell? ⟨wx1.heap.size, 0, none⟩ = some (.int .i64 p1) ∧ w'.cell? ⟨wx1.heap.size, 1, none⟩ = some (.slice Ax1 T1.length cx1) ∧ w'.cell? ⟨wx1.heap.size, 2, none⟩ = some (.slice Bx1 F1.length dx1) ∧ w'.cell? ⟨w.heap.size + 1, 0, none⟩ = some (.int .i64 p1) ∧ w'.cell? ⟨w.heap.size + 1, 1, none⟩ = some (.slice Aa1 na1 ca1) ∧ w'.cell? ⟨w.heap.size + 1, 2, none⟩ = some (.slice Ba1 ma1 da1)) (first | assumption | exact ZD | exact ZC | exact ZB | exact ZA | go_keep) (first | (go_at_call 19; refine (toFrac _ p1 T1 F1 _ (H1.out.below HBd.out) hT1 hF1).mono ?_; rintro e wf1 ⟨_, rfl, ⟨Af1, cf1, Bf1, df1, rfl, hO1, hO2, hO3⟩, hN⟩; have hO : RO wf1 we14.drew.heap.size (.agg #[.int .i64 p1, .slice Af1 T1.length cf1, .slice Bf1 F1.length df1]) p1 T1 F1 := ⟨Af1, cf1, Bf1, df1, rfl, hO1, hO2, hO3⟩; have HRf1 := Lib.hid hO.rv; have HRxe := Lib.hid (HRxd.out.below hN); have cex10 := (keep_of_below hN).cell cdx10 (fun h => h); have cex11 := (keep_of_below hN).cell cdx11 (fun h => h); have cex12 := (keep_of_below hN).cell cdx12 (fun h => h); have cea10 := (keep_of_below hN).cell cda10 (fun h => h); have cea11 := (keep_of_below hN).cell cda11 (fun h => h); have cea12 := (keep_of_below hN).cell cda12 (fun h => h); have ZC := And.intro cex10 (And.intro cex11 (And.intro cex12 (And.intro cea10 (And.intro cea11 cea12)))); have HNf := Lib.hid hN; clear hO hO1 hO2 hO3 hN) | (go_at_call 20; refine (eqFrac _ p1 T1 F1 _ p1 T1 F1 _ HRxe.out HRf1.out).mono ?_; rintro e we16 ⟨rfl, hN⟩; rw [decide_eq_true (show p1 = p1 ∧ T1 = T1 ∧ F1 = F1 from ⟨rfl, rfl, rfl⟩)]; have cgx10 := (keep_of_below hN).cell cex10 (fun h => h); have cgx11 := (keep_of_below hN).cell cex11 (fun h => h); have cgx12 := (keep_of_below hN).cell cex12 (fun h => h); have cga10 := (keep_of_below hN).cell cea10 (fun h => h); have cga11 := (keep_of_below hN).cell cea11 (fun h => h); have cga12 := (keep_of_below hN).cell cea12 (fun h => h); have ZD := And.intro cgx10 (And.intro cgx11 (And.intro cgx12 (And.intro cga10 (And.intro cga11 cga12)))); have HNe := Lib.hid hN; clear hN))
  have hN : Below we14.heap.size we14 we16 := below_more (below_more HDR.out HNf.out) HNe.out
  clear ZA ZB ZC ZD HBd HRxd HRxe HDR HNf HNe HRf1
  clear cdx10 cdx11 cdx12 cda10 cda11 cda12 cex10 cex11 cex12 cea10 cea11 cea12 cgx10 cgx11 cgx12 cga10 cga11 cga12
  have hBw_17 := below_more hBw_15 hN
  clear hBw_15
  have hBwb_17 := below_more hBwb_15 hN
  clear hBwb_15
  have hBwx0_17 := below_more hBwx0_15 hN
  clear hBwx0_15
  have hBwx1_17 := below_more hBwx1_15 hN
  clear hBwx1_15
  have hkN := keep_of_below hN
  have bxa00' := hkN.cell bxa00 (fun h => h)
  clear bxa00
  have bxa00 := bxa00'
  clear bxa00'
  have bxa01' := hkN.cell bxa01 (fun h => h)
  clear bxa01
  have bxa01 := bxa01'
  clear bxa01'
  have bxa02' := hkN.cell bxa02 (fun h => h)
  clear bxa02
  have bxa02 := bxa02'
  clear bxa02'
  have lba0' := Nat.lt_of_lt_of_le lba0 hN.size
  clear lba0
  have lba0 := lba0'
  clear lba0'
  have bxa10' := hkN.cell bxa10 (fun h => h)
  clear bxa10
  have bxa10 := bxa10'
  clear bxa10'
  have bxa11' := hkN.cell bxa11 (fun h => h)
  clear bxa11
  have bxa11 := bxa11'
  clear bxa11'
  have bxa12' := hkN.cell bxa12 (fun h => h)
  clear bxa12
  have bxa12 := bxa12'
  clear bxa12'
  have lba1' := Nat.lt_of_lt_of_le lba1 hN.size
  clear lba1
  have lba1 := lba1'
  clear lba1'
  have bxx00' := hkN.cell bxx00 (fun h => h)
  clear bxx00
  have bxx00 := bxx00'
  clear bxx00'
  have bxx01' := hkN.cell bxx01 (fun h => h)
  clear bxx01
  have bxx01 := bxx01'
  clear bxx01'
  have bxx02' := hkN.cell bxx02 (fun h => h)
  clear bxx02
  have bxx02 := bxx02'
  clear bxx02'
  have lbx0' := Nat.lt_of_lt_of_le lbx0 hN.size
  clear lbx0
  have lbx0 := lbx0'
  clear lbx0'
  have bxx10' := hkN.cell bxx10 (fun h => h)
  clear bxx10
  have bxx10 := bxx10'
  clear bxx10'
  have bxx11' := hkN.cell bxx11 (fun h => h)
  clear bxx11
  have bxx11 := bxx11'
  clear bxx11'
  have bxx12' := hkN.cell bxx12 (fun h => h)
  clear bxx12
  have bxx12 := bxx12'
  clear bxx12'
  have lbx1' := Nat.lt_of_lt_of_le lbx1 hN.size
  clear lbx1
  have lbx1 := lbx1'
  clear lbx1'
  clear hkN
  have hzwe16 := hN.size
  clear hN
  go_wp2_with (fail)
  go_ret
  exact ⟨rfl, hBw_17⟩
end Go.Proofs.YtllakclbgmingabDoor

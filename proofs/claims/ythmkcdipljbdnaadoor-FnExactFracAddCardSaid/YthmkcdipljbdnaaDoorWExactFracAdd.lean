/-
  The walk of the exact law of FracAdd.
-/
import Derived.Deep.RegionHeld3
import Derived.Test.YthmkcdipljbdnaaDoorFrZa
import Derived.Test.YthmkcdipljbdnaaDoorFc
import Derived.Test.YthmkcdipljbdnaaDoorEx
namespace Go.Proofs.YthmkcdipljbdnaaDoor
open Go.RowKit
set_option maxRecDepth 100000 in
set_option maxHeartbeats 32000000 in
set_option linter.unusedVariables false in
theorem walkFnExactFracAdd (p0 : Int) (Aa0 : Option Addr) (na0 ca0 : Nat) (Ba0 : Option Addr) (ma0 da0 : Nat) (T0 F0 : List Int) (p1 : Int) (Aa1 : Option Addr) (na1 ca1 : Nat) (Ba1 : Option Addr) (ma1 da1 : Nat) (T1 F1 : List Int) (w : World) (w0 : RV w (.agg #[.int .i64 p0, .slice Aa0 na0 ca0, .slice Ba0 ma0 da0]) p0 T0 F0) (w1 : RV w (.agg #[.int .i64 p1, .slice Aa1 na1 ca1, .slice Ba1 ma1 da1]) p1 T1 F1) (ge : Addr) (hge : GE w ge) :
    Calls Tryd.prog 3 #[.agg #[.int .i64 p0, .slice Aa0 na0 ca0, .slice Ba0 ma0 da0], .agg #[.int .i64 p1, .slice Aa1 na1 ca1, .slice Ba1 ma1 da1]] w fun e w' => e = .returned (.bool true) ∧ Below w.heap.size w w' := by
  have H0 := Lib.hid w0
  have H1 := Lib.hid w1
  have HGE := Lib.hid hge
  clear hge
  clear w0 w1
  go_enter Tryd.func3, Tryd.ntmps3
  have hBw0 := Below.refl w.heap.size w
  go_wp2_with (fail)
  obtain ⟨wqa0, hQ⟩ : ∃ W, w.alloc (.cells #[.int .i64 p0, .slice Aa0 na0 ca0, .slice Ba0 ma0 da0] 24) = W := ⟨_, rfl⟩
  rw [hQ]
  have hN : Below w.heap.size w wqa0 := by rw [← hQ]; exact (Below.refl _ _).alloc (Nat.le_refl _) _
  obtain ⟨hn0, hn1, hn2⟩ := box3 w (.int .i64 p0) (.slice Aa0 na0 ca0) (.slice Ba0 ma0 da0) 24
  rw [hQ] at hn0 hn1 hn2
  have hse' : wqa0.heap.size = w.heap.size + 1 := by rw [← hQ]; simp
  have hnl : w.heap.size < wqa0.heap.size := cell_lt hn0
  have lca0 := hnl
  clear hQ
  have hse := hse'
  clear hse'
  have hBw_1 := below_more hBw0 hN
  clear hBw0
  have hzwqa0 := hN.size
  clear hN
  have bxa00 := hn0
  clear hn0
  have bxa01 := hn1
  clear hn1
  have bxa02 := hn2
  clear hn2
  have lba0 := hnl
  clear hnl
  obtain ⟨wqa1, hQ⟩ : ∃ W, wqa0.alloc (.cells #[.int .i64 p1, .slice Aa1 na1 ca1, .slice Ba1 ma1 da1] 24) = W := ⟨_, rfl⟩
  rw [hQ]
  have hN : Below wqa0.heap.size wqa0 wqa1 := by rw [← hQ]; exact (Below.refl _ _).alloc (Nat.le_refl _) _
  obtain ⟨hn0, hn1, hn2⟩ := box3 wqa0 (.int .i64 p1) (.slice Aa1 na1 ca1) (.slice Ba1 ma1 da1) 24
  rw [hQ] at hn0 hn1 hn2
  have hnl : wqa0.heap.size < wqa1.heap.size := cell_lt hn0
  rw [hse] at hn0 hn1 hn2 hnl
  clear hse
  have lca1 := hnl
  clear hQ
  have hBw_2 := below_more hBw_1 hN
  clear hBw_1
  have hkN := keep_of_below hN
  have bxa00' := hkN.cell bxa00 (fun h => h)
  clear bxa00
  have bxa00 := bxa00'
  clear bxa00'
  have bxa01' := hkN.cell bxa01 (fun h => h)
  clear bxa01
  have bxa01 := bxa01'
  clear bxa01'
  have bxa02' := hkN.cell bxa02 (fun h => h)
  clear bxa02
  have bxa02 := bxa02'
  clear bxa02'
  have lba0' := Nat.lt_of_lt_of_le lba0 hN.size
  clear lba0
  have lba0 := lba0'
  clear lba0'
  clear hkN
  have hzwqa1 := hN.size
  clear hN
  have bxa10 := hn0
  clear hn0
  have bxa11 := hn1
  clear hn1
  have bxa12 := hn2
  clear hn2
  have lba1 := hnl
  clear hnl
  refine (szFrac _ p0 T0 F0 1048576 _ (H0.out.below hBw_2) (by decide) (by decide)).mono ?_
  rintro e wz0 ⟨r0, rfl, hr0, hN⟩
  have hBw_3 := below_more hBw_2 hN
  clear hBw_2
  have hkN := keep_of_below hN
  have bxa00' := hkN.cell bxa00 (fun h => h)
  clear bxa00
  have bxa00 := bxa00'
  clear bxa00'
  have bxa01' := hkN.cell bxa01 (fun h => h)
  clear bxa01
  have bxa01 := bxa01'
  clear bxa01'
  have bxa02' := hkN.cell bxa02 (fun h => h)
  clear bxa02
  have bxa02 := bxa02'
  clear bxa02'
  have lba0' := Nat.lt_of_lt_of_le lba0 hN.size
  clear lba0
  have lba0 := lba0'
  clear lba0'
  have bxa10' := hkN.cell bxa10 (fun h => h)
  clear bxa10
  have bxa10 := bxa10'
  clear bxa10'
  have bxa11' := hkN.cell bxa11 (fun h => h)
  clear bxa11
  have bxa11 := bxa11'
  clear bxa11'
  have bxa12' := hkN.cell bxa12 (fun h => h)
  clear bxa12
  have bxa12 := bxa12'
  clear bxa12'
  have lba1' := Nat.lt_of_lt_of_le lba1 hN.size
  clear lba1
  have lba1 := lba1'
  clear lba1'
  clear hkN
  have hzwz0 := hN.size
  clear hN
  rcases hr0 with hr0 | ⟨hr00, hrx0, hTn0, hFn0⟩
  · go_wp2_with (fail)
    go_ret
    exact ⟨rfl, hBw_3⟩
  have hT0 : T0.length ≤ 1048576 := by omega
  have hF0 : F0.length ≤ 1048576 := by omega
  go_wp2_with (fail)
  refine (szFrac _ p1 T1 F1 r0 _ (H1.out.below hBw_3) (by omega) (by omega)).mono ?_
  rintro e wz1 ⟨r1, rfl, hr1, hN⟩
  have hBw_4 := below_more hBw_3 hN
  clear hBw_3
  have hkN := keep_of_below hN
  have bxa00' := hkN.cell bxa00 (fun h => h)
  clear bxa00
  have bxa00 := bxa00'
  clear bxa00'
  have bxa01' := hkN.cell bxa01 (fun h => h)
  clear bxa01
  have bxa01 := bxa01'
  clear bxa01'
  have bxa02' := hkN.cell bxa02 (fun h => h)
  clear bxa02
  have bxa02 := bxa02'
  clear bxa02'
  have lba0' := Nat.lt_of_lt_of_le lba0 hN.size
  clear lba0
  have lba0 := lba0'
  clear lba0'
  have bxa10' := hkN.cell bxa10 (fun h => h)
  clear bxa10
  have bxa10 := bxa10'
  clear bxa10'
  have bxa11' := hkN.cell bxa11 (fun h => h)
  clear bxa11
  have bxa11 := bxa11'
  clear bxa11'
  have bxa12' := hkN.cell bxa12 (fun h => h)
  clear bxa12
  have bxa12 := bxa12'
  clear bxa12'
  have lba1' := Nat.lt_of_lt_of_le lba1 hN.size
  clear lba1
  have lba1 := lba1'
  clear lba1'
  clear hkN
  have hzwz1 := hN.size
  clear hN
  rcases hr1 with hr1 | ⟨hr01, hrx1, hTn1, hFn1⟩
  · go_wp2_with (fail)
    go_ret
    exact ⟨rfl, hBw_4⟩
  have hT1 : T1.length ≤ 1048576 := by omega
  have hF1 : F1.length ≤ 1048576 := by omega
  obtain ⟨RV0, hRV⟩ : ∃ RV, fracAddR p0 T0 F0 p1 T1 F1 = RV := ⟨_, rfl⟩
  have hbd := fracAddR_len p0 T0 F0 p1 T1 F1
  rw [hRV] at hbd
  obtain ⟨RP, hRP⟩ : ∃ RP, (RV0.getD (0, [], [])).1 = RP := ⟨_, rfl⟩
  obtain ⟨RT, hRT⟩ : ∃ RT, (RV0.getD (0, [], [])).2.1 = RT := ⟨_, rfl⟩
  obtain ⟨RF, hRF⟩ : ∃ RF, (RV0.getD (0, [], [])).2.2 = RF := ⟨_, rfl⟩
  rw [hRT, hRF] at hbd
  have HRP := Lib.hid hRP
  have HRT := Lib.hid hRT
  have HRF := Lib.hid hRF
  clear hRP hRT hRF
  obtain ⟨hbT, hbF⟩ := hbd
  obtain ⟨RB, hRB⟩ : ∃ RB, RV0.isSome = RB := ⟨_, rfl⟩
  have hqb : (RB != RB) = false := by cases RB <;> rfl
  have HRB := Lib.hid hRB
  clear hRB
  have HRV := Lib.hid hRV
  clear hRV
  go_upto_region 8 with (fail)
  have HAN := Lib.hid (hBw_4)
  go_cut [6, 7] (fun v6 v7 wx => ∃ (gB : Nat) (As : Option Addr) (cs : Nat) (Bs : Option Addr) (ds : Nat), v6 = .pointer (some ⟨gB, 0, none⟩) ∧ v7 = .bool RB ∧ wz1.heap.size ≤ gB ∧ Bx wx gB (.int .i64 RP) (.slice As RT.length cs) (.slice Bs RF.length ds) ∧ RO wx wz1.heap.size (.agg #[.int .i64 RP, .slice As RT.length cs, .slice Bs RF.length ds]) RP RT RF ∧ Below wz1.heap.size wz1 wx)
  case first =>
    have cda00 : wz1.drew.cell? ⟨w.heap.size, 0, none⟩ = some (.int .i64 p0) := bxa00
    have cda01 : wz1.drew.cell? ⟨w.heap.size, 1, none⟩ = some (.slice Aa0 na0 ca0) := bxa01
    have cda02 : wz1.drew.cell? ⟨w.heap.size, 2, none⟩ = some (.slice Ba0 ma0 da0) := bxa02
    have cda10 : wz1.drew.cell? ⟨w.heap.size + 1, 0, none⟩ = some (.int .i64 p1) := bxa10
    have cda11 : wz1.drew.cell? ⟨w.heap.size + 1, 1, none⟩ = some (.slice Aa1 na1 ca1) := bxa11
    have cda12 : wz1.drew.cell? ⟨w.heap.size + 1, 2, none⟩ = some (.slice Ba1 ma1 da1) := bxa12
    have ZA : wz1.cell? ⟨w.heap.size, 0, none⟩ = some (.int .i64 p0) ∧ wz1.cell? ⟨w.heap.size, 1, none⟩ = some (.slice Aa0 na0 ca0) ∧ wz1.cell? ⟨w.heap.size, 2, none⟩ = some (.slice Ba0 ma0 da0) ∧ wz1.cell? ⟨w.heap.size + 1, 0, none⟩ = some (.int .i64 p1) ∧ wz1.cell? ⟨w.heap.size + 1, 1, none⟩ = some (.slice Aa1 na1 ca1) ∧ wz1.cell? ⟨w.heap.size + 1, 2, none⟩ = some (.slice Ba1 ma1 da1) := ⟨bxa00, bxa01, bxa02, bxa10, bxa11, bxa12⟩
    have ZB : wz1.drew.cell? ⟨w.heap.size, 0, none⟩ = some (.int .i64 p0) ∧ wz1.drew.cell? ⟨w.heap.size, 1, none⟩ = some (.slice Aa0 na0 ca0) ∧ wz1.drew.cell? ⟨w.heap.size, 2, none⟩ = some (.slice Ba0 ma0 da0) ∧ wz1.drew.cell? ⟨w.heap.size + 1, 0, none⟩ = some (.int .i64 p1) ∧ wz1.drew.cell? ⟨w.heap.size + 1, 1, none⟩ = some (.slice Aa1 na1 ca1) ∧ wz1.drew.cell? ⟨w.heap.size + 1, 2, none⟩ = some (.slice Ba1 ma1 da1) := ⟨cda00, cda01, cda02, cda10, cda11, cda12⟩
    have hdr : Below wz1.heap.size wz1 wz1.drew := below_drawn (Below.refl _ _) ⟨1, rfl⟩
    have HAd0 := Lib.hid ((H0.out.below HAN.out).below hdr)
    have HAd1 := Lib.hid ((H1.out.below HAN.out).below hdr)
    have HDR := Lib.hid hdr
    have hsa := HAN.out.size
    clear hdr
    have Q1 : True := trivial
    have Q2 : True := trivial
    have hfara0 : ∀ (W : World) (g o o' : Nat) (v : Value), w.heap.size < g → (W.setCell ⟨g, o, none⟩ v).cell? ⟨w.heap.size, o', none⟩ = W.cell? ⟨w.heap.size, o', none⟩ := fun W g o o' v hg => World.cell?_setCell_far _ _ _ _ (by show g ≠ w.heap.size; omega)
    have hfara1 : ∀ (W : World) (g o o' : Nat) (v : Value), w.heap.size + 1 < g → (W.setCell ⟨g, o, none⟩ v).cell? ⟨w.heap.size + 1, o', none⟩ = W.cell? ⟨w.heap.size + 1, o', none⟩ := fun W g o o' v hg => World.cell?_setCell_far _ _ _ _ (by show g ≠ w.heap.size + 1; omega)
    go_region_held3 (fun w' => w'.cell? ⟨w.heap.size, 0, none⟩ = some (.int .i64 p0) ∧ w'.cell? ⟨w.heap.size, 1, none⟩ = some (.slice Aa0 na0 ca0) ∧ w'.cell? ⟨w.heap.size, 2, none⟩ = some (.slice Ba0 ma0 da0) ∧ w'.cell? ⟨w.heap.size + 1, 0, none⟩ = some (.int .i64 p1) ∧ w'.cell? ⟨w.heap.size + 1, 1, none⟩ = some (.slice Aa1 na1 ca1) ∧ w'.cell? ⟨w.heap.size + 1, 2, none⟩ = some (.slice Ba1 ma1 da1)) (first | assumption | exact ZE | exact ZD | exact ZC | exact ZB | exact ZA | (simp (disch := omega) only [hfara0, hfara1]; exact ZE) | go_keep) (first | (clear Q1; go_at_call 7; (with_reducible refine (toFrac _ p0 T0 F0 _ (by first | exact HAd0.out | exact HAd0.out.below (below_new _ _)) hT0 hF0).mono ?_); rintro e wpwb ⟨u0, rfl, hO, hN⟩; have hN' : Below wz1.drew.heap.size wz1.drew wpwb := (by first | exact hN | exact below_more (below_new _ (.cells #[.int .i64 0, .slice none 0 0, .slice none 0 0] 26)) hN); have hzwpwb' : wz1.heap.size ≤ wpwb.heap.size := hN'.size; (first | have HLB := Lib.hid (show BxW wpwb wz1.heap.size (.int .i64 0) (.slice none 0 0) (.slice none 0 0) from (BxW.new wz1.drew (.int .i64 0) (.slice none 0 0) (.slice none 0 0) 26).below hN) | skip); have HRu0 := Lib.hid hO.rv; have HAe1 := Lib.hid (HAd1.out.below hN'); have cea00 := (keep_of_below hN').cell cda00 (fun h => h); have cea01 := (keep_of_below hN').cell cda01 (fun h => h); have cea02 := (keep_of_below hN').cell cda02 (fun h => h); have cea10 := (keep_of_below hN').cell cda10 (fun h => h); have cea11 := (keep_of_below hN').cell cda11 (fun h => h); have cea12 := (keep_of_below hN').cell cda12 (fun h => h); have ZC := And.intro cea00 (And.intro cea01 (And.intro cea02 (And.intro cea10 (And.intro cea11 cea12)))); have HNa := Lib.hid hN'; (first | have hla := HLB.out.c.lt | skip); clear hO hN hN') | (clear Q2; go_at_call 7; (with_reducible refine (toFrac _ p1 T1 F1 _ (by first | exact HAe1.out | exact HAe1.out.below (below_new _ _)) hT1 hF1).mono ?_); rintro e wvwb ⟨u1, rfl, hO, hN⟩; have hN' : Below wpwb.heap.size wpwb wvwb := (by first | exact hN | exact below_more (below_new _ (.cells #[.int .i64 0, .slice none 0 0, .slice none 0 0] 26)) hN); have hzwvwb' : wpwb.heap.size ≤ wvwb.heap.size := hN'.size; (first | have HLB := Lib.hid (HLB.out.below hN') | have HLB := Lib.hid ((BxW.new wpwb (.int .i64 0) (.slice none 0 0) (.slice none 0 0) 26).below hN) | skip); have HRu1 := Lib.hid hO.rv; have HRu0 := Lib.hid (HRu0.out.below hN'); have cga00 := (keep_of_below hN').cell cea00 (fun h => h); have cga01 := (keep_of_below hN').cell cea01 (fun h => h); have cga02 := (keep_of_below hN').cell cea02 (fun h => h); have cga10 := (keep_of_below hN').cell cea10 (fun h => h); have cga11 := (keep_of_below hN').cell cea11 (fun h => h); have cga12 := (keep_of_below hN').cell cea12 (fun h => h); have ZD := And.intro cga00 (And.intro cga01 (And.intro cga02 (And.intro cga10 (And.intro cga11 cga12)))); have HNb := Lib.hid hN'; (first | have hlb := HLB.out.c.lt | skip); clear hO hN hN') | (go_at_call 6; refine (specFracAdd _ p0 T0 F0 _ p1 T1 F1 _ (by first | exact HRu0.out | exact HRu0.out.below (below_new _ _)) (by first | exact HRu1.out | exact HRu1.out.below (below_new _ _))).mono ?_; rw [HRV.out]; unfold MadeRB; rw [HRB.out]; rintro e wb ⟨_, rfl, hO0, hN⟩; rw [HRP.out, HRT.out, HRF.out] at hO0; obtain ⟨As, cs, Bs, ds, rfl, hO1, hO2, hO3⟩ := hO0; have hN' : Below wvwb.heap.size wvwb wb := (by first | exact hN | exact below_more (below_new _ (.cells #[.int .i64 0, .slice none 0 0, .slice none 0 0] 26)) hN); have hzwb' : wvwb.heap.size ≤ wb.heap.size := hN'.size; (first | have HLB := Lib.hid (HLB.out.below hN') | have HLB := Lib.hid ((BxW.new wvwb (.int .i64 0) (.slice none 0 0) (.slice none 0 0) 26).below hN) | skip); have HOx := Lib.hid (show RO wb _ (.agg #[.int .i64 RP, .slice As RT.length cs, .slice Bs RF.length ds]) RP RT RF from ⟨As, cs, Bs, ds, rfl, hO1, hO2, hO3⟩); clear hO1 hO2 hO3; have cha00 := (keep_of_below hN').cell cga00 (fun h => h); have cha01 := (keep_of_below hN').cell cga01 (fun h => h); have cha02 := (keep_of_below hN').cell cga02 (fun h => h); have cha10 := (keep_of_below hN').cell cga10 (fun h => h); have cha11 := (keep_of_below hN').cell cga11 (fun h => h); have cha12 := (keep_of_below hN').cell cga12 (fun h => h); have ZE := And.intro cha00 (And.intro cha01 (And.intro cha02 (And.intro cha10 (And.intro cha11 cha12)))); have HNc := Lib.hid hN'; (first | (obtain ⟨z0, z1, z2⟩ := HLB.out.c; have zf := HLB.out.fz; have hlc := HLB.out.c.lt) | skip); clear hN hN'))
    all_goals
      have hTot := Lib.hid (below_more (below_more (below_more HDR.out HNa.out) HNb.out) HNc.out)
      go_wp2_with (fail)
      go_meet
      first
        | exact ⟨_, As, cs, Bs, ds, rfl, rfl, (by first | omega | (simp <;> omega)), HLB.out.put _ _ _, (HOx.out.put3 (by first | omega | (simp <;> omega))).mono (by first | omega | (simp <;> omega)), hTot.out.trans (set3_far _ _ _ _ _ (by first | omega | (simp <;> omega)) hTot.out.size)⟩
        | exact ⟨_, As, cs, Bs, ds, rfl, rfl, hTot.out.size, Bx.new _ _ _ _ _, (HOx.out.below (below_new _ _)).mono (by first | omega | (simp <;> omega)), below_more hTot.out (below_new _ _)⟩
  case rest =>
  obtain ⟨gBs, As, cs, Bs, ds, rfl, rfl, hgl, hbx, hO, hN⟩ := hcut
  obtain ⟨wb, rfl⟩ : ∃ wb : World, wb = wc := ⟨_, rfl⟩
  have lcs := hbx.lt
  have hn0 := hbx.1
  have hn1 := hbx.2.1
  have hn2 := hbx.2.2
  have hnl := hbx.lt
  clear hbx HAN
  have HOy := Lib.hid hO
  clear hO
  have hBw_5 := below_more hBw_4 hN
  clear hBw_4
  have hkN := keep_of_below hN
  have bxa00' := hkN.cell bxa00 (fun h => h)
  clear bxa00
  have bxa00 := bxa00'
  clear bxa00'
  have bxa01' := hkN.cell bxa01 (fun h => h)
  clear bxa01
  have bxa01 := bxa01'
  clear bxa01'
  have bxa02' := hkN.cell bxa02 (fun h => h)
  clear bxa02
  have bxa02 := bxa02'
  clear bxa02'
  have lba0' := Nat.lt_of_lt_of_le lba0 hN.size
  clear lba0
  have lba0 := lba0'
  clear lba0'
  have bxa10' := hkN.cell bxa10 (fun h => h)
  clear bxa10
  have bxa10 := bxa10'
  clear bxa10'
  have bxa11' := hkN.cell bxa11 (fun h => h)
  clear bxa11
  have bxa11 := bxa11'
  clear bxa11'
  have bxa12' := hkN.cell bxa12 (fun h => h)
  clear bxa12
  have bxa12 := bxa12'
  clear bxa12'
  have lba1' := Nat.lt_of_lt_of_le lba1 hN.size
  clear lba1
  have lba1 := lba1'
  clear lba1'
  clear hkN
  have hzwb := hN.size
  clear hN
  have bxs0 := hn0
  clear hn0
  have bxs1 := hn1
  clear hn1
  have bxs2 := hn2
  clear hn2
  have lbs := hnl
  clear hnl
  have hO := HOy.out
  clear HOy
  have HLs := Lib.hid (show ∀ g, recBlk (.agg #[.int .i64 RP, .slice As RT.length cs, .slice Bs RF.length ds]) g → _ from fun g hg => hO.lt g hg)
  have HRs := Lib.hid hO.rv
  have HOs := Lib.hid hO
  clear hO
  have hBwb_6 := Below.refl wb.heap.size wb
  go_wp2_with (fail)
  refine (toFrac _ p0 T0 F0 _ (H0.out.below hBw_5) hT0 hF0).mono ?_
  rintro e wx0 ⟨_, rfl, ⟨Ax0, cx0, Bx0, dx0, rfl, hO1, hO2, hO3⟩, hN⟩
  have hO : RO wx0 wb.heap.size (.agg #[.int .i64 p0, .slice Ax0 T0.length cx0, .slice Bx0 F0.length dx0]) p0 T0 F0 := ⟨Ax0, cx0, Bx0, dx0, rfl, hO1, hO2, hO3⟩
  clear hO1 hO2 hO3
  have hBw_7 := below_more hBw_5 hN
  clear hBw_5
  have hBwb_7 := below_more hBwb_6 hN
  clear hBwb_6
  have hkN := keep_of_below hN
  have bxa00' := hkN.cell bxa00 (fun h => h)
  clear bxa00
  have bxa00 := bxa00'
  clear bxa00'
  have bxa01' := hkN.cell bxa01 (fun h => h)
  clear bxa01
  have bxa01 := bxa01'
  clear bxa01'
  have bxa02' := hkN.cell bxa02 (fun h => h)
  clear bxa02
  have bxa02 := bxa02'
  clear bxa02'
  have lba0' := Nat.lt_of_lt_of_le lba0 hN.size
  clear lba0
  have lba0 := lba0'
  clear lba0'
  have bxa10' := hkN.cell bxa10 (fun h => h)
  clear bxa10
  have bxa10 := bxa10'
  clear bxa10'
  have bxa11' := hkN.cell bxa11 (fun h => h)
  clear bxa11
  have bxa11 := bxa11'
  clear bxa11'
  have bxa12' := hkN.cell bxa12 (fun h => h)
  clear bxa12
  have bxa12 := bxa12'
  clear bxa12'
  have lba1' := Nat.lt_of_lt_of_le lba1 hN.size
  clear lba1
  have lba1 := lba1'
  clear lba1'
  have bxs0' := hkN.cell bxs0 (fun h => h)
  clear bxs0
  have bxs0 := bxs0'
  clear bxs0'
  have bxs1' := hkN.cell bxs1 (fun h => h)
  clear bxs1
  have bxs1 := bxs1'
  clear bxs1'
  have bxs2' := hkN.cell bxs2 (fun h => h)
  clear bxs2
  have bxs2 := bxs2'
  clear bxs2'
  have lbs' := Nat.lt_of_lt_of_le lbs hN.size
  clear lbs
  have lbs := lbs'
  clear lbs'
  clear hkN
  have hzwx0 := hN.size
  clear hN
  have HLx0 := Lib.hid (show ∀ g, recBlk (.agg #[.int .i64 p0, .slice Ax0 T0.length cx0, .slice Bx0 F0.length dx0]) g → _ from fun g hg => hO.lt g hg)
  have HRx0 := Lib.hid hO.rv
  have HOx0 := Lib.hid hO
  clear hO
  have hBwx0_8 := Below.refl wx0.heap.size wx0
  go_wp2_with (fail)
  obtain ⟨wqx0, hQ⟩ : ∃ W, wx0.alloc (.cells #[.int .i64 p0, .slice Ax0 T0.length cx0, .slice Bx0 F0.length dx0] 26) = W := ⟨_, rfl⟩
  rw [hQ]
  have hN : Below wx0.heap.size wx0 wqx0 := by rw [← hQ]; exact (Below.refl _ _).alloc (Nat.le_refl _) _
  obtain ⟨hn0, hn1, hn2⟩ := box3 wx0 (.int .i64 p0) (.slice Ax0 T0.length cx0) (.slice Bx0 F0.length dx0) 26
  rw [hQ] at hn0 hn1 hn2
  have hnl : wx0.heap.size < wqx0.heap.size := cell_lt hn0
  have lcx0 := hnl
  clear hQ
  have hBw_9 := below_more hBw_7 hN
  clear hBw_7
  have hBwb_9 := below_more hBwb_7 hN
  clear hBwb_7
  have hBwx0_9 := below_more hBwx0_8 hN
  clear hBwx0_8
  have hkN := keep_of_below hN
  have bxa00' := hkN.cell bxa00 (fun h => h)
  clear bxa00
  have bxa00 := bxa00'
  clear bxa00'
  have bxa01' := hkN.cell bxa01 (fun h => h)
  clear bxa01
  have bxa01 := bxa01'
  clear bxa01'
  have bxa02' := hkN.cell bxa02 (fun h => h)
  clear bxa02
  have bxa02 := bxa02'
  clear bxa02'
  have lba0' := Nat.lt_of_lt_of_le lba0 hN.size
  clear lba0
  have lba0 := lba0'
  clear lba0'
  have bxa10' := hkN.cell bxa10 (fun h => h)
  clear bxa10
  have bxa10 := bxa10'
  clear bxa10'
  have bxa11' := hkN.cell bxa11 (fun h => h)
  clear bxa11
  have bxa11 := bxa11'
  clear bxa11'
  have bxa12' := hkN.cell bxa12 (fun h => h)
  clear bxa12
  have bxa12 := bxa12'
  clear bxa12'
  have lba1' := Nat.lt_of_lt_of_le lba1 hN.size
  clear lba1
  have lba1 := lba1'
  clear lba1'
  have bxs0' := hkN.cell bxs0 (fun h => h)
  clear bxs0
  have bxs0 := bxs0'
  clear bxs0'
  have bxs1' := hkN.cell bxs1 (fun h => h)
  clear bxs1
  have bxs1 := bxs1'
  clear bxs1'
  have bxs2' := hkN.cell bxs2 (fun h => h)
  clear bxs2
  have bxs2 := bxs2'
  clear bxs2'
  have lbs' := Nat.lt_of_lt_of_le lbs hN.size
  clear lbs
  have lbs := lbs'
  clear lbs'
  clear hkN
  have hzwqx0 := hN.size
  clear hN
  have bxx00 := hn0
  clear hn0
  have bxx01 := hn1
  clear hn1
  have bxx02 := hn2
  clear hn2
  have lbx0 := hnl
  clear hnl
  refine (toFrac _ p1 T1 F1 _ (H1.out.below hBw_9) hT1 hF1).mono ?_
  rintro e wx1 ⟨_, rfl, ⟨Ax1, cx1, Bx1, dx1, rfl, hO1, hO2, hO3⟩, hN⟩
  have hO : RO wx1 wqx0.heap.size (.agg #[.int .i64 p1, .slice Ax1 T1.length cx1, .slice Bx1 F1.length dx1]) p1 T1 F1 := ⟨Ax1, cx1, Bx1, dx1, rfl, hO1, hO2, hO3⟩
  clear hO1 hO2 hO3
  have hBw_10 := below_more hBw_9 hN
  clear hBw_9
  have hBwb_10 := below_more hBwb_9 hN
  clear hBwb_9
  have hBwx0_10 := below_more hBwx0_9 hN
  clear hBwx0_9
  have hkN := keep_of_below hN
  have bxa00' := hkN.cell bxa00 (fun h => h)
  clear bxa00
  have bxa00 := bxa00'
  clear bxa00'
  have bxa01' := hkN.cell bxa01 (fun h => h)
  clear bxa01
  have bxa01 := bxa01'
  clear bxa01'
  have bxa02' := hkN.cell bxa02 (fun h => h)
  clear bxa02
  have bxa02 := bxa02'
  clear bxa02'
  have lba0' := Nat.lt_of_lt_of_le lba0 hN.size
  clear lba0
  have lba0 := lba0'
  clear lba0'
  have bxa10' := hkN.cell bxa10 (fun h => h)
  clear bxa10
  have bxa10 := bxa10'
  clear bxa10'
  have bxa11' := hkN.cell bxa11 (fun h => h)
  clear bxa11
  have bxa11 := bxa11'
  clear bxa11'
  have bxa12' := hkN.cell bxa12 (fun h => h)
  clear bxa12
  have bxa12 := bxa12'
  clear bxa12'
  have lba1' := Nat.lt_of_lt_of_le lba1 hN.size
  clear lba1
  have lba1 := lba1'
  clear lba1'
  have bxs0' := hkN.cell bxs0 (fun h => h)
  clear bxs0
  have bxs0 := bxs0'
  clear bxs0'
  have bxs1' := hkN.cell bxs1 (fun h => h)
  clear bxs1
  have bxs1 := bxs1'
  clear bxs1'
  have bxs2' := hkN.cell bxs2 (fun h => h)
  clear bxs2
  have bxs2 := bxs2'
  clear bxs2'
  have lbs' := Nat.lt_of_lt_of_le lbs hN.size
  clear lbs
  have lbs := lbs'
  clear lbs'
  have bxx00' := hkN.cell bxx00 (fun h => h)
  clear bxx00
  have bxx00 := bxx00'
  clear bxx00'
  have bxx01' := hkN.cell bxx01 (fun h => h)
  clear bxx01
  have bxx01 := bxx01'
  clear bxx01'
  have bxx02' := hkN.cell bxx02 (fun h => h)
  clear bxx02
  have bxx02 := bxx02'
  clear bxx02'
  have lbx0' := Nat.lt_of_lt_of_le lbx0 hN.size
  clear lbx0
  have lbx0 := lbx0'
  clear lbx0'
  clear hkN
  have hzwx1 := hN.size
  clear hN
  have HLx1 := Lib.hid (show ∀ g, recBlk (.agg #[.int .i64 p1, .slice Ax1 T1.length cx1, .slice Bx1 F1.length dx1]) g → _ from fun g hg => hO.lt g hg)
  have HRx1 := Lib.hid hO.rv
  have HOx1 := Lib.hid hO
  clear hO
  have hBwx1_11 := Below.refl wx1.heap.size wx1
  go_wp2_with (fail)
  obtain ⟨wqx1, hQ⟩ : ∃ W, wx1.alloc (.cells #[.int .i64 p1, .slice Ax1 T1.length cx1, .slice Bx1 F1.length dx1] 26) = W := ⟨_, rfl⟩
  rw [hQ]
  have hN : Below wx1.heap.size wx1 wqx1 := by rw [← hQ]; exact (Below.refl _ _).alloc (Nat.le_refl _) _
  obtain ⟨hn0, hn1, hn2⟩ := box3 wx1 (.int .i64 p1) (.slice Ax1 T1.length cx1) (.slice Bx1 F1.length dx1) 26
  rw [hQ] at hn0 hn1 hn2
  have hnl : wx1.heap.size < wqx1.heap.size := cell_lt hn0
  have lcx1 := hnl
  clear hQ
  have hBw_12 := below_more hBw_10 hN
  clear hBw_10
  have hBwb_12 := below_more hBwb_10 hN
  clear hBwb_10
  have hBwx0_12 := below_more hBwx0_10 hN
  clear hBwx0_10
  have hBwx1_12 := below_more hBwx1_11 hN
  clear hBwx1_11
  have hkN := keep_of_below hN
  have bxa00' := hkN.cell bxa00 (fun h => h)
  clear bxa00
  have bxa00 := bxa00'
  clear bxa00'
  have bxa01' := hkN.cell bxa01 (fun h => h)
  clear bxa01
  have bxa01 := bxa01'
  clear bxa01'
  have bxa02' := hkN.cell bxa02 (fun h => h)
  clear bxa02
  have bxa02 := bxa02'
  clear bxa02'
  have lba0' := Nat.lt_of_lt_of_le lba0 hN.size
  clear lba0
  have lba0 := lba0'
  clear lba0'
  have bxa10' := hkN.cell bxa10 (fun h => h)
  clear bxa10
  have bxa10 := bxa10'
  clear bxa10'
  have bxa11' := hkN.cell bxa11 (fun h => h)
  clear bxa11
  have bxa11 := bxa11'
  clear bxa11'
  have bxa12' := hkN.cell bxa12 (fun h => h)
  clear bxa12
  have bxa12 := bxa12'
  clear bxa12'
  have lba1' := Nat.lt_of_lt_of_le lba1 hN.size
  clear lba1
  have lba1 := lba1'
  clear lba1'
  have bxs0' := hkN.cell bxs0 (fun h => h)
  clear bxs0
  have bxs0 := bxs0'
  clear bxs0'
  have bxs1' := hkN.cell bxs1 (fun h => h)
  clear bxs1
  have bxs1 := bxs1'
  clear bxs1'
  have bxs2' := hkN.cell bxs2 (fun h => h)
  clear bxs2
  have bxs2 := bxs2'
  clear bxs2'
  have lbs' := Nat.lt_of_lt_of_le lbs hN.size
  clear lbs
  have lbs := lbs'
  clear lbs'
  have bxx00' := hkN.cell bxx00 (fun h => h)
  clear bxx00
  have bxx00 := bxx00'
  clear bxx00'
  have bxx01' := hkN.cell bxx01 (fun h => h)
  clear bxx01
  have bxx01 := bxx01'
  clear bxx01'
  have bxx02' := hkN.cell bxx02 (fun h => h)
  clear bxx02
  have bxx02 := bxx02'
  clear bxx02'
  have lbx0' := Nat.lt_of_lt_of_le lbx0 hN.size
  clear lbx0
  have lbx0 := lbx0'
  clear lbx0'
  clear hkN
  have hzwqx1 := hN.size
  clear hN
  have bxx10 := hn0
  clear hn0
  have bxx11 := hn1
  clear hn1
  have bxx12 := hn2
  clear hn2
  have lbx1 := hnl
  clear hnl
  refine (implFracAdd _ p0 T0 F0 _ p1 T1 F1 _ (HRx0.out.below hBwx0_12) (HRx1.out.below hBwx1_12) ge (HGE.out.below hBw_12)).mono ?_
  rw [HRV.out]
  unfold MadeRB
  rw [HRB.out]
  rintro e wd ⟨_, rfl, hO0, hN⟩
  rw [HRP.out, HRT.out, HRF.out] at hO0
  obtain ⟨Ag, cg, Bg, dg, rfl, hO1, hO2, hO3⟩ := hO0
  have hO : RO wd wqx1.heap.size (.agg #[.int .i64 RP, .slice Ag RT.length cg, .slice Bg RF.length dg]) RP RT RF := ⟨Ag, cg, Bg, dg, rfl, hO1, hO2, hO3⟩
  clear hO1 hO2 hO3
  have hBw_13 := below_more hBw_12 hN
  clear hBw_12
  have hBwb_13 := below_more hBwb_12 hN
  clear hBwb_12
  have hBwx0_13 := below_more hBwx0_12 hN
  clear hBwx0_12
  have hBwx1_13 := below_more hBwx1_12 hN
  clear hBwx1_12
  have hkN := keep_of_below hN
  have bxa00' := hkN.cell bxa00 (fun h => h)
  clear bxa00
  have bxa00 := bxa00'
  clear bxa00'
  have bxa01' := hkN.cell bxa01 (fun h => h)
  clear bxa01
  have bxa01 := bxa01'
  clear bxa01'
  have bxa02' := hkN.cell bxa02 (fun h => h)
  clear bxa02
  have bxa02 := bxa02'
  clear bxa02'
  have lba0' := Nat.lt_of_lt_of_le lba0 hN.size
  clear lba0
  have lba0 := lba0'
  clear lba0'
  have bxa10' := hkN.cell bxa10 (fun h => h)
  clear bxa10
  have bxa10 := bxa10'
  clear bxa10'
  have bxa11' := hkN.cell bxa11 (fun h => h)
  clear bxa11
  have bxa11 := bxa11'
  clear bxa11'
  have bxa12' := hkN.cell bxa12 (fun h => h)
  clear bxa12
  have bxa12 := bxa12'
  clear bxa12'
  have lba1' := Nat.lt_of_lt_of_le lba1 hN.size
  clear lba1
  have lba1 := lba1'
  clear lba1'
  have bxs0' := hkN.cell bxs0 (fun h => h)
  clear bxs0
  have bxs0 := bxs0'
  clear bxs0'
  have bxs1' := hkN.cell bxs1 (fun h => h)
  clear bxs1
  have bxs1 := bxs1'
  clear bxs1'
  have bxs2' := hkN.cell bxs2 (fun h => h)
  clear bxs2
  have bxs2 := bxs2'
  clear bxs2'
  have lbs' := Nat.lt_of_lt_of_le lbs hN.size
  clear lbs
  have lbs := lbs'
  clear lbs'
  have bxx00' := hkN.cell bxx00 (fun h => h)
  clear bxx00
  have bxx00 := bxx00'
  clear bxx00'
  have bxx01' := hkN.cell bxx01 (fun h => h)
  clear bxx01
  have bxx01 := bxx01'
  clear bxx01'
  have bxx02' := hkN.cell bxx02 (fun h => h)
  clear bxx02
  have bxx02 := bxx02'
  clear bxx02'
  have lbx0' := Nat.lt_of_lt_of_le lbx0 hN.size
  clear lbx0
  have lbx0 := lbx0'
  clear lbx0'
  have bxx10' := hkN.cell bxx10 (fun h => h)
  clear bxx10
  have bxx10 := bxx10'
  clear bxx10'
  have bxx11' := hkN.cell bxx11 (fun h => h)
  clear bxx11
  have bxx11 := bxx11'
  clear bxx11'
  have bxx12' := hkN.cell bxx12 (fun h => h)
  clear bxx12
  have bxx12 := bxx12'
  clear bxx12'
  have lbx1' := Nat.lt_of_lt_of_le lbx1 hN.size
  clear lbx1
  have lbx1 := lbx1'
  clear lbx1'
  clear hkN
  have hzwd := hN.size
  clear hN
  have HLg := Lib.hid (show ∀ g, recBlk (.agg #[.int .i64 RP, .slice Ag RT.length cg, .slice Bg RF.length dg]) g → _ from fun g hg => hO.lt g hg)
  have HRg := Lib.hid hO.rv
  have HOg := Lib.hid hO
  clear hO
  have hBwd_14 := Below.refl wd.heap.size wd
  go_wp2_with (fail)
  obtain ⟨wqg, hQ⟩ : ∃ W, wd.alloc (.cells #[.int .i64 RP, .slice Ag RT.length cg, .slice Bg RF.length dg] 26) = W := ⟨_, rfl⟩
  rw [hQ]
  have hN : Below wd.heap.size wd wqg := by rw [← hQ]; exact (Below.refl _ _).alloc (Nat.le_refl _) _
  obtain ⟨hn0, hn1, hn2⟩ := box3 wd (.int .i64 RP) (.slice Ag RT.length cg) (.slice Bg RF.length dg) 26
  rw [hQ] at hn0 hn1 hn2
  have hnl : wd.heap.size < wqg.heap.size := cell_lt hn0
  have lcg := hnl
  clear hQ
  have hBw_15 := below_more hBw_13 hN
  clear hBw_13
  have hBwb_15 := below_more hBwb_13 hN
  clear hBwb_13
  have hBwx0_15 := below_more hBwx0_13 hN
  clear hBwx0_13
  have hBwx1_15 := below_more hBwx1_13 hN
  clear hBwx1_13
  have hBwd_15 := below_more hBwd_14 hN
  clear hBwd_14
  have hkN := keep_of_below hN
  have bxa00' := hkN.cell bxa00 (fun h => h)
  clear bxa00
  have bxa00 := bxa00'
  clear bxa00'
  have bxa01' := hkN.cell bxa01 (fun h => h)
  clear bxa01
  have bxa01 := bxa01'
  clear bxa01'
  have bxa02' := hkN.cell bxa02 (fun h => h)
  clear bxa02
  have bxa02 := bxa02'
  clear bxa02'
  have lba0' := Nat.lt_of_lt_of_le lba0 hN.size
  clear lba0
  have lba0 := lba0'
  clear lba0'
  have bxa10' := hkN.cell bxa10 (fun h => h)
  clear bxa10
  have bxa10 := bxa10'
  clear bxa10'
  have bxa11' := hkN.cell bxa11 (fun h => h)
  clear bxa11
  have bxa11 := bxa11'
  clear bxa11'
  have bxa12' := hkN.cell bxa12 (fun h => h)
  clear bxa12
  have bxa12 := bxa12'
  clear bxa12'
  have lba1' := Nat.lt_of_lt_of_le lba1 hN.size
  clear lba1
  have lba1 := lba1'
  clear lba1'
  have bxs0' := hkN.cell bxs0 (fun h => h)
  clear bxs0
  have bxs0 := bxs0'
  clear bxs0'
  have bxs1' := hkN.cell bxs1 (fun h => h)
  clear bxs1
  have bxs1 := bxs1'
  clear bxs1'
  have bxs2' := hkN.cell bxs2 (fun h => h)
  clear bxs2
  have bxs2 := bxs2'
  clear bxs2'
  have lbs' := Nat.lt_of_lt_of_le lbs hN.size
  clear lbs
  have lbs := lbs'
  clear lbs'
  have bxx00' := hkN.cell bxx00 (fun h => h)
  clear bxx00
  have bxx00 := bxx00'
  clear bxx00'
  have bxx01' := hkN.cell bxx01 (fun h => h)
  clear bxx01
  have bxx01 := bxx01'
  clear bxx01'
  have bxx02' := hkN.cell bxx02 (fun h => h)
  clear bxx02
  have bxx02 := bxx02'
  clear bxx02'
  have lbx0' := Nat.lt_of_lt_of_le lbx0 hN.size
  clear lbx0
  have lbx0 := lbx0'
  clear lbx0'
  have bxx10' := hkN.cell bxx10 (fun h => h)
  clear bxx10
  have bxx10 := bxx10'
  clear bxx10'
  have bxx11' := hkN.cell bxx11 (fun h => h)
  clear bxx11
  have bxx11 := bxx11'
  clear bxx11'
  have bxx12' := hkN.cell bxx12 (fun h => h)
  clear bxx12
  have bxx12 := bxx12'
  clear bxx12'
  have lbx1' := Nat.lt_of_lt_of_le lbx1 hN.size
  clear lbx1
  have lbx1 := lbx1'
  clear lbx1'
  clear hkN
  have hzwqg := hN.size
  clear hN
  have bxg0 := hn0
  clear hn0
  have bxg1 := hn1
  clear hn1
  have bxg2 := hn2
  clear hn2
  have lbg := hnl
  clear hnl
  refine (eqFrac _ RP RT RF _ RP RT RF _ (HRg.out.below hBwd_15) (HRs.out.below hBwb_15)).mono ?_
  rintro e we16 ⟨rfl, hN⟩
  rw [decide_eq_true (show RP = RP ∧ RT = RT ∧ RF = RF from ⟨rfl, rfl, rfl⟩)]
  have hBw_17 := below_more hBw_15 hN
  clear hBw_15
  have hBwb_17 := below_more hBwb_15 hN
  clear hBwb_15
  have hBwx0_17 := below_more hBwx0_15 hN
  clear hBwx0_15
  have hBwx1_17 := below_more hBwx1_15 hN
  clear hBwx1_15
  have hBwd_17 := below_more hBwd_15 hN
  clear hBwd_15
  have hkN := keep_of_below hN
  have bxa00' := hkN.cell bxa00 (fun h => h)
  clear bxa00
  have bxa00 := bxa00'
  clear bxa00'
  have bxa01' := hkN.cell bxa01 (fun h => h)
  clear bxa01
  have bxa01 := bxa01'
  clear bxa01'
  have bxa02' := hkN.cell bxa02 (fun h => h)
  clear bxa02
  have bxa02 := bxa02'
  clear bxa02'
  have lba0' := Nat.lt_of_lt_of_le lba0 hN.size
  clear lba0
  have lba0 := lba0'
  clear lba0'
  have bxa10' := hkN.cell bxa10 (fun h => h)
  clear bxa10
  have bxa10 := bxa10'
  clear bxa10'
  have bxa11' := hkN.cell bxa11 (fun h => h)
  clear bxa11
  have bxa11 := bxa11'
  clear bxa11'
  have bxa12' := hkN.cell bxa12 (fun h => h)
  clear bxa12
  have bxa12 := bxa12'
  clear bxa12'
  have lba1' := Nat.lt_of_lt_of_le lba1 hN.size
  clear lba1
  have lba1 := lba1'
  clear lba1'
  have bxs0' := hkN.cell bxs0 (fun h => h)
  clear bxs0
  have bxs0 := bxs0'
  clear bxs0'
  have bxs1' := hkN.cell bxs1 (fun h => h)
  clear bxs1
  have bxs1 := bxs1'
  clear bxs1'
  have bxs2' := hkN.cell bxs2 (fun h => h)
  clear bxs2
  have bxs2 := bxs2'
  clear bxs2'
  have lbs' := Nat.lt_of_lt_of_le lbs hN.size
  clear lbs
  have lbs := lbs'
  clear lbs'
  have bxx00' := hkN.cell bxx00 (fun h => h)
  clear bxx00
  have bxx00 := bxx00'
  clear bxx00'
  have bxx01' := hkN.cell bxx01 (fun h => h)
  clear bxx01
  have bxx01 := bxx01'
  clear bxx01'
  have bxx02' := hkN.cell bxx02 (fun h => h)
  clear bxx02
  have bxx02 := bxx02'
  clear bxx02'
  have lbx0' := Nat.lt_of_lt_of_le lbx0 hN.size
  clear lbx0
  have lbx0 := lbx0'
  clear lbx0'
  have bxx10' := hkN.cell bxx10 (fun h => h)
  clear bxx10
  have bxx10 := bxx10'
  clear bxx10'
  have bxx11' := hkN.cell bxx11 (fun h => h)
  clear bxx11
  have bxx11 := bxx11'
  clear bxx11'
  have bxx12' := hkN.cell bxx12 (fun h => h)
  clear bxx12
  have bxx12 := bxx12'
  clear bxx12'
  have lbx1' := Nat.lt_of_lt_of_le lbx1 hN.size
  clear lbx1
  have lbx1 := lbx1'
  clear lbx1'
  have bxg0' := hkN.cell bxg0 (fun h => h)
  clear bxg0
  have bxg0 := bxg0'
  clear bxg0'
  have bxg1' := hkN.cell bxg1 (fun h => h)
  clear bxg1
  have bxg1 := bxg1'
  clear bxg1'
  have bxg2' := hkN.cell bxg2 (fun h => h)
  clear bxg2
  have bxg2 := bxg2'
  clear bxg2'
  have lbg' := Nat.lt_of_lt_of_le lbg hN.size
  clear lbg
  have lbg := lbg'
  clear lbg'
  clear hkN
  have hzwe16 := hN.size
  clear hN
  go_wp2_with (fail)
  have cdx00 : we16.drew.cell? ⟨wx0.heap.size, 0, none⟩ = some (.int .i64 p0) := bxx00
  have cdx01 : we16.drew.cell? ⟨wx0.heap.size, 1, none⟩ = some (.slice Ax0 T0.length cx0) := bxx01
  have cdx02 : we16.drew.cell? ⟨wx0.heap.size, 2, none⟩ = some (.slice Bx0 F0.length dx0) := bxx02
  have cda00 : we16.drew.cell? ⟨w.heap.size, 0, none⟩ = some (.int .i64 p0) := bxa00
  have cda01 : we16.drew.cell? ⟨w.heap.size, 1, none⟩ = some (.slice Aa0 na0 ca0) := bxa01
  have cda02 : we16.drew.cell? ⟨w.heap.size, 2, none⟩ = some (.slice Ba0 ma0 da0) := bxa02
  have ZA : we16.cell? ⟨wx0.heap.size, 0, none⟩ = some (.int .i64 p0) ∧ we16.cell? ⟨wx0.heap.size, 1, none⟩ = some (.slice Ax0 T0.length cx0) ∧ we16.cell? ⟨wx0.heap.size, 2, none⟩ = some (.slice Bx0 F0.length dx0) ∧ we16.cell? ⟨w.heap.size, 0, none⟩ = some (.int .i64 p0) ∧ we16.cell? ⟨w.heap.size, 1, none⟩ = some (.slice Aa0 na0 ca0) ∧ we16.cell? ⟨w.heap.size, 2, none⟩ = some (.slice Ba0 ma0 da0) := ⟨bxx00, bxx01, bxx02, bxa00, bxa01, bxa02⟩
  have ZB : we16.drew.cell? ⟨wx0.heap.size, 0, none⟩ = some (.int .i64 p0) ∧ we16.drew.cell? ⟨wx0.heap.size, 1, none⟩ = some (.slice Ax0 T0.length cx0) ∧ we16.drew.cell? ⟨wx0.heap.size, 2, none⟩ = some (.slice Bx0 F0.length dx0) ∧ we16.drew.cell? ⟨w.heap.size, 0, none⟩ = some (.int .i64 p0) ∧ we16.drew.cell? ⟨w.heap.size, 1, none⟩ = some (.slice Aa0 na0 ca0) ∧ we16.drew.cell? ⟨w.heap.size, 2, none⟩ = some (.slice Ba0 ma0 da0) := ⟨cdx00, cdx01, cdx02, cda00, cda01, cda02⟩
  have hdr : Below we16.heap.size we16 we16.drew := below_drawn (Below.refl _ _) ⟨1, rfl⟩
  have HBd := Lib.hid (below_more hBw_17 hdr)
  have HRxd := Lib.hid ((HRx0.out.below hBwx0_17).below hdr)
  have HDR := Lib.hid hdr
  clear hdr
  go_region_held3 (fun w' => w'.cell? ⟨wx0.heap.size, 0, none⟩ = some (.int .i64 p0) ∧ w'.cell? ⟨wx0.heap.size, 1, none⟩ = some (.slice Ax0 T0.length cx0) ∧ w'.cell? ⟨wx0.heap.size, 2, none⟩ = some (.slice Bx0 F0.length dx0) ∧ w'.cell? ⟨w.heap.size, 0, none⟩ = some (.int .i64 p0) ∧ w'.cell? ⟨w.heap.size, 1, none⟩ = some (.slice Aa0 na0 ca0) ∧ w'.cell? ⟨w.heap.size, 2, none⟩ = some (.slice Ba0 ma0 da0)) (first | assumption | exact ZD | exact ZC | exact ZB | exact ZA | go_keep) (first | (go_at_call 7; refine (toFrac _ p0 T0 F0 _ (H0.out.below HBd.out) hT0 hF0).mono ?_; rintro e wf0 ⟨_, rfl, ⟨Af0, cf0, Bf0, df0, rfl, hO1, hO2, hO3⟩, hN⟩; have hO : RO wf0 we16.drew.heap.size (.agg #[.int .i64 p0, .slice Af0 T0.length cf0, .slice Bf0 F0.length df0]) p0 T0 F0 := ⟨Af0, cf0, Bf0, df0, rfl, hO1, hO2, hO3⟩; have HRf0 := Lib.hid hO.rv; have HRxe := Lib.hid (HRxd.out.below hN); have cex00 := (keep_of_below hN).cell cdx00 (fun h => h); have cex01 := (keep_of_below hN).cell cdx01 (fun h => h); have cex02 := (keep_of_below hN).cell cdx02 (fun h => h); have cea00 := (keep_of_below hN).cell cda00 (fun h => h); have cea01 := (keep_of_below hN).cell cda01 (fun h => h); have cea02 := (keep_of_below hN).cell cda02 (fun h => h); have ZC := And.intro cex00 (And.intro cex01 (And.intro cex02 (And.intro cea00 (And.intro cea01 cea02)))); have HNf := Lib.hid hN; clear hO hO1 hO2 hO3 hN) | (go_at_call 9; refine (eqFrac _ p0 T0 F0 _ p0 T0 F0 _ HRxe.out HRf0.out).mono ?_; rintro e we18 ⟨rfl, hN⟩; rw [decide_eq_true (show p0 = p0 ∧ T0 = T0 ∧ F0 = F0 from ⟨rfl, rfl, rfl⟩)]; have cgx00 := (keep_of_below hN).cell cex00 (fun h => h); have cgx01 := (keep_of_below hN).cell cex01 (fun h => h); have cgx02 := (keep_of_below hN).cell cex02 (fun h => h); have cga00 := (keep_of_below hN).cell cea00 (fun h => h); have cga01 := (keep_of_below hN).cell cea01 (fun h => h); have cga02 := (keep_of_below hN).cell cea02 (fun h => h); have ZD := And.intro cgx00 (And.intro cgx01 (And.intro cgx02 (And.intro cga00 (And.intro cga01 cga02)))); have HNe := Lib.hid hN; clear hN))
  have hN : Below we16.heap.size we16 we18 := below_more (below_more HDR.out HNf.out) HNe.out
  clear ZA ZB ZC ZD HBd HRxd HRxe HDR HNf HNe HRf0
  clear cdx00 cdx01 cdx02 cda00 cda01 cda02 cex00 cex01 cex02 cea00 cea01 cea02 cgx00 cgx01 cgx02 cga00 cga01 cga02
  have hBw_19 := below_more hBw_17 hN
  clear hBw_17
  have hBwb_19 := below_more hBwb_17 hN
  clear hBwb_17
  have hBwx0_19 := below_more hBwx0_17 hN
  clear hBwx0_17
  have hBwx1_19 := below_more hBwx1_17 hN
  clear hBwx1_17
  have hBwd_19 := below_more hBwd_17 hN
  clear hBwd_17
  have hkN := keep_of_below hN
  have bxa00' := hkN.cell bxa00 (fun h => h)
  clear bxa00
  have bxa00 := bxa00'
  clear bxa00'
  have bxa01' := hkN.cell bxa01 (fun h => h)
  clear bxa01
  have bxa01 := bxa01'
  clear bxa01'
  have bxa02' := hkN.cell bxa02 (fun h => h)
  clear bxa02
  have bxa02 := bxa02'
  clear bxa02'
  have lba0' := Nat.lt_of_lt_of_le lba0 hN.size
  clear lba0
  have lba0 := lba0'
  clear lba0'
  have bxa10' := hkN.cell bxa10 (fun h => h)
  clear bxa10
  have bxa10 := bxa10'
  clear bxa10'
  have bxa11' := hkN.cell bxa11 (fun h => h)
  clear bxa11
  have bxa11 := bxa11'
  clear bxa11'
  have bxa12' := hkN.cell bxa12 (fun h => h)
  clear bxa12
  have bxa12 := bxa12'
  clear bxa12'
  have lba1' := Nat.lt_of_lt_of_le lba1 hN.size
  clear lba1
  have lba1 := lba1'
  clear lba1'
  have bxs0' := hkN.cell bxs0 (fun h => h)
  clear bxs0
  have bxs0 := bxs0'
  clear bxs0'
  have bxs1' := hkN.cell bxs1 (fun h => h)
  clear bxs1
  have bxs1 := bxs1'
  clear bxs1'
  have bxs2' := hkN.cell bxs2 (fun h => h)
  clear bxs2
  have bxs2 := bxs2'
  clear bxs2'
  have lbs' := Nat.lt_of_lt_of_le lbs hN.size
  clear lbs
  have lbs := lbs'
  clear lbs'
  have bxx00' := hkN.cell bxx00 (fun h => h)
  clear bxx00
  have bxx00 := bxx00'
  clear bxx00'
  have bxx01' := hkN.cell bxx01 (fun h => h)
  clear bxx01
  have bxx01 := bxx01'
  clear bxx01'
  have bxx02' := hkN.cell bxx02 (fun h => h)
  clear bxx02
  have bxx02 := bxx02'
  clear bxx02'
  have lbx0' := Nat.lt_of_lt_of_le lbx0 hN.size
  clear lbx0
  have lbx0 := lbx0'
  clear lbx0'
  have bxx10' := hkN.cell bxx10 (fun h => h)
  clear bxx10
  have bxx10 := bxx10'
  clear bxx10'
  have bxx11' := hkN.cell bxx11 (fun h => h)
  clear bxx11
  have bxx11 := bxx11'
  clear bxx11'
  have bxx12' := hkN.cell bxx12 (fun h => h)
  clear bxx12
  have bxx12 := bxx12'
  clear bxx12'
  have lbx1' := Nat.lt_of_lt_of_le lbx1 hN.size
  clear lbx1
  have lbx1 := lbx1'
  clear lbx1'
  have bxg0' := hkN.cell bxg0 (fun h => h)
  clear bxg0
  have bxg0 := bxg0'
  clear bxg0'
  have bxg1' := hkN.cell bxg1 (fun h => h)
  clear bxg1
  have bxg1 := bxg1'
  clear bxg1'
  have bxg2' := hkN.cell bxg2 (fun h => h)
  clear bxg2
  have bxg2 := bxg2'
  clear bxg2'
  have lbg' := Nat.lt_of_lt_of_le lbg hN.size
  clear lbg
  have lbg := lbg'
  clear lbg'
  clear hkN
  have hzwe18 := hN.size
  clear hN
  go_wp2_with (fail)
  have cdx10 : we18.drew.cell? ⟨wx1.heap.size, 0, none⟩ = some (.int .i64 p1) := bxx10
  have cdx11 : we18.drew.cell? ⟨wx1.heap.size, 1, none⟩ = some (.slice Ax1 T1.length cx1) := bxx11
  have cdx12 : we18.drew.cell? ⟨wx1.heap.size, 2, none⟩ = some (.slice Bx1 F1.length dx1) := bxx12
  have cda10 : we18.drew.cell? ⟨w.heap.size + 1, 0, none⟩ = some (.int .i64 p1) := bxa10
  have cda11 : we18.drew.cell? ⟨w.heap.size + 1, 1, none⟩ = some (.slice Aa1 na1 ca1) := bxa11
  have cda12 : we18.drew.cell? ⟨w.heap.size + 1, 2, none⟩ = some (.slice Ba1 ma1 da1) := bxa12
  have ZA : we18.cell? ⟨wx1.heap.size, 0, none⟩ = some (.int .i64 p1) ∧ we18.cell? ⟨wx1.heap.size, 1, none⟩ = some (.slice Ax1 T1.length cx1) ∧ we18.cell? ⟨wx1.heap.size, 2, none⟩ = some (.slice Bx1 F1.length dx1) ∧ we18.cell? ⟨w.heap.size + 1, 0, none⟩ = some (.int .i64 p1) ∧ we18.cell? ⟨w.heap.size + 1, 1, none⟩ = some (.slice Aa1 na1 ca1) ∧ we18.cell? ⟨w.heap.size + 1, 2, none⟩ = some (.slice Ba1 ma1 da1) := ⟨bxx10, bxx11, bxx12, bxa10, bxa11, bxa12⟩
  have ZB : we18.drew.cell? ⟨wx1.heap.size, 0, none⟩ = some (.int .i64 p1) ∧ we18.drew.cell? ⟨wx1.heap.size, 1, none⟩ = some (.slice Ax1 T1.length cx1) ∧ we18.drew.cell? ⟨wx1.heap.size, 2, none⟩ = some (.slice Bx1 F1.length dx1) ∧ we18.drew.cell? ⟨w.heap.size + 1, 0, none⟩ = some (.int .i64 p1) ∧ we18.drew.cell? ⟨w.heap.size + 1, 1, none⟩ = some (.slice Aa1 na1 ca1) ∧ we18.drew.cell? ⟨w.heap.size + 1, 2, none⟩ = some (.slice Ba1 ma1 da1) := ⟨cdx10, cdx11, cdx12, cda10, cda11, cda12⟩
  have hdr : Below we18.heap.size we18 we18.drew := below_drawn (Below.refl _ _) ⟨1, rfl⟩
  have HBd := Lib.hid (below_more hBw_19 hdr)
  have HRxd := Lib.hid ((HRx1.out.below hBwx1_19).below hdr)
  have HDR := Lib.hid hdr
  clear hdr
  go_region_held3 (fun w' => w'.cell? ⟨wx1.heap.size, 0, none⟩ = some (.int .i64 p1) ∧ w'.cell? ⟨wx1.heap.size, 1, none⟩ = some (.slice Ax1 T1.length cx1) ∧ w'.cell? ⟨wx1.heap.size, 2, none⟩ = some (.slice Bx1 F1.length dx1) ∧ w'.cell? ⟨w.heap.size + 1, 0, none⟩ = some (.int .i64 p1) ∧ w'.cell? ⟨w.heap.size + 1, 1, none⟩ = some (.slice Aa1 na1 ca1) ∧ w'.cell? ⟨w.heap.size + 1, 2, none⟩ = some (.slice Ba1 ma1 da1)) (first | assumption | exact ZD | exact ZC | exact ZB | exact ZA | go_keep) (first | (go_at_call 7; refine (toFrac _ p1 T1 F1 _ (H1.out.below HBd.out) hT1 hF1).mono ?_; rintro e wf1 ⟨_, rfl, ⟨Af1, cf1, Bf1, df1, rfl, hO1, hO2, hO3⟩, hN⟩; have hO : RO wf1 we18.drew.heap.size (.agg #[.int .i64 p1, .slice Af1 T1.length cf1, .slice Bf1 F1.length df1]) p1 T1 F1 := ⟨Af1, cf1, Bf1, df1, rfl, hO1, hO2, hO3⟩; have HRf1 := Lib.hid hO.rv; have HRxe := Lib.hid (HRxd.out.below hN); have cex10 := (keep_of_below hN).cell cdx10 (fun h => h); have cex11 := (keep_of_below hN).cell cdx11 (fun h => h); have cex12 := (keep_of_below hN).cell cdx12 (fun h => h); have cea10 := (keep_of_below hN).cell cda10 (fun h => h); have cea11 := (keep_of_below hN).cell cda11 (fun h => h); have cea12 := (keep_of_below hN).cell cda12 (fun h => h); have ZC := And.intro cex10 (And.intro cex11 (And.intro cex12 (And.intro cea10 (And.intro cea11 cea12)))); have HNf := Lib.hid hN; clear hO hO1 hO2 hO3 hN) | (go_at_call 9; refine (eqFrac _ p1 T1 F1 _ p1 T1 F1 _ HRxe.out HRf1.out).mono ?_; rintro e we20 ⟨rfl, hN⟩; rw [decide_eq_true (show p1 = p1 ∧ T1 = T1 ∧ F1 = F1 from ⟨rfl, rfl, rfl⟩)]; have cgx10 := (keep_of_below hN).cell cex10 (fun h => h); have cgx11 := (keep_of_below hN).cell cex11 (fun h => h); have cgx12 := (keep_of_below hN).cell cex12 (fun h => h); have cga10 := (keep_of_below hN).cell cea10 (fun h => h); have cga11 := (keep_of_below hN).cell cea11 (fun h => h); have cga12 := (keep_of_below hN).cell cea12 (fun h => h); have ZD := And.intro cgx10 (And.intro cgx11 (And.intro cgx12 (And.intro cga10 (And.intro cga11 cga12)))); have HNe := Lib.hid hN; clear hN))
  have hN : Below we18.heap.size we18 we20 := below_more (below_more HDR.out HNf.out) HNe.out
  clear ZA ZB ZC ZD HBd HRxd HRxe HDR HNf HNe HRf1
  clear cdx10 cdx11 cdx12 cda10 cda11 cda12 cex10 cex11 cex12 cea10 cea11 cea12 cgx10 cgx11 cgx12 cga10 cga11 cga12
  have hBw_21 := below_more hBw_19 hN
  clear hBw_19
  have hBwb_21 := below_more hBwb_19 hN
  clear hBwb_19
  have hBwx0_21 := below_more hBwx0_19 hN
  clear hBwx0_19
  have hBwx1_21 := below_more hBwx1_19 hN
  clear hBwx1_19
  have hBwd_21 := below_more hBwd_19 hN
  clear hBwd_19
  have hkN := keep_of_below hN
  have bxa00' := hkN.cell bxa00 (fun h => h)
  clear bxa00
  have bxa00 := bxa00'
  clear bxa00'
  have bxa01' := hkN.cell bxa01 (fun h => h)
  clear bxa01
  have bxa01 := bxa01'
  clear bxa01'
  have bxa02' := hkN.cell bxa02 (fun h => h)
  clear bxa02
  have bxa02 := bxa02'
  clear bxa02'
  have lba0' := Nat.lt_of_lt_of_le lba0 hN.size
  clear lba0
  have lba0 := lba0'
  clear lba0'
  have bxa10' := hkN.cell bxa10 (fun h => h)
  clear bxa10
  have bxa10 := bxa10'
  clear bxa10'
  have bxa11' := hkN.cell bxa11 (fun h => h)
  clear bxa11
  have bxa11 := bxa11'
  clear bxa11'
  have bxa12' := hkN.cell bxa12 (fun h => h)
  clear bxa12
  have bxa12 := bxa12'
  clear bxa12'
  have lba1' := Nat.lt_of_lt_of_le lba1 hN.size
  clear lba1
  have lba1 := lba1'
  clear lba1'
  have bxs0' := hkN.cell bxs0 (fun h => h)
  clear bxs0
  have bxs0 := bxs0'
  clear bxs0'
  have bxs1' := hkN.cell bxs1 (fun h => h)
  clear bxs1
  have bxs1 := bxs1'
  clear bxs1'
  have bxs2' := hkN.cell bxs2 (fun h => h)
  clear bxs2
  have bxs2 := bxs2'
  clear bxs2'
  have lbs' := Nat.lt_of_lt_of_le lbs hN.size
  clear lbs
  have lbs := lbs'
  clear lbs'
  have bxx00' := hkN.cell bxx00 (fun h => h)
  clear bxx00
  have bxx00 := bxx00'
  clear bxx00'
  have bxx01' := hkN.cell bxx01 (fun h => h)
  clear bxx01
  have bxx01 := bxx01'
  clear bxx01'
  have bxx02' := hkN.cell bxx02 (fun h => h)
  clear bxx02
  have bxx02 := bxx02'
  clear bxx02'
  have lbx0' := Nat.lt_of_lt_of_le lbx0 hN.size
  clear lbx0
  have lbx0 := lbx0'
  clear lbx0'
  have bxx10' := hkN.cell bxx10 (fun h => h)
  clear bxx10
  have bxx10 := bxx10'
  clear bxx10'
  have bxx11' := hkN.cell bxx11 (fun h => h)
  clear bxx11
  have bxx11 := bxx11'
  clear bxx11'
  have bxx12' := hkN.cell bxx12 (fun h => h)
  clear bxx12
  have bxx12 := bxx12'
  clear bxx12'
  have lbx1' := Nat.lt_of_lt_of_le lbx1 hN.size
  clear lbx1
  have lbx1 := lbx1'
  clear lbx1'
  have bxg0' := hkN.cell bxg0 (fun h => h)
  clear bxg0
  have bxg0 := bxg0'
  clear bxg0'
  have bxg1' := hkN.cell bxg1 (fun h => h)
  clear bxg1
  have bxg1 := bxg1'
  clear bxg1'
  have bxg2' := hkN.cell bxg2 (fun h => h)
  clear bxg2
  have bxg2 := bxg2'
  clear bxg2'
  have lbg' := Nat.lt_of_lt_of_le lbg hN.size
  clear lbg
  have lbg := lbg'
  clear lbg'
  clear hkN
  have hzwe20 := hN.size
  clear hN
  go_wp2_with (fail)
  have hown := HOx0.out.below hBwx0_21
  refine (markFrac _ _ p0 T0 F0 (1) _ hown (by omega) (by omega)).mono ?_
  rintro e wm0 ⟨rfl, _, hK0⟩
  have hK := hK0.mono (T := fun g => wb.heap.size ≤ g ∧ g < wx0.heap.size) (fun g _ hg => HLx0.out g hg)
  clear hK0 hown
  have hzzwm0 := hK.size
  have hX := hK.below (B := wb.heap.size) (by have h1 := (hBwb_21).size; omega) (fun k hk => by have h1 := hk.1; omega)
  have hBwb_22 := (hBwb_21).trans hX
  have hBw_22 := (hBw_21).trans (hX.mono (by omega))
  have bxa00' := hK.cell bxa00 (fun h => by have h1 := h.1; have h2 := h.2; simp only at h1 h2; omega)
  clear bxa00
  have bxa00 := bxa00'
  clear bxa00'
  have bxa01' := hK.cell bxa01 (fun h => by have h1 := h.1; have h2 := h.2; simp only at h1 h2; omega)
  clear bxa01
  have bxa01 := bxa01'
  clear bxa01'
  have bxa02' := hK.cell bxa02 (fun h => by have h1 := h.1; have h2 := h.2; simp only at h1 h2; omega)
  clear bxa02
  have bxa02 := bxa02'
  clear bxa02'
  have lba0' := Nat.lt_of_lt_of_le lba0 hK.size
  clear lba0
  have lba0 := lba0'
  clear lba0'
  have bxa10' := hK.cell bxa10 (fun h => by have h1 := h.1; have h2 := h.2; simp only at h1 h2; omega)
  clear bxa10
  have bxa10 := bxa10'
  clear bxa10'
  have bxa11' := hK.cell bxa11 (fun h => by have h1 := h.1; have h2 := h.2; simp only at h1 h2; omega)
  clear bxa11
  have bxa11 := bxa11'
  clear bxa11'
  have bxa12' := hK.cell bxa12 (fun h => by have h1 := h.1; have h2 := h.2; simp only at h1 h2; omega)
  clear bxa12
  have bxa12 := bxa12'
  clear bxa12'
  have lba1' := Nat.lt_of_lt_of_le lba1 hK.size
  clear lba1
  have lba1 := lba1'
  clear lba1'
  have bxs0' := hK.cell bxs0 (fun h => by have h1 := h.1; have h2 := h.2; simp only at h1 h2; omega)
  clear bxs0
  have bxs0 := bxs0'
  clear bxs0'
  have bxs1' := hK.cell bxs1 (fun h => by have h1 := h.1; have h2 := h.2; simp only at h1 h2; omega)
  clear bxs1
  have bxs1 := bxs1'
  clear bxs1'
  have bxs2' := hK.cell bxs2 (fun h => by have h1 := h.1; have h2 := h.2; simp only at h1 h2; omega)
  clear bxs2
  have bxs2 := bxs2'
  clear bxs2'
  have lbs' := Nat.lt_of_lt_of_le lbs hK.size
  clear lbs
  have lbs := lbs'
  clear lbs'
  have bxx00' := hK.cell bxx00 (fun h => by have h1 := h.1; have h2 := h.2; simp only at h1 h2; omega)
  clear bxx00
  have bxx00 := bxx00'
  clear bxx00'
  have bxx01' := hK.cell bxx01 (fun h => by have h1 := h.1; have h2 := h.2; simp only at h1 h2; omega)
  clear bxx01
  have bxx01 := bxx01'
  clear bxx01'
  have bxx02' := hK.cell bxx02 (fun h => by have h1 := h.1; have h2 := h.2; simp only at h1 h2; omega)
  clear bxx02
  have bxx02 := bxx02'
  clear bxx02'
  have lbx0' := Nat.lt_of_lt_of_le lbx0 hK.size
  clear lbx0
  have lbx0 := lbx0'
  clear lbx0'
  have bxx10' := hK.cell bxx10 (fun h => by have h1 := h.1; have h2 := h.2; simp only at h1 h2; omega)
  clear bxx10
  have bxx10 := bxx10'
  clear bxx10'
  have bxx11' := hK.cell bxx11 (fun h => by have h1 := h.1; have h2 := h.2; simp only at h1 h2; omega)
  clear bxx11
  have bxx11 := bxx11'
  clear bxx11'
  have bxx12' := hK.cell bxx12 (fun h => by have h1 := h.1; have h2 := h.2; simp only at h1 h2; omega)
  clear bxx12
  have bxx12 := bxx12'
  clear bxx12'
  have lbx1' := Nat.lt_of_lt_of_le lbx1 hK.size
  clear lbx1
  have lbx1 := lbx1'
  clear lbx1'
  have bxg0' := hK.cell bxg0 (fun h => by have h1 := h.1; have h2 := h.2; simp only at h1 h2; omega)
  clear bxg0
  have bxg0 := bxg0'
  clear bxg0'
  have bxg1' := hK.cell bxg1 (fun h => by have h1 := h.1; have h2 := h.2; simp only at h1 h2; omega)
  clear bxg1
  have bxg1 := bxg1'
  clear bxg1'
  have bxg2' := hK.cell bxg2 (fun h => by have h1 := h.1; have h2 := h.2; simp only at h1 h2; omega)
  clear bxg2
  have bxg2 := bxg2'
  clear bxg2'
  have lbg' := Nat.lt_of_lt_of_le lbg hK.size
  clear lbg
  have lbg := lbg'
  clear lbg'
  have hO := (HOx1.out.below hBwx1_21).keep hK (fun g hg hs => by have := HLx1.out g hg; omega)
  clear HOx1
  have HOx1 := Lib.hid hO
  clear hO
  have hOg := (HOg.out.below hBwd_21).keep hK (fun g hg hs => by have := HLg.out g hg; omega)
  clear HOg HRg
  have HOg := Lib.hid hOg
  have HRg := Lib.hid hOg.rv
  clear hOg
  clear hK hX
  have hBx1_23 := Below.refl wm0.heap.size wm0
  have hBwd_24 := Below.refl wm0.heap.size wm0
  go_wp2_with (fail)
  have hown := HOx1.out.below hBx1_23
  refine (markFrac _ _ p1 T1 F1 (1 + (T0.length : Int) + (F0.length : Int)) _ hown (by omega) (by omega)).mono ?_
  rintro e wm1 ⟨rfl, _, hK0⟩
  have hK := hK0.mono (T := fun g => wqx0.heap.size ≤ g ∧ g < wx1.heap.size) (fun g _ hg => HLx1.out g hg)
  clear hK0 hown
  have hzzwm1 := hK.size
  have hX := hK.below (B := wb.heap.size) (by have h1 := (hBwb_22).size; omega) (fun k hk => by have h1 := hk.1; omega)
  have hBwb_25 := (hBwb_22).trans hX
  have hBw_25 := (hBw_22).trans (hX.mono (by omega))
  have bxa00' := hK.cell bxa00 (fun h => by have h1 := h.1; have h2 := h.2; simp only at h1 h2; omega)
  clear bxa00
  have bxa00 := bxa00'
  clear bxa00'
  have bxa01' := hK.cell bxa01 (fun h => by have h1 := h.1; have h2 := h.2; simp only at h1 h2; omega)
  clear bxa01
  have bxa01 := bxa01'
  clear bxa01'
  have bxa02' := hK.cell bxa02 (fun h => by have h1 := h.1; have h2 := h.2; simp only at h1 h2; omega)
  clear bxa02
  have bxa02 := bxa02'
  clear bxa02'
  have lba0' := Nat.lt_of_lt_of_le lba0 hK.size
  clear lba0
  have lba0 := lba0'
  clear lba0'
  have bxa10' := hK.cell bxa10 (fun h => by have h1 := h.1; have h2 := h.2; simp only at h1 h2; omega)
  clear bxa10
  have bxa10 := bxa10'
  clear bxa10'
  have bxa11' := hK.cell bxa11 (fun h => by have h1 := h.1; have h2 := h.2; simp only at h1 h2; omega)
  clear bxa11
  have bxa11 := bxa11'
  clear bxa11'
  have bxa12' := hK.cell bxa12 (fun h => by have h1 := h.1; have h2 := h.2; simp only at h1 h2; omega)
  clear bxa12
  have bxa12 := bxa12'
  clear bxa12'
  have lba1' := Nat.lt_of_lt_of_le lba1 hK.size
  clear lba1
  have lba1 := lba1'
  clear lba1'
  have bxs0' := hK.cell bxs0 (fun h => by have h1 := h.1; have h2 := h.2; simp only at h1 h2; omega)
  clear bxs0
  have bxs0 := bxs0'
  clear bxs0'
  have bxs1' := hK.cell bxs1 (fun h => by have h1 := h.1; have h2 := h.2; simp only at h1 h2; omega)
  clear bxs1
  have bxs1 := bxs1'
  clear bxs1'
  have bxs2' := hK.cell bxs2 (fun h => by have h1 := h.1; have h2 := h.2; simp only at h1 h2; omega)
  clear bxs2
  have bxs2 := bxs2'
  clear bxs2'
  have lbs' := Nat.lt_of_lt_of_le lbs hK.size
  clear lbs
  have lbs := lbs'
  clear lbs'
  have bxx00' := hK.cell bxx00 (fun h => by have h1 := h.1; have h2 := h.2; simp only at h1 h2; omega)
  clear bxx00
  have bxx00 := bxx00'
  clear bxx00'
  have bxx01' := hK.cell bxx01 (fun h => by have h1 := h.1; have h2 := h.2; simp only at h1 h2; omega)
  clear bxx01
  have bxx01 := bxx01'
  clear bxx01'
  have bxx02' := hK.cell bxx02 (fun h => by have h1 := h.1; have h2 := h.2; simp only at h1 h2; omega)
  clear bxx02
  have bxx02 := bxx02'
  clear bxx02'
  have lbx0' := Nat.lt_of_lt_of_le lbx0 hK.size
  clear lbx0
  have lbx0 := lbx0'
  clear lbx0'
  have bxx10' := hK.cell bxx10 (fun h => by have h1 := h.1; have h2 := h.2; simp only at h1 h2; omega)
  clear bxx10
  have bxx10 := bxx10'
  clear bxx10'
  have bxx11' := hK.cell bxx11 (fun h => by have h1 := h.1; have h2 := h.2; simp only at h1 h2; omega)
  clear bxx11
  have bxx11 := bxx11'
  clear bxx11'
  have bxx12' := hK.cell bxx12 (fun h => by have h1 := h.1; have h2 := h.2; simp only at h1 h2; omega)
  clear bxx12
  have bxx12 := bxx12'
  clear bxx12'
  have lbx1' := Nat.lt_of_lt_of_le lbx1 hK.size
  clear lbx1
  have lbx1 := lbx1'
  clear lbx1'
  have bxg0' := hK.cell bxg0 (fun h => by have h1 := h.1; have h2 := h.2; simp only at h1 h2; omega)
  clear bxg0
  have bxg0 := bxg0'
  clear bxg0'
  have bxg1' := hK.cell bxg1 (fun h => by have h1 := h.1; have h2 := h.2; simp only at h1 h2; omega)
  clear bxg1
  have bxg1 := bxg1'
  clear bxg1'
  have bxg2' := hK.cell bxg2 (fun h => by have h1 := h.1; have h2 := h.2; simp only at h1 h2; omega)
  clear bxg2
  have bxg2 := bxg2'
  clear bxg2'
  have lbg' := Nat.lt_of_lt_of_le lbg hK.size
  clear lbg
  have lbg := lbg'
  clear lbg'
  have hOg := (HOg.out.below hBwd_24).keep hK (fun g hg hs => by have := HLg.out g hg; omega)
  clear HOg HRg
  have HOg := Lib.hid hOg
  have HRg := Lib.hid hOg.rv
  clear hOg
  clear hK hX
  have hBwd_26 := Below.refl wm1.heap.size wm1
  have hpos : 0 ≤ 1 + (T0.length : Int) + (F0.length : Int) + (T1.length : Int) + (F1.length : Int) := by omega
  go_wp2_with (fail)
  refine (eqFrac _ RP RT RF _ RP RT RF _ (HRg.out.below hBwd_26) (HRs.out.below hBwb_25)).mono ?_
  rintro e we27 ⟨rfl, hN⟩
  rw [decide_eq_true (show RP = RP ∧ RT = RT ∧ RF = RF from ⟨rfl, rfl, rfl⟩)]
  have hBw_28 := below_more hBw_25 hN
  clear hBw_25
  have hBwb_28 := below_more hBwb_25 hN
  clear hBwb_25
  have hBwd_28 := below_more hBwd_26 hN
  clear hBwd_26
  have hkN := keep_of_below hN
  have bxa00' := hkN.cell bxa00 (fun h => h)
  clear bxa00
  have bxa00 := bxa00'
  clear bxa00'
  have bxa01' := hkN.cell bxa01 (fun h => h)
  clear bxa01
  have bxa01 := bxa01'
  clear bxa01'
  have bxa02' := hkN.cell bxa02 (fun h => h)
  clear bxa02
  have bxa02 := bxa02'
  clear bxa02'
  have lba0' := Nat.lt_of_lt_of_le lba0 hN.size
  clear lba0
  have lba0 := lba0'
  clear lba0'
  have bxa10' := hkN.cell bxa10 (fun h => h)
  clear bxa10
  have bxa10 := bxa10'
  clear bxa10'
  have bxa11' := hkN.cell bxa11 (fun h => h)
  clear bxa11
  have bxa11 := bxa11'
  clear bxa11'
  have bxa12' := hkN.cell bxa12 (fun h => h)
  clear bxa12
  have bxa12 := bxa12'
  clear bxa12'
  have lba1' := Nat.lt_of_lt_of_le lba1 hN.size
  clear lba1
  have lba1 := lba1'
  clear lba1'
  have bxs0' := hkN.cell bxs0 (fun h => h)
  clear bxs0
  have bxs0 := bxs0'
  clear bxs0'
  have bxs1' := hkN.cell bxs1 (fun h => h)
  clear bxs1
  have bxs1 := bxs1'
  clear bxs1'
  have bxs2' := hkN.cell bxs2 (fun h => h)
  clear bxs2
  have bxs2 := bxs2'
  clear bxs2'
  have lbs' := Nat.lt_of_lt_of_le lbs hN.size
  clear lbs
  have lbs := lbs'
  clear lbs'
  have bxx00' := hkN.cell bxx00 (fun h => h)
  clear bxx00
  have bxx00 := bxx00'
  clear bxx00'
  have bxx01' := hkN.cell bxx01 (fun h => h)
  clear bxx01
  have bxx01 := bxx01'
  clear bxx01'
  have bxx02' := hkN.cell bxx02 (fun h => h)
  clear bxx02
  have bxx02 := bxx02'
  clear bxx02'
  have lbx0' := Nat.lt_of_lt_of_le lbx0 hN.size
  clear lbx0
  have lbx0 := lbx0'
  clear lbx0'
  have bxx10' := hkN.cell bxx10 (fun h => h)
  clear bxx10
  have bxx10 := bxx10'
  clear bxx10'
  have bxx11' := hkN.cell bxx11 (fun h => h)
  clear bxx11
  have bxx11 := bxx11'
  clear bxx11'
  have bxx12' := hkN.cell bxx12 (fun h => h)
  clear bxx12
  have bxx12 := bxx12'
  clear bxx12'
  have lbx1' := Nat.lt_of_lt_of_le lbx1 hN.size
  clear lbx1
  have lbx1 := lbx1'
  clear lbx1'
  have bxg0' := hkN.cell bxg0 (fun h => h)
  clear bxg0
  have bxg0 := bxg0'
  clear bxg0'
  have bxg1' := hkN.cell bxg1 (fun h => h)
  clear bxg1
  have bxg1 := bxg1'
  clear bxg1'
  have bxg2' := hkN.cell bxg2 (fun h => h)
  clear bxg2
  have bxg2 := bxg2'
  clear bxg2'
  have lbg' := Nat.lt_of_lt_of_le lbg hN.size
  clear lbg
  have lbg := lbg'
  clear lbg'
  clear hkN
  have hzwe27 := hN.size
  clear hN
  go_wp2_with (fail)
  refine (markFrac _ _ RP RT RF 1 _ (HOg.out.below hBwd_28) (by omega) (by omega)).mono ?_
  rintro e wj ⟨rfl, hO, hK0⟩
  have hK := hK0.mono (T := fun g => wqx1.heap.size ≤ g ∧ g < wd.heap.size) (fun g _ hg => HLg.out g hg)
  clear hK0
  have hzzwj := hK.size
  have hX := hK.below (B := wb.heap.size) (by have h1 := (hBwb_28).size; omega) (fun k hk => by have h1 := hk.1; omega)
  have hBwb_29 := (hBwb_28).trans hX
  have hBw_29 := (hBw_28).trans (hX.mono (by omega))
  have bxa00' := hK.cell bxa00 (fun h => by have h1 := h.1; have h2 := h.2; simp only at h1 h2; omega)
  clear bxa00
  have bxa00 := bxa00'
  clear bxa00'
  have bxa01' := hK.cell bxa01 (fun h => by have h1 := h.1; have h2 := h.2; simp only at h1 h2; omega)
  clear bxa01
  have bxa01 := bxa01'
  clear bxa01'
  have bxa02' := hK.cell bxa02 (fun h => by have h1 := h.1; have h2 := h.2; simp only at h1 h2; omega)
  clear bxa02
  have bxa02 := bxa02'
  clear bxa02'
  have lba0' := Nat.lt_of_lt_of_le lba0 hK.size
  clear lba0
  have lba0 := lba0'
  clear lba0'
  have bxa10' := hK.cell bxa10 (fun h => by have h1 := h.1; have h2 := h.2; simp only at h1 h2; omega)
  clear bxa10
  have bxa10 := bxa10'
  clear bxa10'
  have bxa11' := hK.cell bxa11 (fun h => by have h1 := h.1; have h2 := h.2; simp only at h1 h2; omega)
  clear bxa11
  have bxa11 := bxa11'
  clear bxa11'
  have bxa12' := hK.cell bxa12 (fun h => by have h1 := h.1; have h2 := h.2; simp only at h1 h2; omega)
  clear bxa12
  have bxa12 := bxa12'
  clear bxa12'
  have lba1' := Nat.lt_of_lt_of_le lba1 hK.size
  clear lba1
  have lba1 := lba1'
  clear lba1'
  have bxs0' := hK.cell bxs0 (fun h => by have h1 := h.1; have h2 := h.2; simp only at h1 h2; omega)
  clear bxs0
  have bxs0 := bxs0'
  clear bxs0'
  have bxs1' := hK.cell bxs1 (fun h => by have h1 := h.1; have h2 := h.2; simp only at h1 h2; omega)
  clear bxs1
  have bxs1 := bxs1'
  clear bxs1'
  have bxs2' := hK.cell bxs2 (fun h => by have h1 := h.1; have h2 := h.2; simp only at h1 h2; omega)
  clear bxs2
  have bxs2 := bxs2'
  clear bxs2'
  have lbs' := Nat.lt_of_lt_of_le lbs hK.size
  clear lbs
  have lbs := lbs'
  clear lbs'
  have bxx00' := hK.cell bxx00 (fun h => by have h1 := h.1; have h2 := h.2; simp only at h1 h2; omega)
  clear bxx00
  have bxx00 := bxx00'
  clear bxx00'
  have bxx01' := hK.cell bxx01 (fun h => by have h1 := h.1; have h2 := h.2; simp only at h1 h2; omega)
  clear bxx01
  have bxx01 := bxx01'
  clear bxx01'
  have bxx02' := hK.cell bxx02 (fun h => by have h1 := h.1; have h2 := h.2; simp only at h1 h2; omega)
  clear bxx02
  have bxx02 := bxx02'
  clear bxx02'
  have lbx0' := Nat.lt_of_lt_of_le lbx0 hK.size
  clear lbx0
  have lbx0 := lbx0'
  clear lbx0'
  have bxx10' := hK.cell bxx10 (fun h => by have h1 := h.1; have h2 := h.2; simp only at h1 h2; omega)
  clear bxx10
  have bxx10 := bxx10'
  clear bxx10'
  have bxx11' := hK.cell bxx11 (fun h => by have h1 := h.1; have h2 := h.2; simp only at h1 h2; omega)
  clear bxx11
  have bxx11 := bxx11'
  clear bxx11'
  have bxx12' := hK.cell bxx12 (fun h => by have h1 := h.1; have h2 := h.2; simp only at h1 h2; omega)
  clear bxx12
  have bxx12 := bxx12'
  clear bxx12'
  have lbx1' := Nat.lt_of_lt_of_le lbx1 hK.size
  clear lbx1
  have lbx1 := lbx1'
  clear lbx1'
  have bxg0' := hK.cell bxg0 (fun h => by have h1 := h.1; have h2 := h.2; simp only at h1 h2; omega)
  clear bxg0
  have bxg0 := bxg0'
  clear bxg0'
  have bxg1' := hK.cell bxg1 (fun h => by have h1 := h.1; have h2 := h.2; simp only at h1 h2; omega)
  clear bxg1
  have bxg1 := bxg1'
  clear bxg1'
  have bxg2' := hK.cell bxg2 (fun h => by have h1 := h.1; have h2 := h.2; simp only at h1 h2; omega)
  clear bxg2
  have bxg2 := bxg2'
  clear bxg2'
  have lbg' := Nat.lt_of_lt_of_le lbg hK.size
  clear lbg
  have lbg := lbg'
  clear lbg'
  have HRj := Lib.hid hO.rv
  clear hO hK hX
  have hBwj_30 := Below.refl wj.heap.size wj
  go_wp2_with (fail)
  refine (heldFrac _ RP 1 RT.length RF.length _ (HRj.out.below hBwj_30) (by omega) (by omega)).mono ?_
  rintro e wh1 ⟨rfl, hN⟩
  have hBw_31 := below_more hBw_29 hN
  clear hBw_29
  have hBwb_31 := below_more hBwb_29 hN
  clear hBwb_29
  have hBwj_31 := below_more hBwj_30 hN
  clear hBwj_30
  have hkN := keep_of_below hN
  have bxa00' := hkN.cell bxa00 (fun h => h)
  clear bxa00
  have bxa00 := bxa00'
  clear bxa00'
  have bxa01' := hkN.cell bxa01 (fun h => h)
  clear bxa01
  have bxa01 := bxa01'
  clear bxa01'
  have bxa02' := hkN.cell bxa02 (fun h => h)
  clear bxa02
  have bxa02 := bxa02'
  clear bxa02'
  have lba0' := Nat.lt_of_lt_of_le lba0 hN.size
  clear lba0
  have lba0 := lba0'
  clear lba0'
  have bxa10' := hkN.cell bxa10 (fun h => h)
  clear bxa10
  have bxa10 := bxa10'
  clear bxa10'
  have bxa11' := hkN.cell bxa11 (fun h => h)
  clear bxa11
  have bxa11 := bxa11'
  clear bxa11'
  have bxa12' := hkN.cell bxa12 (fun h => h)
  clear bxa12
  have bxa12 := bxa12'
  clear bxa12'
  have lba1' := Nat.lt_of_lt_of_le lba1 hN.size
  clear lba1
  have lba1 := lba1'
  clear lba1'
  have bxs0' := hkN.cell bxs0 (fun h => h)
  clear bxs0
  have bxs0 := bxs0'
  clear bxs0'
  have bxs1' := hkN.cell bxs1 (fun h => h)
  clear bxs1
  have bxs1 := bxs1'
  clear bxs1'
  have bxs2' := hkN.cell bxs2 (fun h => h)
  clear bxs2
  have bxs2 := bxs2'
  clear bxs2'
  have lbs' := Nat.lt_of_lt_of_le lbs hN.size
  clear lbs
  have lbs := lbs'
  clear lbs'
  have bxx00' := hkN.cell bxx00 (fun h => h)
  clear bxx00
  have bxx00 := bxx00'
  clear bxx00'
  have bxx01' := hkN.cell bxx01 (fun h => h)
  clear bxx01
  have bxx01 := bxx01'
  clear bxx01'
  have bxx02' := hkN.cell bxx02 (fun h => h)
  clear bxx02
  have bxx02 := bxx02'
  clear bxx02'
  have lbx0' := Nat.lt_of_lt_of_le lbx0 hN.size
  clear lbx0
  have lbx0 := lbx0'
  clear lbx0'
  have bxx10' := hkN.cell bxx10 (fun h => h)
  clear bxx10
  have bxx10 := bxx10'
  clear bxx10'
  have bxx11' := hkN.cell bxx11 (fun h => h)
  clear bxx11
  have bxx11 := bxx11'
  clear bxx11'
  have bxx12' := hkN.cell bxx12 (fun h => h)
  clear bxx12
  have bxx12 := bxx12'
  clear bxx12'
  have lbx1' := Nat.lt_of_lt_of_le lbx1 hN.size
  clear lbx1
  have lbx1 := lbx1'
  clear lbx1'
  have bxg0' := hkN.cell bxg0 (fun h => h)
  clear bxg0
  have bxg0 := bxg0'
  clear bxg0'
  have bxg1' := hkN.cell bxg1 (fun h => h)
  clear bxg1
  have bxg1 := bxg1'
  clear bxg1'
  have bxg2' := hkN.cell bxg2 (fun h => h)
  clear bxg2
  have bxg2 := bxg2'
  clear bxg2'
  have lbg' := Nat.lt_of_lt_of_le lbg hN.size
  clear lbg
  have lbg := lbg'
  clear lbg'
  clear hkN
  have hzwh1 := hN.size
  clear hN
  have hpq1 : 0 ≤ 1 + (RT.length : Int) + (RF.length : Int) := by omega
  have hqg : ((1 + (RT.length : Int) + (RF.length : Int)) != (1 + (RT.length : Int) + (RF.length : Int))) = false := by simp
  go_upto_region 45 with (fail)
  have HAN := Lib.hid (hBw_31)
  go_cut [15, 16] (fun v6 v7 wx => ∃ (gB : Nat) (Al : Option Addr) (cl : Nat) (Bl : Option Addr) (dl : Nat), v6 = .pointer (some ⟨gB, 0, none⟩) ∧ v7 = .bool RB ∧ wh1.heap.size ≤ gB ∧ Bx wx gB (.int .i64 RP) (.slice Al RT.length cl) (.slice Bl RF.length dl) ∧ RO wx wh1.heap.size (.agg #[.int .i64 RP, .slice Al RT.length cl, .slice Bl RF.length dl]) RP RT RF ∧ Below wh1.heap.size wh1 wx)
  case first =>
    have cda00 : wh1.drew.cell? ⟨w.heap.size, 0, none⟩ = some (.int .i64 p0) := bxa00
    have cda01 : wh1.drew.cell? ⟨w.heap.size, 1, none⟩ = some (.slice Aa0 na0 ca0) := bxa01
    have cda02 : wh1.drew.cell? ⟨w.heap.size, 2, none⟩ = some (.slice Ba0 ma0 da0) := bxa02
    have cda10 : wh1.drew.cell? ⟨w.heap.size + 1, 0, none⟩ = some (.int .i64 p1) := bxa10
    have cda11 : wh1.drew.cell? ⟨w.heap.size + 1, 1, none⟩ = some (.slice Aa1 na1 ca1) := bxa11
    have cda12 : wh1.drew.cell? ⟨w.heap.size + 1, 2, none⟩ = some (.slice Ba1 ma1 da1) := bxa12
    have ZA : wh1.cell? ⟨w.heap.size, 0, none⟩ = some (.int .i64 p0) ∧ wh1.cell? ⟨w.heap.size, 1, none⟩ = some (.slice Aa0 na0 ca0) ∧ wh1.cell? ⟨w.heap.size, 2, none⟩ = some (.slice Ba0 ma0 da0) ∧ wh1.cell? ⟨w.heap.size + 1, 0, none⟩ = some (.int .i64 p1) ∧ wh1.cell? ⟨w.heap.size + 1, 1, none⟩ = some (.slice Aa1 na1 ca1) ∧ wh1.cell? ⟨w.heap.size + 1, 2, none⟩ = some (.slice Ba1 ma1 da1) := ⟨bxa00, bxa01, bxa02, bxa10, bxa11, bxa12⟩
    have ZB : wh1.drew.cell? ⟨w.heap.size, 0, none⟩ = some (.int .i64 p0) ∧ wh1.drew.cell? ⟨w.heap.size, 1, none⟩ = some (.slice Aa0 na0 ca0) ∧ wh1.drew.cell? ⟨w.heap.size, 2, none⟩ = some (.slice Ba0 ma0 da0) ∧ wh1.drew.cell? ⟨w.heap.size + 1, 0, none⟩ = some (.int .i64 p1) ∧ wh1.drew.cell? ⟨w.heap.size + 1, 1, none⟩ = some (.slice Aa1 na1 ca1) ∧ wh1.drew.cell? ⟨w.heap.size + 1, 2, none⟩ = some (.slice Ba1 ma1 da1) := ⟨cda00, cda01, cda02, cda10, cda11, cda12⟩
    have hdr : Below wh1.heap.size wh1 wh1.drew := below_drawn (Below.refl _ _) ⟨1, rfl⟩
    have HAd0 := Lib.hid ((H0.out.below HAN.out).below hdr)
    have HAd1 := Lib.hid ((H1.out.below HAN.out).below hdr)
    have HGd := Lib.hid ((HGE.out.below HAN.out).below hdr)
    have HDR := Lib.hid hdr
    have hsa := HAN.out.size
    clear hdr
    have Q1 : True := trivial
    have Q2 : True := trivial
    have hfara0 : ∀ (W : World) (g o o' : Nat) (v : Value), w.heap.size < g → (W.setCell ⟨g, o, none⟩ v).cell? ⟨w.heap.size, o', none⟩ = W.cell? ⟨w.heap.size, o', none⟩ := fun W g o o' v hg => World.cell?_setCell_far _ _ _ _ (by show g ≠ w.heap.size; omega)
    have hfara1 : ∀ (W : World) (g o o' : Nat) (v : Value), w.heap.size + 1 < g → (W.setCell ⟨g, o, none⟩ v).cell? ⟨w.heap.size + 1, o', none⟩ = W.cell? ⟨w.heap.size + 1, o', none⟩ := fun W g o o' v hg => World.cell?_setCell_far _ _ _ _ (by show g ≠ w.heap.size + 1; omega)
    go_region_held3 (fun w' => w'.cell? ⟨w.heap.size, 0, none⟩ = some (.int .i64 p0) ∧ w'.cell? ⟨w.heap.size, 1, none⟩ = some (.slice Aa0 na0 ca0) ∧ w'.cell? ⟨w.heap.size, 2, none⟩ = some (.slice Ba0 ma0 da0) ∧ w'.cell? ⟨w.heap.size + 1, 0, none⟩ = some (.int .i64 p1) ∧ w'.cell? ⟨w.heap.size + 1, 1, none⟩ = some (.slice Aa1 na1 ca1) ∧ w'.cell? ⟨w.heap.size + 1, 2, none⟩ = some (.slice Ba1 ma1 da1)) (first | assumption | exact ZE | exact ZD | exact ZC | exact ZB | exact ZA | (simp (disch := omega) only [hfara0, hfara1]; exact ZE) | go_keep) (first | (clear Q1; go_at_call 7; (with_reducible refine (toFrac _ p0 T0 F0 _ (by first | exact HAd0.out | exact HAd0.out.below (below_new _ _)) hT0 hF0).mono ?_); rintro e wpwl ⟨u0, rfl, hO, hN⟩; have hN' : Below wh1.drew.heap.size wh1.drew wpwl := (by first | exact hN | exact below_more (below_new _ (.cells #[.int .i64 0, .slice none 0 0, .slice none 0 0] 26)) hN); have hzwpwl' : wh1.heap.size ≤ wpwl.heap.size := hN'.size; (first | have HLB := Lib.hid (show BxW wpwl wh1.heap.size (.int .i64 0) (.slice none 0 0) (.slice none 0 0) from (BxW.new wh1.drew (.int .i64 0) (.slice none 0 0) (.slice none 0 0) 26).below hN) | skip); have HRu0 := Lib.hid hO.rv; have HAe1 := Lib.hid (HAd1.out.below hN'); have HGe := Lib.hid (HGd.out.below hN'); have cea00 := (keep_of_below hN').cell cda00 (fun h => h); have cea01 := (keep_of_below hN').cell cda01 (fun h => h); have cea02 := (keep_of_below hN').cell cda02 (fun h => h); have cea10 := (keep_of_below hN').cell cda10 (fun h => h); have cea11 := (keep_of_below hN').cell cda11 (fun h => h); have cea12 := (keep_of_below hN').cell cda12 (fun h => h); have ZC := And.intro cea00 (And.intro cea01 (And.intro cea02 (And.intro cea10 (And.intro cea11 cea12)))); have HNa := Lib.hid hN'; (first | have hla := HLB.out.c.lt | skip); clear hO hN hN') | (clear Q2; go_at_call 7; (with_reducible refine (toFrac _ p1 T1 F1 _ (by first | exact HAe1.out | exact HAe1.out.below (below_new _ _)) hT1 hF1).mono ?_); rintro e wvwl ⟨u1, rfl, hO, hN⟩; have hN' : Below wpwl.heap.size wpwl wvwl := (by first | exact hN | exact below_more (below_new _ (.cells #[.int .i64 0, .slice none 0 0, .slice none 0 0] 26)) hN); have hzwvwl' : wpwl.heap.size ≤ wvwl.heap.size := hN'.size; (first | have HLB := Lib.hid (HLB.out.below hN') | have HLB := Lib.hid ((BxW.new wpwl (.int .i64 0) (.slice none 0 0) (.slice none 0 0) 26).below hN) | skip); have HRu1 := Lib.hid hO.rv; have HRu0 := Lib.hid (HRu0.out.below hN'); have HGf := Lib.hid (HGe.out.below hN'); have cga00 := (keep_of_below hN').cell cea00 (fun h => h); have cga01 := (keep_of_below hN').cell cea01 (fun h => h); have cga02 := (keep_of_below hN').cell cea02 (fun h => h); have cga10 := (keep_of_below hN').cell cea10 (fun h => h); have cga11 := (keep_of_below hN').cell cea11 (fun h => h); have cga12 := (keep_of_below hN').cell cea12 (fun h => h); have ZD := And.intro cga00 (And.intro cga01 (And.intro cga02 (And.intro cga10 (And.intro cga11 cga12)))); have HNb := Lib.hid hN'; (first | have hlb := HLB.out.c.lt | skip); clear hO hN hN') | (go_at_call 8; refine (implFracAdd _ p0 T0 F0 _ p1 T1 F1 _ (by first | exact HRu0.out | exact HRu0.out.below (below_new _ _)) (by first | exact HRu1.out | exact HRu1.out.below (below_new _ _)) ge (by first | exact HGf.out | exact HGf.out.below (below_new _ _))).mono ?_; rw [HRV.out]; unfold MadeRB; rw [HRB.out]; rintro e wl ⟨_, rfl, hO0, hN⟩; rw [HRP.out, HRT.out, HRF.out] at hO0; obtain ⟨Al, cl, Bl, dl, rfl, hO1, hO2, hO3⟩ := hO0; have hN' : Below wvwl.heap.size wvwl wl := (by first | exact hN | exact below_more (below_new _ (.cells #[.int .i64 0, .slice none 0 0, .slice none 0 0] 26)) hN); have hzwl' : wvwl.heap.size ≤ wl.heap.size := hN'.size; (first | have HLB := Lib.hid (HLB.out.below hN') | have HLB := Lib.hid ((BxW.new wvwl (.int .i64 0) (.slice none 0 0) (.slice none 0 0) 26).below hN) | skip); have HOx := Lib.hid (show RO wl _ (.agg #[.int .i64 RP, .slice Al RT.length cl, .slice Bl RF.length dl]) RP RT RF from ⟨Al, cl, Bl, dl, rfl, hO1, hO2, hO3⟩); clear hO1 hO2 hO3; have cha00 := (keep_of_below hN').cell cga00 (fun h => h); have cha01 := (keep_of_below hN').cell cga01 (fun h => h); have cha02 := (keep_of_below hN').cell cga02 (fun h => h); have cha10 := (keep_of_below hN').cell cga10 (fun h => h); have cha11 := (keep_of_below hN').cell cga11 (fun h => h); have cha12 := (keep_of_below hN').cell cga12 (fun h => h); have ZE := And.intro cha00 (And.intro cha01 (And.intro cha02 (And.intro cha10 (And.intro cha11 cha12)))); have HNc := Lib.hid hN'; (first | (obtain ⟨z0, z1, z2⟩ := HLB.out.c; have zf := HLB.out.fz; have hlc := HLB.out.c.lt) | skip); clear hN hN'))
    all_goals
      have hTot := Lib.hid (below_more (below_more (below_more HDR.out HNa.out) HNb.out) HNc.out)
      go_wp2_with (fail)
      go_meet
      first
        | exact ⟨_, Al, cl, Bl, dl, rfl, rfl, (by first | omega | (simp <;> omega)), HLB.out.put _ _ _, (HOx.out.put3 (by first | omega | (simp <;> omega))).mono (by first | omega | (simp <;> omega)), hTot.out.trans (set3_far _ _ _ _ _ (by first | omega | (simp <;> omega)) hTot.out.size)⟩
        | exact ⟨_, Al, cl, Bl, dl, rfl, rfl, hTot.out.size, Bx.new _ _ _ _ _, (HOx.out.below (below_new _ _)).mono (by first | omega | (simp <;> omega)), below_more hTot.out (below_new _ _)⟩
  case rest =>
  obtain ⟨gBl, Al, cl, Bl, dl, rfl, rfl, hgl, hbx, hO, hN⟩ := hcut
  obtain ⟨wl, rfl⟩ : ∃ wl : World, wl = wc := ⟨_, rfl⟩
  have lcl := hbx.lt
  have hn0 := hbx.1
  have hn1 := hbx.2.1
  have hn2 := hbx.2.2
  have hnl := hbx.lt
  clear hbx HAN
  have HOy := Lib.hid hO
  clear hO
  have hBw_32 := below_more hBw_31 hN
  clear hBw_31
  have hBwb_32 := below_more hBwb_31 hN
  clear hBwb_31
  have hBwj_32 := below_more hBwj_31 hN
  clear hBwj_31
  have hkN := keep_of_below hN
  have bxa00' := hkN.cell bxa00 (fun h => h)
  clear bxa00
  have bxa00 := bxa00'
  clear bxa00'
  have bxa01' := hkN.cell bxa01 (fun h => h)
  clear bxa01
  have bxa01 := bxa01'
  clear bxa01'
  have bxa02' := hkN.cell bxa02 (fun h => h)
  clear bxa02
  have bxa02 := bxa02'
  clear bxa02'
  have lba0' := Nat.lt_of_lt_of_le lba0 hN.size
  clear lba0
  have lba0 := lba0'
  clear lba0'
  have bxa10' := hkN.cell bxa10 (fun h => h)
  clear bxa10
  have bxa10 := bxa10'
  clear bxa10'
  have bxa11' := hkN.cell bxa11 (fun h => h)
  clear bxa11
  have bxa11 := bxa11'
  clear bxa11'
  have bxa12' := hkN.cell bxa12 (fun h => h)
  clear bxa12
  have bxa12 := bxa12'
  clear bxa12'
  have lba1' := Nat.lt_of_lt_of_le lba1 hN.size
  clear lba1
  have lba1 := lba1'
  clear lba1'
  have bxs0' := hkN.cell bxs0 (fun h => h)
  clear bxs0
  have bxs0 := bxs0'
  clear bxs0'
  have bxs1' := hkN.cell bxs1 (fun h => h)
  clear bxs1
  have bxs1 := bxs1'
  clear bxs1'
  have bxs2' := hkN.cell bxs2 (fun h => h)
  clear bxs2
  have bxs2 := bxs2'
  clear bxs2'
  have lbs' := Nat.lt_of_lt_of_le lbs hN.size
  clear lbs
  have lbs := lbs'
  clear lbs'
  have bxx00' := hkN.cell bxx00 (fun h => h)
  clear bxx00
  have bxx00 := bxx00'
  clear bxx00'
  have bxx01' := hkN.cell bxx01 (fun h => h)
  clear bxx01
  have bxx01 := bxx01'
  clear bxx01'
  have bxx02' := hkN.cell bxx02 (fun h => h)
  clear bxx02
  have bxx02 := bxx02'
  clear bxx02'
  have lbx0' := Nat.lt_of_lt_of_le lbx0 hN.size
  clear lbx0
  have lbx0 := lbx0'
  clear lbx0'
  have bxx10' := hkN.cell bxx10 (fun h => h)
  clear bxx10
  have bxx10 := bxx10'
  clear bxx10'
  have bxx11' := hkN.cell bxx11 (fun h => h)
  clear bxx11
  have bxx11 := bxx11'
  clear bxx11'
  have bxx12' := hkN.cell bxx12 (fun h => h)
  clear bxx12
  have bxx12 := bxx12'
  clear bxx12'
  have lbx1' := Nat.lt_of_lt_of_le lbx1 hN.size
  clear lbx1
  have lbx1 := lbx1'
  clear lbx1'
  have bxg0' := hkN.cell bxg0 (fun h => h)
  clear bxg0
  have bxg0 := bxg0'
  clear bxg0'
  have bxg1' := hkN.cell bxg1 (fun h => h)
  clear bxg1
  have bxg1 := bxg1'
  clear bxg1'
  have bxg2' := hkN.cell bxg2 (fun h => h)
  clear bxg2
  have bxg2 := bxg2'
  clear bxg2'
  have lbg' := Nat.lt_of_lt_of_le lbg hN.size
  clear lbg
  have lbg := lbg'
  clear lbg'
  clear hkN
  have hzwl := hN.size
  clear hN
  have bxl0 := hn0
  clear hn0
  have bxl1 := hn1
  clear hn1
  have bxl2 := hn2
  clear hn2
  have lbl := hnl
  clear hnl
  have hO := HOy.out
  clear HOy
  have HLl := Lib.hid (show ∀ g, recBlk (.agg #[.int .i64 RP, .slice Al RT.length cl, .slice Bl RF.length dl]) g → _ from fun g hg => hO.lt g hg)
  have HRl := Lib.hid hO.rv
  have HOl := Lib.hid hO
  clear hO
  have hBwl_33 := Below.refl wl.heap.size wl
  go_wp2_with (fail)
  refine (eqFrac _ RP RT RF _ RP RT RF _ (HRl.out.below hBwl_33) (HRs.out.below hBwb_32)).mono ?_
  rintro e we34 ⟨rfl, hN⟩
  rw [decide_eq_true (show RP = RP ∧ RT = RT ∧ RF = RF from ⟨rfl, rfl, rfl⟩)]
  have hBw_35 := below_more hBw_32 hN
  clear hBw_32
  have hBwb_35 := below_more hBwb_32 hN
  clear hBwb_32
  have hBwj_35 := below_more hBwj_32 hN
  clear hBwj_32
  have hBwl_35 := below_more hBwl_33 hN
  clear hBwl_33
  have hkN := keep_of_below hN
  have bxa00' := hkN.cell bxa00 (fun h => h)
  clear bxa00
  have bxa00 := bxa00'
  clear bxa00'
  have bxa01' := hkN.cell bxa01 (fun h => h)
  clear bxa01
  have bxa01 := bxa01'
  clear bxa01'
  have bxa02' := hkN.cell bxa02 (fun h => h)
  clear bxa02
  have bxa02 := bxa02'
  clear bxa02'
  have lba0' := Nat.lt_of_lt_of_le lba0 hN.size
  clear lba0
  have lba0 := lba0'
  clear lba0'
  have bxa10' := hkN.cell bxa10 (fun h => h)
  clear bxa10
  have bxa10 := bxa10'
  clear bxa10'
  have bxa11' := hkN.cell bxa11 (fun h => h)
  clear bxa11
  have bxa11 := bxa11'
  clear bxa11'
  have bxa12' := hkN.cell bxa12 (fun h => h)
  clear bxa12
  have bxa12 := bxa12'
  clear bxa12'
  have lba1' := Nat.lt_of_lt_of_le lba1 hN.size
  clear lba1
  have lba1 := lba1'
  clear lba1'
  have bxs0' := hkN.cell bxs0 (fun h => h)
  clear bxs0
  have bxs0 := bxs0'
  clear bxs0'
  have bxs1' := hkN.cell bxs1 (fun h => h)
  clear bxs1
  have bxs1 := bxs1'
  clear bxs1'
  have bxs2' := hkN.cell bxs2 (fun h => h)
  clear bxs2
  have bxs2 := bxs2'
  clear bxs2'
  have lbs' := Nat.lt_of_lt_of_le lbs hN.size
  clear lbs
  have lbs := lbs'
  clear lbs'
  have bxx00' := hkN.cell bxx00 (fun h => h)
  clear bxx00
  have bxx00 := bxx00'
  clear bxx00'
  have bxx01' := hkN.cell bxx01 (fun h => h)
  clear bxx01
  have bxx01 := bxx01'
  clear bxx01'
  have bxx02' := hkN.cell bxx02 (fun h => h)
  clear bxx02
  have bxx02 := bxx02'
  clear bxx02'
  have lbx0' := Nat.lt_of_lt_of_le lbx0 hN.size
  clear lbx0
  have lbx0 := lbx0'
  clear lbx0'
  have bxx10' := hkN.cell bxx10 (fun h => h)
  clear bxx10
  have bxx10 := bxx10'
  clear bxx10'
  have bxx11' := hkN.cell bxx11 (fun h => h)
  clear bxx11
  have bxx11 := bxx11'
  clear bxx11'
  have bxx12' := hkN.cell bxx12 (fun h => h)
  clear bxx12
  have bxx12 := bxx12'
  clear bxx12'
  have lbx1' := Nat.lt_of_lt_of_le lbx1 hN.size
  clear lbx1
  have lbx1 := lbx1'
  clear lbx1'
  have bxg0' := hkN.cell bxg0 (fun h => h)
  clear bxg0
  have bxg0 := bxg0'
  clear bxg0'
  have bxg1' := hkN.cell bxg1 (fun h => h)
  clear bxg1
  have bxg1 := bxg1'
  clear bxg1'
  have bxg2' := hkN.cell bxg2 (fun h => h)
  clear bxg2
  have bxg2 := bxg2'
  clear bxg2'
  have lbg' := Nat.lt_of_lt_of_le lbg hN.size
  clear lbg
  have lbg := lbg'
  clear lbg'
  have bxl0' := hkN.cell bxl0 (fun h => h)
  clear bxl0
  have bxl0 := bxl0'
  clear bxl0'
  have bxl1' := hkN.cell bxl1 (fun h => h)
  clear bxl1
  have bxl1 := bxl1'
  clear bxl1'
  have bxl2' := hkN.cell bxl2 (fun h => h)
  clear bxl2
  have bxl2 := bxl2'
  clear bxl2'
  have lbl' := Nat.lt_of_lt_of_le lbl hN.size
  clear lbl
  have lbl := lbl'
  clear lbl'
  clear hkN
  have hzwe34 := hN.size
  clear hN
  go_wp2_with (fail)
  refine (heldFrac _ RP 1 RT.length RF.length _ (HRj.out.below hBwj_35) (by omega) (by omega)).mono ?_
  rintro e wh2 ⟨rfl, hN⟩
  have hBw_36 := below_more hBw_35 hN
  clear hBw_35
  have hBwb_36 := below_more hBwb_35 hN
  clear hBwb_35
  have hBwj_36 := below_more hBwj_35 hN
  clear hBwj_35
  have hBwl_36 := below_more hBwl_35 hN
  clear hBwl_35
  have hkN := keep_of_below hN
  have bxa00' := hkN.cell bxa00 (fun h => h)
  clear bxa00
  have bxa00 := bxa00'
  clear bxa00'
  have bxa01' := hkN.cell bxa01 (fun h => h)
  clear bxa01
  have bxa01 := bxa01'
  clear bxa01'
  have bxa02' := hkN.cell bxa02 (fun h => h)
  clear bxa02
  have bxa02 := bxa02'
  clear bxa02'
  have lba0' := Nat.lt_of_lt_of_le lba0 hN.size
  clear lba0
  have lba0 := lba0'
  clear lba0'
  have bxa10' := hkN.cell bxa10 (fun h => h)
  clear bxa10
  have bxa10 := bxa10'
  clear bxa10'
  have bxa11' := hkN.cell bxa11 (fun h => h)
  clear bxa11
  have bxa11 := bxa11'
  clear bxa11'
  have bxa12' := hkN.cell bxa12 (fun h => h)
  clear bxa12
  have bxa12 := bxa12'
  clear bxa12'
  have lba1' := Nat.lt_of_lt_of_le lba1 hN.size
  clear lba1
  have lba1 := lba1'
  clear lba1'
  have bxs0' := hkN.cell bxs0 (fun h => h)
  clear bxs0
  have bxs0 := bxs0'
  clear bxs0'
  have bxs1' := hkN.cell bxs1 (fun h => h)
  clear bxs1
  have bxs1 := bxs1'
  clear bxs1'
  have bxs2' := hkN.cell bxs2 (fun h => h)
  clear bxs2
  have bxs2 := bxs2'
  clear bxs2'
  have lbs' := Nat.lt_of_lt_of_le lbs hN.size
  clear lbs
  have lbs := lbs'
  clear lbs'
  have bxx00' := hkN.cell bxx00 (fun h => h)
  clear bxx00
  have bxx00 := bxx00'
  clear bxx00'
  have bxx01' := hkN.cell bxx01 (fun h => h)
  clear bxx01
  have bxx01 := bxx01'
  clear bxx01'
  have bxx02' := hkN.cell bxx02 (fun h => h)
  clear bxx02
  have bxx02 := bxx02'
  clear bxx02'
  have lbx0' := Nat.lt_of_lt_of_le lbx0 hN.size
  clear lbx0
  have lbx0 := lbx0'
  clear lbx0'
  have bxx10' := hkN.cell bxx10 (fun h => h)
  clear bxx10
  have bxx10 := bxx10'
  clear bxx10'
  have bxx11' := hkN.cell bxx11 (fun h => h)
  clear bxx11
  have bxx11 := bxx11'
  clear bxx11'
  have bxx12' := hkN.cell bxx12 (fun h => h)
  clear bxx12
  have bxx12 := bxx12'
  clear bxx12'
  have lbx1' := Nat.lt_of_lt_of_le lbx1 hN.size
  clear lbx1
  have lbx1 := lbx1'
  clear lbx1'
  have bxg0' := hkN.cell bxg0 (fun h => h)
  clear bxg0
  have bxg0 := bxg0'
  clear bxg0'
  have bxg1' := hkN.cell bxg1 (fun h => h)
  clear bxg1
  have bxg1 := bxg1'
  clear bxg1'
  have bxg2' := hkN.cell bxg2 (fun h => h)
  clear bxg2
  have bxg2 := bxg2'
  clear bxg2'
  have lbg' := Nat.lt_of_lt_of_le lbg hN.size
  clear lbg
  have lbg := lbg'
  clear lbg'
  have bxl0' := hkN.cell bxl0 (fun h => h)
  clear bxl0
  have bxl0 := bxl0'
  clear bxl0'
  have bxl1' := hkN.cell bxl1 (fun h => h)
  clear bxl1
  have bxl1 := bxl1'
  clear bxl1'
  have bxl2' := hkN.cell bxl2 (fun h => h)
  clear bxl2
  have bxl2 := bxl2'
  clear bxl2'
  have lbl' := Nat.lt_of_lt_of_le lbl hN.size
  clear lbl
  have lbl := lbl'
  clear lbl'
  clear hkN
  have hzwh2 := hN.size
  clear hN
  have hpq2 : 0 ≤ 1 + (RT.length : Int) + (RF.length : Int) := by omega
  go_wp2_with (fail)
  go_ret
  exact ⟨rfl, hBw_36⟩
end Go.Proofs.YthmkcdipljbdnaaDoor

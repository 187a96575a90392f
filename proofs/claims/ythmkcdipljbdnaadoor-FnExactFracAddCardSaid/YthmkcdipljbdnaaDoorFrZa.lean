/-
  The contract of FracBack of the program.
  The contracts of l4Fit, FracBack of the model.
  The contract of FracAdd of the model.
  The contracts of bothValid, FracSame.
  The contract of FracAdd of the program.
-/
import Derived.Test.YthmkcdipljbdnaaDoorFrL
import Derived.Deep.RegionHeld3
import Derived.Test.YthmkcdipljbdnaaDoorPTimes
import Derived.Test.YthmkcdipljbdnaaDoorFrW
import Derived.Test.YthmkcdipljbdnaaDoorFrM
namespace Go.Proofs.YthmkcdipljbdnaaDoor
open Go.RowKit
end Go.Proofs.YthmkcdipljbdnaaDoor
namespace Go.Proofs.YthmkcdipljbdnaaDoor
open Go.RowKit
theorem leastR_fit {p : Int} {up low : List Int} (hu : polB p up = true) (hl : polB p low = true) (h0 : low.length ≠ 0) (hz : co low 0 ≠ 0) : leastR p up low = if fracB p (leastL p up low).1 (leastL p up low).2 = true then some (p, (leastL p up low).1, (leastL p up low).2) else none := by
  obtain ⟨l1, l2, l3, l4, _, _⟩ := least_law hu hl h0 hz
  by_cases h : (leastL p up low).1.length ≤ 12 ∧ (leastL p up low).2.length ≤ 12
  · rw [if_pos, leastR_yes h0 hz h.1 h.2]
    unfold fracB
    simp only [Bool.and_eq_true, decide_eq_true_eq]
    exact ⟨⟨⟨⟨⟨l1, l2⟩, h.1⟩, h.2⟩, by omega⟩, by omega⟩
  · rw [if_neg]
    · unfold leastR leastO
      rw [if_neg (fun h' => h ⟨h'.2.2.1, h'.2.2.2⟩)]
      rfl
    · intro hf
      obtain ⟨_, _, a, b, _, _⟩ := fracB_true hf
      exact h ⟨a, b⟩
set_option maxRecDepth 100000 in
set_option maxHeartbeats 2000000 in
theorem specFit (v : Value) (p : Int) (X Y : List Int) (w : World) (B : Nat) (h : RO w B v p X Y) :
    Calls Tryd.prog 19 #[v] w fun e w' => ∃ u, e = .returned (.tuple #[u, .bool (fracB p X Y)]) ∧ (fracB p X Y = true → RO w' B u p X Y) ∧ (fracB p X Y = false → u = .agg #[.int .i64 0, .slice none 0 0, .slice none 0 0]) ∧ Below w.heap.size w w' := by
  have HV0 := Lib.hid h.rv
  have HRO := Lib.hid h
  obtain ⟨A, c, A', c', rfl, h1, h2, h3⟩ := h
  have hbx := (Bx.new w (.int .i64 p) (.slice A X.length c) (.slice A' Y.length c') 26).below (below_new _ (.cells #[.int .i64 0, .slice none 0 0, .slice none 0 0] 26))
  have hbw := BxW.new (w.alloc (.cells #[.int .i64 p, .slice A X.length c, .slice A' Y.length c'] 26)) (.int .i64 0) (.slice none 0 0) (.slice none 0 0) 26
  rw [World.size_alloc] at hbw
  have hB0 := ((Below.refl w.heap.size w).alloc (Nat.le_refl _) (.cells #[.int .i64 p, .slice A X.length c, .slice A' Y.length c'] 26)).alloc (by simp) (.cells #[.int .i64 0, .slice none 0 0, .slice none 0 0] 26)
  have HV := Lib.hid (HV0.out.below hB0)
  have HRO := Lib.hid (HRO.out.below hB0)
  have HLT := Lib.hid (show ∀ g, recBlk (.agg #[.int .i64 p, .slice A X.length c, .slice A' Y.length c']) g → B ≤ g ∧ g < w.heap.size from fun g hg => (RO.lt ⟨A, c, A', c', rfl, h1, h2, h3⟩ : ∀ g, recBlk _ g → B ≤ g ∧ g < w.heap.size) g hg)
  have HBX := Lib.hid hbx
  have HBW := Lib.hid hbw
  have HB0 := Lib.hid hB0
  clear h1 h2 h3 hbx hbw hB0 HV0
  rcases hv : fracB p X Y
  · have HV1 := Lib.hid hv
    clear hv
    go_enter Tryd.func19, Tryd.ntmps19
    go_wp2_with (go_at_call 15; refine (specFracValid _ p X Y _ HV.out).mono ?_; rintro e w1 ⟨rfl, hB⟩; rw [HV1.out]; have HB1 := Lib.hid (below_more HB0.out hB); have hbw := HBW.out.below hB; have x0 := hbw.c.1; have x1 := hbw.c.2.1; have x2 := hbw.c.2.2; have fz := hbw.fz; clear hB hbw)
    refine bodyPost_ret (v := .tuple #[.agg #[.int .i64 0, .slice none 0 0, .slice none 0 0], .bool false]) (by simp [results, Tryd.f19, go_sem, x0, x1, x2]) rfl ?_
    exact ⟨_, rfl, fun h => (by cases h), fun _ => rfl, HB1.out.trans (set3_far w1 (w.heap.size + 1) _ _ _ (by omega) HB1.out.size)⟩
  · have HV1 := Lib.hid hv
    clear hv
    go_enter Tryd.func19, Tryd.ntmps19
    go_wp2_with (go_at_call 15; refine (specFracValid _ p X Y _ HV.out).mono ?_; rintro e w1 ⟨rfl, hB⟩; rw [HV1.out]; have HB1 := Lib.hid (below_more HB0.out hB); have HRO1 := Lib.hid (HRO.out.below hB); have hbx := HBX.out.below hB; have y0 := hbx.1; have y1 := hbx.2.1; have y2 := hbx.2.2; have hbw := HBW.out.below hB; have x0 := hbw.c.1; have x1 := hbw.c.2.1; have x2 := hbw.c.2.2; have fz := hbw.fz; clear hB hbw hbx)
    refine bodyPost_ret (v := .tuple #[.agg #[.int .i64 p, .slice A X.length c, .slice A' Y.length c'], .bool true]) (by simp [results, Tryd.f19, go_sem, x0, x1, x2]) rfl ?_
    exact ⟨_, rfl, fun _ => HRO1.out.keep (set3_keep w1 (w.heap.size + 1) _ _ _) (fun k hk e => by have := (HLT.out k hk).2; omega), fun h => (by cases h), HB1.out.trans (set3_far w1 (w.heap.size + 1) _ _ _ (by omega) HB1.out.size)⟩
end Go.Proofs.YthmkcdipljbdnaaDoor
namespace Go.Proofs.YthmkcdipljbdnaaDoor
open Go.RowKit
set_option maxRecDepth 100000 in
set_option maxHeartbeats 32000000 in
theorem specFracAdd (v : Value) (p : Int) (U L : List Int) (v' : Value) (p' : Int) (U' L' : List Int) (w : World) (h : RV w v p U L) (h' : RV w v' p' U' L') :
    Calls Tryd.prog 6 #[v, v'] w (MadeRB (fracAddR p U L p' U' L') w) := by
  have HQ := Lib.hid h
  have HQ' := Lib.hid h'
  obtain ⟨A, n, c, b, o, A', n', c', b', o', rfl, g1, g2⟩ := h
  obtain ⟨B, m, d, y, x, B', m', d', y', x', rfl, k1, k2⟩ := h'
  obtain ⟨W0, hW0⟩ : ∃ W0, ((w.alloc (.cells #[.int .i64 p, .slice A n c, .slice A' n' c'] 26)).alloc (.cells #[.int .i64 p', .slice B m d, .slice B' m' d'] 26)).alloc (.cells #[.int .i64 0, .slice none 0 0, .slice none 0 0] 26) = W0 := ⟨_, rfl⟩
  have hB0 : Below w.heap.size w W0 := by rw [← hW0]; exact (((Below.refl _ w).alloc (Nat.le_refl _) _).alloc (by simp) _).alloc (by simp; omega) _
  have hba : Bx W0 w.heap.size (.int .i64 p) (.slice A n c) (.slice A' n' c') := by rw [← hW0]; exact ((Bx.new w _ _ _ _).below (below_new _ _)).below (below_new _ _)
  have hbb : Bx W0 (w.heap.size + 1) (.int .i64 p') (.slice B m d) (.slice B' m' d') := by
    have := (Bx.new (w.alloc (.cells #[.int .i64 p, .slice A n c, .slice A' n' c'] 26)) (.int .i64 p') (.slice B m d) (.slice B' m' d') 26).below (below_new _ (.cells #[.int .i64 0, .slice none 0 0, .slice none 0 0] 26))
    rw [World.size_alloc] at this
    rw [← hW0]; exact this
  have hbw : BxW W0 (w.heap.size + 1 + 1) (.int .i64 0) (.slice none 0 0) (.slice none 0 0) := by
    have := BxW.new ((w.alloc (.cells #[.int .i64 p, .slice A n c, .slice A' n' c'] 26)).alloc (.cells #[.int .i64 p', .slice B m d, .slice B' m' d'] 26)) (.int .i64 0) (.slice none 0 0) (.slice none 0 0) 26
    rw [World.size_alloc, World.size_alloc] at this
    rw [← hW0]; exact this
  have H0 := Lib.hid (HQ.out.below hB0)
  have H0' := Lib.hid (HQ'.out.below hB0)
  have IU := Lib.hid (g1.below hB0)
  have IL := Lib.hid (g2.below hB0)
  have IU' := Lib.hid (k1.below hB0)
  have IL' := Lib.hid (k2.below hB0)
  have BA := Lib.hid hba
  have BB := Lib.hid hbb
  have BW := Lib.hid hbw
  have HB0 := Lib.hid hB0
  clear g1 g2 k1 k2 hba hbb hbw hB0 HQ HQ'
  obtain ⟨x0, x1, x2⟩ := BA.out
  rcases ha : fracB p U L
  · have HA := Lib.hid ha
    have HR := Lib.hid (show fracAddR p U L p' U' L' = none by unfold fracAddR bothB; rw [ha]; rfl)
    clear ha
    go_enter Tryd.func6, Tryd.ntmps6
    go_wp2_with (go_at_call 15; (with_reducible refine (specFracValid _ p U L _ H0.out).mono ?_); rintro e w1 ⟨rfl, hB⟩; rw [HA.out]; have HB1 := Lib.hid (below_more HB0.out hB); have BA1 := Lib.hid (BA.out.below hB); have BB1 := Lib.hid (BB.out.below hB); have BW1 := Lib.hid (BW.out.below hB); have IU1 := Lib.hid (IU.out.below hB); have IL1 := Lib.hid (IL.out.below hB); have JU1 := Lib.hid (IU'.out.below hB); have JL1 := Lib.hid (IL'.out.below hB); have HV1 := Lib.hid (H0.out.below hB); have HV1' := Lib.hid (H0'.out.below hB); obtain ⟨y10, y11, y12⟩ := BA1.out; obtain ⟨t10, t11, t12⟩ := BB1.out; obtain ⟨x10, x11, x12⟩ := BW1.out.c; have fz1 := BW1.out.fz; clear hB)
    refine bodyPost_ret (v := .tuple #[.agg #[.int .i64 0, .slice none 0 0, .slice none 0 0], .bool false]) (by simp [results, Tryd.f6, go_sem, x10, x11, x12]) rfl ?_
    rw [HR.out]
    exact madeb_no HB1.out (by omega)
  have HA := Lib.hid ha
  rcases hb : fracB p' U' L'
  · have HA' := Lib.hid hb
    have HR := Lib.hid (show fracAddR p U L p' U' L' = none by unfold fracAddR bothB; rw [hb, ha]; rfl)
    clear ha hb
    go_enter Tryd.func6, Tryd.ntmps6
    go_wp2_with (first | (go_at_call 15; (with_reducible refine (specFracValid _ p U L _ H0.out).mono ?_); rintro e w1 ⟨rfl, hB⟩; rw [HA.out]; have HB1 := Lib.hid (below_more HB0.out hB); have BA1 := Lib.hid (BA.out.below hB); have BB1 := Lib.hid (BB.out.below hB); have BW1 := Lib.hid (BW.out.below hB); have IU1 := Lib.hid (IU.out.below hB); have IL1 := Lib.hid (IL.out.below hB); have JU1 := Lib.hid (IU'.out.below hB); have JL1 := Lib.hid (IL'.out.below hB); have HV1 := Lib.hid (H0.out.below hB); have HV1' := Lib.hid (H0'.out.below hB); obtain ⟨y10, y11, y12⟩ := BA1.out; obtain ⟨t10, t11, t12⟩ := BB1.out; obtain ⟨x10, x11, x12⟩ := BW1.out.c; have fz1 := BW1.out.fz; clear hB) | (go_at_call 15; (with_reducible refine (specFracValid _ p' U' L' _ HV1'.out).mono ?_); rintro e w2 ⟨rfl, hB⟩; rw [HA'.out]; have HB2 := Lib.hid (below_more HB1.out hB); have BA2 := Lib.hid (BA1.out.below hB); have BB2 := Lib.hid (BB1.out.below hB); have BW2 := Lib.hid (BW1.out.below hB); have IU2 := Lib.hid (IU1.out.below hB); have IL2 := Lib.hid (IL1.out.below hB); have JU2 := Lib.hid (JU1.out.below hB); have JL2 := Lib.hid (JL1.out.below hB); have HV2 := Lib.hid (HV1.out.below hB); have HV2' := Lib.hid (HV1'.out.below hB); obtain ⟨y20, y21, y22⟩ := BA2.out; obtain ⟨t20, t21, t22⟩ := BB2.out; obtain ⟨x20, x21, x22⟩ := BW2.out.c; have fz2 := BW2.out.fz; clear hB))
    refine bodyPost_ret (v := .tuple #[.agg #[.int .i64 0, .slice none 0 0, .slice none 0 0], .bool false]) (by simp [results, Tryd.f6, go_sem, x20, x21, x22]) rfl ?_
    rw [HR.out]
    exact madeb_no HB2.out (by omega)
  have HA' := Lib.hid hb
  by_cases hp : p = p'
  case neg =>
    have hq : (p == p') = false := by simpa using hp
    have HR := Lib.hid (show fracAddR p U L p' U' L' = none by unfold fracAddR bothB; rw [decide_eq_false hp, ha, hb]; rfl)
    clear ha hb hp
    go_enter Tryd.func6, Tryd.ntmps6
    go_wp2_with (first | (go_at_call 15; (with_reducible refine (specFracValid _ p U L _ H0.out).mono ?_); rintro e w1 ⟨rfl, hB⟩; rw [HA.out]; have HB1 := Lib.hid (below_more HB0.out hB); have BA1 := Lib.hid (BA.out.below hB); have BB1 := Lib.hid (BB.out.below hB); have BW1 := Lib.hid (BW.out.below hB); have IU1 := Lib.hid (IU.out.below hB); have IL1 := Lib.hid (IL.out.below hB); have JU1 := Lib.hid (IU'.out.below hB); have JL1 := Lib.hid (IL'.out.below hB); have HV1 := Lib.hid (H0.out.below hB); have HV1' := Lib.hid (H0'.out.below hB); obtain ⟨y10, y11, y12⟩ := BA1.out; obtain ⟨t10, t11, t12⟩ := BB1.out; obtain ⟨x10, x11, x12⟩ := BW1.out.c; have fz1 := BW1.out.fz; clear hB) | (go_at_call 15; (with_reducible refine (specFracValid _ p' U' L' _ HV1'.out).mono ?_); rintro e w2 ⟨rfl, hB⟩; rw [HA'.out]; have HB2 := Lib.hid (below_more HB1.out hB); have BA2 := Lib.hid (BA1.out.below hB); have BB2 := Lib.hid (BB1.out.below hB); have BW2 := Lib.hid (BW1.out.below hB); have IU2 := Lib.hid (IU1.out.below hB); have IL2 := Lib.hid (IL1.out.below hB); have JU2 := Lib.hid (JU1.out.below hB); have JL2 := Lib.hid (JL1.out.below hB); have HV2 := Lib.hid (HV1.out.below hB); have HV2' := Lib.hid (HV1'.out.below hB); obtain ⟨y20, y21, y22⟩ := BA2.out; obtain ⟨t20, t21, t22⟩ := BB2.out; obtain ⟨x20, x21, x22⟩ := BW2.out.c; have fz2 := BW2.out.fz; clear hB))
    refine bodyPost_ret (v := .tuple #[.agg #[.int .i64 0, .slice none 0 0, .slice none 0 0], .bool false]) (by simp [results, Tryd.f6, go_sem, x20, x21, x22]) rfl ?_
    rw [HR.out]
    exact madeb_no HB2.out (by omega)
  subst hp
  have hq : (p == p) = true := by simp
  obtain ⟨hu, hl, hu12, hl12, hl0, hl1⟩ := fracB_true ha
  obtain ⟨hu', hl', hu12', hl12', hl0', hl1'⟩ := fracB_true hb
  have hpr := (serB_true (polB_ser hu)).1
  obtain ⟨tl, pl, zl0, zl1⟩ := low_times hl hl' hl12 hl12' hl0 hl0' hl1 hl1'
  obtain ⟨tx, px, lx⟩ := tms_pol hu hl' hu12 hl12'
  obtain ⟨ty, py, ly⟩ := tms_pol hu' hl hu12' hl12
  have ps := add_pol 1 px py
  have HPR := Lib.hid hpr
  have HUV := Lib.hid (serB_true (polB_ser hu)).2.2
  have HUV' := Lib.hid (serB_true (polB_ser hu')).2.2
  have HLV := Lib.hid (serB_true (polB_ser hl)).2.2
  have HLV' := Lib.hid (serB_true (polB_ser hl')).2.2
  have hn1 : n ≤ 12 := by rw [← IU.out.len]; exact hu12
  have hn2 : n' ≤ 12 := by rw [← IL.out.len]; exact hl12
  have hm1 : m ≤ 12 := by rw [← IU'.out.len]; exact hu12'
  have hm2 : m' ≤ 12 := by rw [← IL'.out.len]; exact hl12'
  have hbo : bothB p U L p U' L' = true := by unfold bothB; rw [ha, hb]; simp
  obtain ⟨TX, hTX⟩ : ∃ T, tmsL p U L' = T := ⟨_, rfl⟩
  obtain ⟨TY, hTY⟩ : ∃ T, tmsL p U' L = T := ⟨_, rfl⟩
  obtain ⟨TL, hTL⟩ : ∃ T, tmsL p L L' = T := ⟨_, rfl⟩
  rw [hTX] at tx px lx ps
  rw [hTY] at ty py ly ps
  rw [hTL] at tl pl zl0 zl1
  obtain ⟨TS, hTS⟩ : ∃ T, addL p TX TY 1 = T := ⟨_, rfl⟩
  rw [hTS] at ps
  have hls : TS.length ≤ 24 := (serB_true (polB_ser ps)).2.1
  have hll : TL.length ≤ 24 := (serB_true (polB_ser pl)).2.1
  have HTS := Lib.hid hTS
  have HXV := Lib.hid (serB_true (polB_ser px)).2.2
  have HYV := Lib.hid (serB_true (polB_ser py)).2.2
  have HPS := Lib.hid ps
  have HPL := Lib.hid pl
  have HTX := Lib.hid (show convR p U L' (tmsN U L') = TX from hTX)
  have HTY := Lib.hid (show convR p U' L (tmsN U' L) = TY from hTY)
  have HTL := Lib.hid (show convR p L L' (tmsN L L') = TL from hTL)
  have HRX := Lib.hid tx
  have HRY := Lib.hid ty
  have HZL := Lib.hid (And.intro zl0 zl1)
  obtain ⟨X, hX⟩ : ∃ X, (leastL p TS TL).1 = X := ⟨_, rfl⟩
  obtain ⟨Y, hY⟩ : ∃ Y, (leastL p TS TL).2 = Y := ⟨_, rfl⟩
  have HXY := Lib.hid (And.intro hX hY)
  have hEQ : fracAddR p U L p U' L' = if fracB p X Y = true then some (p, X, Y) else none := by
    rw [← hX, ← hY]; unfold fracAddR; rw [if_pos hbo, hTX, hTY, hTL, hTS]; exact leastR_fit ps pl zl0 zl1
  clear hu hl hu12 hl12 hl0 hl1 hu' hl' hu12' hl12' hl0' hl1' hpr tl pl zl0 zl1 tx px ty py ps ha hb hbo hTX hTY hTL hTS hX hY
  rcases hf : fracB p X Y
  · have HR := Lib.hid (show fracAddR p U L p U' L' = none by rw [hEQ, if_neg (by simp [hf])])
    have HF := Lib.hid hf
    clear hEQ hf
    go_enter Tryd.func6, Tryd.ntmps6
    go_wp2_with (first | (go_at_call 15; (with_reducible refine (specFracValid _ p U L _ H0.out).mono ?_); rintro e w1 ⟨rfl, hB⟩; rw [HA.out]; have HB1 := Lib.hid (below_more HB0.out hB); have BA1 := Lib.hid (BA.out.below hB); have BB1 := Lib.hid (BB.out.below hB); have BW1 := Lib.hid (BW.out.below hB); have IU1 := Lib.hid (IU.out.below hB); have IL1 := Lib.hid (IL.out.below hB); have JU1 := Lib.hid (IU'.out.below hB); have JL1 := Lib.hid (IL'.out.below hB); have HV1 := Lib.hid (H0.out.below hB); have HV1' := Lib.hid (H0'.out.below hB); obtain ⟨y10, y11, y12⟩ := BA1.out; obtain ⟨t10, t11, t12⟩ := BB1.out; obtain ⟨x10, x11, x12⟩ := BW1.out.c; have fz1 := BW1.out.fz; clear hB) | (go_at_call 15; (with_reducible refine (specFracValid _ p U' L' _ HV1'.out).mono ?_); rintro e w2 ⟨rfl, hB⟩; rw [HA'.out]; have HB2 := Lib.hid (below_more HB1.out hB); have BA2 := Lib.hid (BA1.out.below hB); have BB2 := Lib.hid (BB1.out.below hB); have BW2 := Lib.hid (BW1.out.below hB); have IU2 := Lib.hid (IU1.out.below hB); have IL2 := Lib.hid (IL1.out.below hB); have JU2 := Lib.hid (JU1.out.below hB); have JL2 := Lib.hid (JL1.out.below hB); have HV2 := Lib.hid (HV1.out.below hB); have HV2' := Lib.hid (HV1'.out.below hB); obtain ⟨y20, y21, y22⟩ := BA2.out; obtain ⟨t20, t21, t22⟩ := BB2.out; obtain ⟨x20, x21, x22⟩ := BW2.out.c; have fz2 := BW2.out.fz; clear hB))
    clear hW0 x0 x1 x2 y10 y11 y12 t10 t11 t12 x10 x11 x12 fz1 y20 y21 y22 t20 t21 t22 x20 x21 x22 fz2
    have hf0 : ∀ (W : World) (o o' : Nat) (v : Value), (W.setCell ⟨w.heap.size + 1 + 1, o, none⟩ v).cell? ⟨w.heap.size, o', none⟩ = W.cell? ⟨w.heap.size, o', none⟩ := fun W o o' v => World.cell?_setCell_far _ _ _ _ (by show w.heap.size + 1 + 1 ≠ w.heap.size; omega)
    have hf1 : ∀ (W : World) (o o' : Nat) (v : Value), (W.setCell ⟨w.heap.size + 1 + 1, o, none⟩ v).cell? ⟨w.heap.size + 1, o', none⟩ = W.cell? ⟨w.heap.size + 1, o', none⟩ := fun W o o' v => World.cell?_setCell_far _ _ _ _ (by show w.heap.size + 1 + 1 ≠ w.heap.size + 1; omega)
    have ZS := And.intro BA2.out BB2.out
    have Zd := And.intro BA2.out.drew BB2.out.drew
    unfold Bx at ZS Zd
    go_region_held3 (fun w' => (w'.cell? ⟨w.heap.size, 0, none⟩ = some (.int .i64 p) ∧ w'.cell? ⟨w.heap.size, 1, none⟩ = some (.slice A n c) ∧ w'.cell? ⟨w.heap.size, 2, none⟩ = some (.slice A' n' c')) ∧ (w'.cell? ⟨w.heap.size + 1, 0, none⟩ = some (.int .i64 p) ∧ w'.cell? ⟨w.heap.size + 1, 1, none⟩ = some (.slice B m d) ∧ w'.cell? ⟨w.heap.size + 1, 2, none⟩ = some (.slice B' m' d'))) (first | assumption | exact Z7 | exact Z6 | exact Z5 | exact Z4 | exact Z3 | exact Zd | exact ZS | (simp only [hf0, hf1]; exact Z7) | go_keep)
      (first
        | (go_at_call 18; (with_reducible refine (specTms p A n c b o U B' m' d' y' x' L' _ (IU2.out.below (below_new_drew _)) (JL2.out.below (below_new_drew _)) HPR.out HUV.out HLV'.out (by omega) (by omega)).mono ?_); rw [HTX.out]; rintro e w3 ⟨Aa, ca, rfl, hO, hB⟩; have hcpa := OI.capLe hO; obtain ⟨ba, hI, hAa⟩ := OI.iaA hO; have HIa3 := Lib.hid hI; have HB3 := Lib.hid (below_more HB2.out.drew hB); have BA3 := Lib.hid (BA2.out.drew.below hB); have BB3 := Lib.hid (BB2.out.drew.below hB); have BW3 := Lib.hid (BW2.out.drew.below hB); have IU3 := Lib.hid ((IU2.out.below (below_new_drew _)).below hB); have IL3 := Lib.hid ((IL2.out.below (below_new_drew _)).below hB); have JU3 := Lib.hid ((JU2.out.below (below_new_drew _)).below hB); have JL3 := Lib.hid ((JL2.out.below (below_new_drew _)).below hB); have Z3 := And.intro BA3.out BB3.out; unfold Bx at Z3; clear hO hI hB)
        | (go_at_call 17; (with_reducible refine (specTrim Aa TX.length ca ba 0 TX _ HIa3.out (by omega) hcpa hAa).mono ?_); rw [HRX.out]; rintro e w4 ⟨Ae, ce, rfl, hO, hB⟩; have hcpe := OI.capLe hO; obtain ⟨be, hI, hAe⟩ := OI.iaA hO; have HIe4 := Lib.hid hI; have HB4 := Lib.hid (below_more HB3.out hB); have BA4 := Lib.hid (BA3.out.below hB); have BB4 := Lib.hid (BB3.out.below hB); have BW4 := Lib.hid (BW3.out.below hB); have IU4 := Lib.hid (IU3.out.below hB); have IL4 := Lib.hid (IL3.out.below hB); have JU4 := Lib.hid (JU3.out.below hB); have JL4 := Lib.hid (JL3.out.below hB); have HIa4 := Lib.hid (HIa3.out.below hB); have Z4 := And.intro BA4.out BB4.out; unfold Bx at Z4; clear hO hI hB)
        | (go_at_call 18; (with_reducible refine (specTms p B m d y x U' A' n' c' b' o' L _ JU4.out IL4.out HPR.out HUV'.out HLV.out (by omega) (by omega)).mono ?_); rw [HTY.out]; rintro e w5 ⟨Af, cf, rfl, hO, hB⟩; have hcpf := OI.capLe hO; obtain ⟨bf, hI, hAf⟩ := OI.iaA hO; have HIf5 := Lib.hid hI; have HB5 := Lib.hid (below_more HB4.out hB); have BA5 := Lib.hid (BA4.out.below hB); have BB5 := Lib.hid (BB4.out.below hB); have BW5 := Lib.hid (BW4.out.below hB); have IU5 := Lib.hid (IU4.out.below hB); have IL5 := Lib.hid (IL4.out.below hB); have JU5 := Lib.hid (JU4.out.below hB); have JL5 := Lib.hid (JL4.out.below hB); have HIa5 := Lib.hid (HIa4.out.below hB); have HIe5 := Lib.hid (HIe4.out.below hB); have Z5 := And.intro BA5.out BB5.out; unfold Bx at Z5; clear hO hI hB)
        | (go_at_call 17; (with_reducible refine (specTrim Af TY.length cf bf 0 TY _ HIf5.out (by omega) hcpf hAf).mono ?_); rw [HRY.out]; rintro e w6 ⟨Ag, cg, rfl, hO, hB⟩; have hcpg := OI.capLe hO; obtain ⟨bg, hI, hAg⟩ := OI.iaA hO; have HIg6 := Lib.hid hI; have HB6 := Lib.hid (below_more HB5.out hB); have BA6 := Lib.hid (BA5.out.below hB); have BB6 := Lib.hid (BB5.out.below hB); have BW6 := Lib.hid (BW5.out.below hB); have IU6 := Lib.hid (IU5.out.below hB); have IL6 := Lib.hid (IL5.out.below hB); have JU6 := Lib.hid (JU5.out.below hB); have JL6 := Lib.hid (JL5.out.below hB); have HIa6 := Lib.hid (HIa5.out.below hB); have HIe6 := Lib.hid (HIe5.out.below hB); have HIf6 := Lib.hid (HIf5.out.below hB); have Z6 := And.intro BA6.out BB6.out; unfold Bx at Z6; clear hO hI hB)
        | (go_at_call 16; (with_reducible refine (specAdd p 1 Ae _ ce be 0 TX Ag _ cg bg 0 TY _ HIe6.out HIg6.out HPR.out HXV.out HYV.out ⟨by decide, by decide⟩ (by omega) (by omega)).mono ?_); rw [HTS.out]; rintro e w7 ⟨As, cs, rfl, hO, hB⟩; have hcps := OI.capLe hO; obtain ⟨bs, hI, hAs⟩ := OI.iaA hO; have HIs7 := Lib.hid hI; have HB7 := Lib.hid (below_more HB6.out hB); have BA7 := Lib.hid (BA6.out.below hB); have BB7 := Lib.hid (BB6.out.below hB); have BW7 := Lib.hid (BW6.out.below hB); have IU7 := Lib.hid (IU6.out.below hB); have IL7 := Lib.hid (IL6.out.below hB); have JU7 := Lib.hid (JU6.out.below hB); have JL7 := Lib.hid (JL6.out.below hB); have HIa7 := Lib.hid (HIa6.out.below hB); have HIe7 := Lib.hid (HIe6.out.below hB); have HIf7 := Lib.hid (HIf6.out.below hB); have HIg7 := Lib.hid (HIg6.out.below hB); have Z7 := And.intro BA7.out BB7.out; unfold Bx at Z7; clear hO hI hB))
    all_goals
      clear ZS Zd hf0 hf1
      obtain ⟨y0, y1, y2⟩ := BA7.out
      obtain ⟨t0, t1, t2⟩ := BB7.out
      go_wp2_with (fail)
      refine (specTms p A' n' c' b' o' L B' m' d' y' x' L' _ IL7.out JL7.out HPR.out HLV.out HLV'.out (by omega) (by omega)).mono ?_
      rw [HTL.out]
      rintro e wl ⟨Al, cl, rfl, hO, hB⟩
      obtain ⟨bl, hI⟩ := hO.ia
      have HIl := Lib.hid hI
      have HIsl := Lib.hid (HIs7.out.below hB)
      have HBl := Lib.hid (below_more HB7.out hB)
      have BWl := Lib.hid (BW7.out.below hB)
      clear hO hI hB y0 y1 y2 t0 t1 t2
      go_wp2_with (fail)
      refine (specLeast p As _ cs bs 0 TS Al _ cl bl 0 TL _ HIsl.out HIl.out HPS.out HPL.out HZL.out.1 HZL.out.2).mono ?_
      rw [HXY.out.1, HXY.out.2]
      rintro e wm ⟨v9, rfl, hO, hB⟩
      have HO9 := Lib.hid hO
      have hsz9 := HBl.out.size
      have hlo9 := BWl.out.c.lt
      have HBm := Lib.hid (below_more HBl.out hB)
      have BWm := Lib.hid (BWl.out.below hB)
      clear hO hB
      go_wp2_with (fail)
      refine (specFit v9 p X Y _ _ HO9.out).mono ?_
      rw [HF.out]
      rintro e wn ⟨u9, rfl, _, hz, hB⟩
      have hu9 := hz rfl
      subst hu9
      have HBn := Lib.hid (below_more HBm.out hB)
      have BWn := Lib.hid (BWm.out.below hB)
      clear hz hB
      obtain ⟨x0, x1, x2⟩ := BWn.out.c
      have fz := BWn.out.fz
      go_wp2_with (fail)
      refine bodyPost_ret (v := .tuple #[.agg #[.int .i64 0, .slice none 0 0, .slice none 0 0], .bool false]) (by simp [results, Tryd.f6, go_sem, x0, x1, x2]) rfl ?_
      rw [HR.out]
      exact madeb_no HBn.out (by omega)
  · have HR := Lib.hid (show fracAddR p U L p U' L' = some (p, X, Y) by rw [hEQ, if_pos hf])
    have HF := Lib.hid hf
    clear hEQ hf
    go_enter Tryd.func6, Tryd.ntmps6
    go_wp2_with (first | (go_at_call 15; (with_reducible refine (specFracValid _ p U L _ H0.out).mono ?_); rintro e w1 ⟨rfl, hB⟩; rw [HA.out]; have HB1 := Lib.hid (below_more HB0.out hB); have BA1 := Lib.hid (BA.out.below hB); have BB1 := Lib.hid (BB.out.below hB); have BW1 := Lib.hid (BW.out.below hB); have IU1 := Lib.hid (IU.out.below hB); have IL1 := Lib.hid (IL.out.below hB); have JU1 := Lib.hid (IU'.out.below hB); have JL1 := Lib.hid (IL'.out.below hB); have HV1 := Lib.hid (H0.out.below hB); have HV1' := Lib.hid (H0'.out.below hB); obtain ⟨y10, y11, y12⟩ := BA1.out; obtain ⟨t10, t11, t12⟩ := BB1.out; obtain ⟨x10, x11, x12⟩ := BW1.out.c; have fz1 := BW1.out.fz; clear hB) | (go_at_call 15; (with_reducible refine (specFracValid _ p U' L' _ HV1'.out).mono ?_); rintro e w2 ⟨rfl, hB⟩; rw [HA'.out]; have HB2 := Lib.hid (below_more HB1.out hB); have BA2 := Lib.hid (BA1.out.below hB); have BB2 := Lib.hid (BB1.out.below hB); have BW2 := Lib.hid (BW1.out.below hB); have IU2 := Lib.hid (IU1.out.below hB); have IL2 := Lib.hid (IL1.out.below hB); have JU2 := Lib.hid (JU1.out.below hB); have JL2 := Lib.hid (JL1.out.below hB); have HV2 := Lib.hid (HV1.out.below hB); have HV2' := Lib.hid (HV1'.out.below hB); obtain ⟨y20, y21, y22⟩ := BA2.out; obtain ⟨t20, t21, t22⟩ := BB2.out; obtain ⟨x20, x21, x22⟩ := BW2.out.c; have fz2 := BW2.out.fz; clear hB))
    clear hW0 x0 x1 x2 y10 y11 y12 t10 t11 t12 x10 x11 x12 fz1 y20 y21 y22 t20 t21 t22 x20 x21 x22 fz2
    have hf0 : ∀ (W : World) (o o' : Nat) (v : Value), (W.setCell ⟨w.heap.size + 1 + 1, o, none⟩ v).cell? ⟨w.heap.size, o', none⟩ = W.cell? ⟨w.heap.size, o', none⟩ := fun W o o' v => World.cell?_setCell_far _ _ _ _ (by show w.heap.size + 1 + 1 ≠ w.heap.size; omega)
    have hf1 : ∀ (W : World) (o o' : Nat) (v : Value), (W.setCell ⟨w.heap.size + 1 + 1, o, none⟩ v).cell? ⟨w.heap.size + 1, o', none⟩ = W.cell? ⟨w.heap.size + 1, o', none⟩ := fun W o o' v => World.cell?_setCell_far _ _ _ _ (by show w.heap.size + 1 + 1 ≠ w.heap.size + 1; omega)
    have ZS := And.intro BA2.out BB2.out
    have Zd := And.intro BA2.out.drew BB2.out.drew
    unfold Bx at ZS Zd
    go_region_held3 (fun w' => (w'.cell? ⟨w.heap.size, 0, none⟩ = some (.int .i64 p) ∧ w'.cell? ⟨w.heap.size, 1, none⟩ = some (.slice A n c) ∧ w'.cell? ⟨w.heap.size, 2, none⟩ = some (.slice A' n' c')) ∧ (w'.cell? ⟨w.heap.size + 1, 0, none⟩ = some (.int .i64 p) ∧ w'.cell? ⟨w.heap.size + 1, 1, none⟩ = some (.slice B m d) ∧ w'.cell? ⟨w.heap.size + 1, 2, none⟩ = some (.slice B' m' d'))) (first | assumption | exact Z7 | exact Z6 | exact Z5 | exact Z4 | exact Z3 | exact Zd | exact ZS | (simp only [hf0, hf1]; exact Z7) | go_keep)
      (first
        | (go_at_call 18; (with_reducible refine (specTms p A n c b o U B' m' d' y' x' L' _ (IU2.out.below (below_new_drew _)) (JL2.out.below (below_new_drew _)) HPR.out HUV.out HLV'.out (by omega) (by omega)).mono ?_); rw [HTX.out]; rintro e w3 ⟨Aa, ca, rfl, hO, hB⟩; have hcpa := OI.capLe hO; obtain ⟨ba, hI, hAa⟩ := OI.iaA hO; have HIa3 := Lib.hid hI; have HB3 := Lib.hid (below_more HB2.out.drew hB); have BA3 := Lib.hid (BA2.out.drew.below hB); have BB3 := Lib.hid (BB2.out.drew.below hB); have BW3 := Lib.hid (BW2.out.drew.below hB); have IU3 := Lib.hid ((IU2.out.below (below_new_drew _)).below hB); have IL3 := Lib.hid ((IL2.out.below (below_new_drew _)).below hB); have JU3 := Lib.hid ((JU2.out.below (below_new_drew _)).below hB); have JL3 := Lib.hid ((JL2.out.below (below_new_drew _)).below hB); have Z3 := And.intro BA3.out BB3.out; unfold Bx at Z3; clear hO hI hB)
        | (go_at_call 17; (with_reducible refine (specTrim Aa TX.length ca ba 0 TX _ HIa3.out (by omega) hcpa hAa).mono ?_); rw [HRX.out]; rintro e w4 ⟨Ae, ce, rfl, hO, hB⟩; have hcpe := OI.capLe hO; obtain ⟨be, hI, hAe⟩ := OI.iaA hO; have HIe4 := Lib.hid hI; have HB4 := Lib.hid (below_more HB3.out hB); have BA4 := Lib.hid (BA3.out.below hB); have BB4 := Lib.hid (BB3.out.below hB); have BW4 := Lib.hid (BW3.out.below hB); have IU4 := Lib.hid (IU3.out.below hB); have IL4 := Lib.hid (IL3.out.below hB); have JU4 := Lib.hid (JU3.out.below hB); have JL4 := Lib.hid (JL3.out.below hB); have HIa4 := Lib.hid (HIa3.out.below hB); have Z4 := And.intro BA4.out BB4.out; unfold Bx at Z4; clear hO hI hB)
        | (go_at_call 18; (with_reducible refine (specTms p B m d y x U' A' n' c' b' o' L _ JU4.out IL4.out HPR.out HUV'.out HLV.out (by omega) (by omega)).mono ?_); rw [HTY.out]; rintro e w5 ⟨Af, cf, rfl, hO, hB⟩; have hcpf := OI.capLe hO; obtain ⟨bf, hI, hAf⟩ := OI.iaA hO; have HIf5 := Lib.hid hI; have HB5 := Lib.hid (below_more HB4.out hB); have BA5 := Lib.hid (BA4.out.below hB); have BB5 := Lib.hid (BB4.out.below hB); have BW5 := Lib.hid (BW4.out.below hB); have IU5 := Lib.hid (IU4.out.below hB); have IL5 := Lib.hid (IL4.out.below hB); have JU5 := Lib.hid (JU4.out.below hB); have JL5 := Lib.hid (JL4.out.below hB); have HIa5 := Lib.hid (HIa4.out.below hB); have HIe5 := Lib.hid (HIe4.out.below hB); have Z5 := And.intro BA5.out BB5.out; unfold Bx at Z5; clear hO hI hB)
        | (go_at_call 17; (with_reducible refine (specTrim Af TY.length cf bf 0 TY _ HIf5.out (by omega) hcpf hAf).mono ?_); rw [HRY.out]; rintro e w6 ⟨Ag, cg, rfl, hO, hB⟩; have hcpg := OI.capLe hO; obtain ⟨bg, hI, hAg⟩ := OI.iaA hO; have HIg6 := Lib.hid hI; have HB6 := Lib.hid (below_more HB5.out hB); have BA6 := Lib.hid (BA5.out.below hB); have BB6 := Lib.hid (BB5.out.below hB); have BW6 := Lib.hid (BW5.out.below hB); have IU6 := Lib.hid (IU5.out.below hB); have IL6 := Lib.hid (IL5.out.below hB); have JU6 := Lib.hid (JU5.out.below hB); have JL6 := Lib.hid (JL5.out.below hB); have HIa6 := Lib.hid (HIa5.out.below hB); have HIe6 := Lib.hid (HIe5.out.below hB); have HIf6 := Lib.hid (HIf5.out.below hB); have Z6 := And.intro BA6.out BB6.out; unfold Bx at Z6; clear hO hI hB)
        | (go_at_call 16; (with_reducible refine (specAdd p 1 Ae _ ce be 0 TX Ag _ cg bg 0 TY _ HIe6.out HIg6.out HPR.out HXV.out HYV.out ⟨by decide, by decide⟩ (by omega) (by omega)).mono ?_); rw [HTS.out]; rintro e w7 ⟨As, cs, rfl, hO, hB⟩; have hcps := OI.capLe hO; obtain ⟨bs, hI, hAs⟩ := OI.iaA hO; have HIs7 := Lib.hid hI; have HB7 := Lib.hid (below_more HB6.out hB); have BA7 := Lib.hid (BA6.out.below hB); have BB7 := Lib.hid (BB6.out.below hB); have BW7 := Lib.hid (BW6.out.below hB); have IU7 := Lib.hid (IU6.out.below hB); have IL7 := Lib.hid (IL6.out.below hB); have JU7 := Lib.hid (JU6.out.below hB); have JL7 := Lib.hid (JL6.out.below hB); have HIa7 := Lib.hid (HIa6.out.below hB); have HIe7 := Lib.hid (HIe6.out.below hB); have HIf7 := Lib.hid (HIf6.out.below hB); have HIg7 := Lib.hid (HIg6.out.below hB); have Z7 := And.intro BA7.out BB7.out; unfold Bx at Z7; clear hO hI hB))
    all_goals
      clear ZS Zd hf0 hf1
      obtain ⟨y0, y1, y2⟩ := BA7.out
      obtain ⟨t0, t1, t2⟩ := BB7.out
      go_wp2_with (fail)
      refine (specTms p A' n' c' b' o' L B' m' d' y' x' L' _ IL7.out JL7.out HPR.out HLV.out HLV'.out (by omega) (by omega)).mono ?_
      rw [HTL.out]
      rintro e wl ⟨Al, cl, rfl, hO, hB⟩
      obtain ⟨bl, hI⟩ := hO.ia
      have HIl := Lib.hid hI
      have HIsl := Lib.hid (HIs7.out.below hB)
      have HBl := Lib.hid (below_more HB7.out hB)
      have BWl := Lib.hid (BW7.out.below hB)
      clear hO hI hB y0 y1 y2 t0 t1 t2
      go_wp2_with (fail)
      refine (specLeast p As _ cs bs 0 TS Al _ cl bl 0 TL _ HIsl.out HIl.out HPS.out HPL.out HZL.out.1 HZL.out.2).mono ?_
      rw [HXY.out.1, HXY.out.2]
      rintro e wm ⟨v9, rfl, hO, hB⟩
      have HO9 := Lib.hid hO
      have hsz9 := HBl.out.size
      have hlo9 := BWl.out.c.lt
      have HBm := Lib.hid (below_more HBl.out hB)
      have BWm := Lib.hid (BWl.out.below hB)
      clear hO hB
      go_wp2_with (fail)
      refine (specFit v9 p X Y _ _ HO9.out).mono ?_
      rw [HF.out]
      rintro e wn ⟨u9, rfl, hz, _, hB⟩
      obtain ⟨A8, c8, A9, c9, rfl, hO8, hO9, hap⟩ := hz rfl
      have HR8 := Lib.hid (And.intro hO8 (And.intro hO9 hap))
      have HBn := Lib.hid (below_more HBm.out hB)
      have BWn := Lib.hid (BWm.out.below hB)
      clear hz hB hO8 hO9 hap
      obtain ⟨x0, x1, x2⟩ := BWn.out.c
      have fz := BWn.out.fz
      go_wp2_with (fail)
      refine bodyPost_ret (v := .tuple #[.agg #[.int .i64 p, .slice A8 X.length c8, .slice A9 Y.length c9], .bool true]) (by simp [results, Tryd.f6, go_sem, x0, x1, x2]) rfl ?_
      rw [HR.out]
      exact madeb_put (R := some (p, X, Y)) (g := w.heap.size + 1 + 1) ⟨A8, c8, A9, c9, rfl, HR8.out.1, HR8.out.2.1, HR8.out.2.2⟩ HBn.out hsz9 (by omega) hlo9
end Go.Proofs.YthmkcdipljbdnaaDoor
namespace Go.Proofs.YthmkcdipljbdnaaDoor
open Go.RowKit
set_option maxRecDepth 100000 in
set_option maxHeartbeats 4000000 in
theorem bothValid_any (v : Value) (p : Int) (U L : List Int) (v' : Value) (p' : Int) (U' L' : List Int) (w : World) (h : RV w v p U L) (h' : RV w v' p' U' L') (ge : Addr) (hge : GE w ge) :
    Calls Tryd.prog 22 #[v, v'] w fun e w' => e = .returned (.bool (bothB p U L p' U' L')) ∧ Below w.heap.size w w' := by
  have H := Lib.hid h
  have H' := Lib.hid h'
  obtain ⟨A, n, c, b, o, A', n', c', b', o', rfl, g1, g2⟩ := h
  obtain ⟨B, m, d, y, x, B', m', d', y', x', rfl, k1, k2⟩ := h'
  obtain ⟨W0, hW0⟩ : ∃ W0, (w.alloc (.cells #[.int .i64 p, .slice A n c, .slice A' n' c'] 26)).alloc (.cells #[.int .i64 p', .slice B m d, .slice B' m' d'] 26) = W0 := ⟨_, rfl⟩
  have hB0 : Below w.heap.size w W0 := by rw [← hW0]; exact ((Below.refl _ w).alloc (Nat.le_refl _) _).alloc (by simp) _
  have hba : Bx W0 w.heap.size (.int .i64 p) (.slice A n c) (.slice A' n' c') := by rw [← hW0]; exact (Bx.new w _ _ _ _).below (below_new _ _)
  have hbb : Bx W0 (w.heap.size + 1) (.int .i64 p') (.slice B m d) (.slice B' m' d') := by
    have := Bx.new (w.alloc (.cells #[.int .i64 p, .slice A n c, .slice A' n' c'] 26)) (.int .i64 p') (.slice B m d) (.slice B' m' d') 26
    rw [World.size_alloc] at this
    rw [← hW0]; exact this
  have H0 := Lib.hid (H.out.below hB0)
  have H0' := Lib.hid (H'.out.below hB0)
  have HG0 := Lib.hid (hge.below hB0)
  have BA := Lib.hid hba
  have BB := Lib.hid hbb
  have HB0 := Lib.hid hB0
  clear g1 g2 k1 k2 hba hbb hB0 hge
  obtain ⟨x0, x1, x2⟩ := BA.out
  rcases ha : fracB p U L
  · have HA := Lib.hid ha
    have HR := Lib.hid (show bothB p U L p' U' L' = false by unfold bothB; rw [ha]; rfl)
    clear ha
    go_enter Tryd.func22, Tryd.ntmps22
    go_wp2_with (go_at_call 36; (with_reducible refine (implFracValid _ p U L _ H0.out ge HG0.out).mono ?_); rintro e w1 ⟨rfl, hB⟩; rw [HA.out]; have HB1 := Lib.hid (below_more HB0.out hB); have H1' := Lib.hid (H0'.out.below hB); have HG1 := Lib.hid (HG0.out.below hB); have BA1 := Lib.hid (BA.out.below hB); have BB1 := Lib.hid (BB.out.below hB); obtain ⟨y0, y1, y2⟩ := BA1.out; obtain ⟨t0, t1, t2⟩ := BB1.out; clear hB)
    go_ret
    exact ⟨ret_bool HR.out.symm, HB1.out⟩
  have HA := Lib.hid ha
  rcases hb : fracB p' U' L'
  · have HA' := Lib.hid hb
    have HR := Lib.hid (show bothB p U L p' U' L' = false by unfold bothB; rw [hb]; simp)
    clear ha hb
    go_enter Tryd.func22, Tryd.ntmps22
    go_wp2_with (first | (go_at_call 36; (with_reducible refine (implFracValid _ p U L _ H0.out ge HG0.out).mono ?_); rintro e w1 ⟨rfl, hB⟩; rw [HA.out]; have HB1 := Lib.hid (below_more HB0.out hB); have H1' := Lib.hid (H0'.out.below hB); have HG1 := Lib.hid (HG0.out.below hB); have BA1 := Lib.hid (BA.out.below hB); have BB1 := Lib.hid (BB.out.below hB); obtain ⟨y0, y1, y2⟩ := BA1.out; obtain ⟨t0, t1, t2⟩ := BB1.out; clear hB) | (go_at_call 36; (with_reducible refine (implFracValid _ p' U' L' _ H1'.out ge HG1.out).mono ?_); rintro e w2 ⟨rfl, hB⟩; rw [HA'.out]; have HB2 := Lib.hid (below_more HB1.out hB); have BA2 := Lib.hid (BA1.out.below hB); have BB2 := Lib.hid (BB1.out.below hB); obtain ⟨z0, z1, z2⟩ := BA2.out; obtain ⟨s0, s1, s2⟩ := BB2.out; clear hB))
    go_ret
    exact ⟨ret_bool HR.out.symm, HB2.out⟩
  have HA' := Lib.hid hb
  by_cases hp : p = p'
  · have hq : (p == p') = true := by simpa using hp
    have HR := Lib.hid (show bothB p U L p' U' L' = true by unfold bothB; rw [ha, hb]; simpa using hp)
    clear ha hb hp
    go_enter Tryd.func22, Tryd.ntmps22
    go_wp2_with (first | (go_at_call 36; (with_reducible refine (implFracValid _ p U L _ H0.out ge HG0.out).mono ?_); rintro e w1 ⟨rfl, hB⟩; rw [HA.out]; have HB1 := Lib.hid (below_more HB0.out hB); have H1' := Lib.hid (H0'.out.below hB); have HG1 := Lib.hid (HG0.out.below hB); have BA1 := Lib.hid (BA.out.below hB); have BB1 := Lib.hid (BB.out.below hB); obtain ⟨y0, y1, y2⟩ := BA1.out; obtain ⟨t0, t1, t2⟩ := BB1.out; clear hB) | (go_at_call 36; (with_reducible refine (implFracValid _ p' U' L' _ H1'.out ge HG1.out).mono ?_); rintro e w2 ⟨rfl, hB⟩; rw [HA'.out]; have HB2 := Lib.hid (below_more HB1.out hB); have BA2 := Lib.hid (BA1.out.below hB); have BB2 := Lib.hid (BB1.out.below hB); obtain ⟨z0, z1, z2⟩ := BA2.out; obtain ⟨s0, s1, s2⟩ := BB2.out; clear hB))
    go_ret
    exact ⟨ret_bool HR.out.symm, HB2.out⟩
  · have hq : (p == p') = false := by simpa using hp
    have HR := Lib.hid (show bothB p U L p' U' L' = false by unfold bothB; rw [decide_eq_false hp]; simp)
    clear ha hb hp
    go_enter Tryd.func22, Tryd.ntmps22
    go_wp2_with (first | (go_at_call 36; (with_reducible refine (implFracValid _ p U L _ H0.out ge HG0.out).mono ?_); rintro e w1 ⟨rfl, hB⟩; rw [HA.out]; have HB1 := Lib.hid (below_more HB0.out hB); have H1' := Lib.hid (H0'.out.below hB); have HG1 := Lib.hid (HG0.out.below hB); have BA1 := Lib.hid (BA.out.below hB); have BB1 := Lib.hid (BB.out.below hB); obtain ⟨y0, y1, y2⟩ := BA1.out; obtain ⟨t0, t1, t2⟩ := BB1.out; clear hB) | (go_at_call 36; (with_reducible refine (implFracValid _ p' U' L' _ H1'.out ge HG1.out).mono ?_); rintro e w2 ⟨rfl, hB⟩; rw [HA'.out]; have HB2 := Lib.hid (below_more HB1.out hB); have BA2 := Lib.hid (BA1.out.below hB); have BB2 := Lib.hid (BB1.out.below hB); obtain ⟨z0, z1, z2⟩ := BA2.out; obtain ⟨s0, s1, s2⟩ := BB2.out; clear hB))
    go_ret
    exact ⟨ret_bool HR.out.symm, HB2.out⟩
end Go.Proofs.YthmkcdipljbdnaaDoor
namespace Go.Proofs.YthmkcdipljbdnaaDoor
open Go.RowKit
set_option maxRecDepth 100000 in
set_option maxHeartbeats 16000000 in
theorem implFracAdd (v : Value) (p : Int) (U L : List Int) (v' : Value) (p' : Int) (U' L' : List Int) (w : World) (h : RV w v p U L) (h' : RV w v' p' U' L') (ge : Addr) (hge : GE w ge) :
    Calls Tryd.prog 8 #[v, v'] w (MadeRB (fracAddR p U L p' U' L') w) := by
  have HQ := Lib.hid h
  have HQ' := Lib.hid h'
  obtain ⟨A, n, c, b, o, A', n', c', b', o', rfl, g1, g2⟩ := h
  obtain ⟨B, m, d, y, x, B', m', d', y', x', rfl, k1, k2⟩ := h'
  obtain ⟨W0, hW0⟩ : ∃ W0, ((w.alloc (.cells #[.int .i64 p, .slice A n c, .slice A' n' c'] 26)).alloc (.cells #[.int .i64 p', .slice B m d, .slice B' m' d'] 26)).alloc (.cells #[.int .i64 0, .slice none 0 0, .slice none 0 0] 26) = W0 := ⟨_, rfl⟩
  have hB0 : Below w.heap.size w W0 := by rw [← hW0]; exact (((Below.refl _ w).alloc (Nat.le_refl _) _).alloc (by simp) _).alloc (by simp; omega) _
  have hba : Bx W0 w.heap.size (.int .i64 p) (.slice A n c) (.slice A' n' c') := by rw [← hW0]; exact ((Bx.new w _ _ _ _).below (below_new _ _)).below (below_new _ _)
  have hbb : Bx W0 (w.heap.size + 1) (.int .i64 p') (.slice B m d) (.slice B' m' d') := by
    have := (Bx.new (w.alloc (.cells #[.int .i64 p, .slice A n c, .slice A' n' c'] 26)) (.int .i64 p') (.slice B m d) (.slice B' m' d') 26).below (below_new _ (.cells #[.int .i64 0, .slice none 0 0, .slice none 0 0] 26))
    rw [World.size_alloc] at this
    rw [← hW0]; exact this
  have hbw : BxW W0 (w.heap.size + 1 + 1) (.int .i64 0) (.slice none 0 0) (.slice none 0 0) := by
    have := BxW.new ((w.alloc (.cells #[.int .i64 p, .slice A n c, .slice A' n' c'] 26)).alloc (.cells #[.int .i64 p', .slice B m d, .slice B' m' d'] 26)) (.int .i64 0) (.slice none 0 0) (.slice none 0 0) 26
    rw [World.size_alloc, World.size_alloc] at this
    rw [← hW0]; exact this
  have H0 := Lib.hid (HQ.out.below hB0)
  have H0' := Lib.hid (HQ'.out.below hB0)
  have IU := Lib.hid (g1.below hB0)
  have IL := Lib.hid (g2.below hB0)
  have IU' := Lib.hid (k1.below hB0)
  have IL' := Lib.hid (k2.below hB0)
  have BA := Lib.hid hba
  have BB := Lib.hid hbb
  have BW := Lib.hid hbw
  have HB0 := Lib.hid hB0
  have HG0 := Lib.hid (hge.below HB0.out)
  clear g1 g2 k1 k2 hba hbb hbw hB0 hge HQ HQ'
  obtain ⟨y0, y1, y2⟩ := BA.out
  obtain ⟨t0, t1, t2⟩ := BB.out
  rcases hbo : bothB p U L p' U' L'
  · have HBO := Lib.hid hbo
    have HR := Lib.hid (show fracAddR p U L p' U' L' = none by unfold fracAddR; rw [hbo]; rfl)
    clear hbo
    go_enter Tryd.func8, Tryd.ntmps8
    go_wp2_with (go_at_call 22; (with_reducible refine (bothValid_any _ p U L _ p' U' L' _ H0.out H0'.out ge HG0.out).mono ?_); rintro e w1 ⟨rfl, hB⟩; rw [HBO.out]; have HB1 := Lib.hid (below_more HB0.out hB); have BA1 := Lib.hid (BA.out.below hB); have BB1 := Lib.hid (BB.out.below hB); have BW1 := Lib.hid (BW.out.below hB); have HV1 := Lib.hid (H0.out.below hB); have HV1' := Lib.hid (H0'.out.below hB); have HG1 := Lib.hid (HG0.out.below hB); obtain ⟨x10, x11, x12⟩ := BW1.out.c; have fz1 := BW1.out.fz; clear hB)
    refine bodyPost_ret (v := .tuple #[.agg #[.int .i64 0, .slice none 0 0, .slice none 0 0], .bool false]) (by simp [results, Tryd.f8, go_sem, x10, x11, x12]) rfl ?_
    rw [HR.out]
    exact madeb_no HB1.out (by omega)
  have HBO := Lib.hid hbo
  obtain ⟨ha, hb, hpp⟩ := bothB_true hbo
  subst hpp
  obtain ⟨hu, hl, hu12, hl12, hl0, hl1⟩ := fracB_true ha
  obtain ⟨hu', hl', hu12', hl12', hl0', hl1'⟩ := fracB_true hb
  have hpr := (serB_true (polB_ser hu)).1
  obtain ⟨tl, pl, zl0, zl1⟩ := low_times hl hl' hl12 hl12' hl0 hl0' hl1 hl1'
  obtain ⟨tx, px, lx⟩ := tms_pol hu hl' hu12 hl12'
  obtain ⟨ty, py, ly⟩ := tms_pol hu' hl hu12' hl12
  have ps := add_pol 1 px py
  have HPR := Lib.hid hpr
  have HUV := Lib.hid (serB_true (polB_ser hu)).2.2
  have HUV' := Lib.hid (serB_true (polB_ser hu')).2.2
  have HLV := Lib.hid (serB_true (polB_ser hl)).2.2
  have HLV' := Lib.hid (serB_true (polB_ser hl')).2.2
  have HUL := Lib.hid (show U.length ≤ 100000 ∧ U.length ≤ 1048576 by omega)
  have HUL' := Lib.hid (show U'.length ≤ 100000 ∧ U'.length ≤ 1048576 by omega)
  have HLL := Lib.hid (show L.length ≤ 100000 ∧ L.length ≤ 1048576 by omega)
  have HLL' := Lib.hid (show L'.length ≤ 100000 ∧ L'.length ≤ 1048576 by omega)
  obtain ⟨TX, hTX⟩ : ∃ T, tmsL p U L' = T := ⟨_, rfl⟩
  obtain ⟨TY, hTY⟩ : ∃ T, tmsL p U' L = T := ⟨_, rfl⟩
  obtain ⟨TL, hTL⟩ : ∃ T, tmsL p L L' = T := ⟨_, rfl⟩
  rw [hTX] at tx px lx ps
  rw [hTY] at ty py ly ps
  rw [hTL] at tl pl zl0 zl1
  obtain ⟨TS, hTS⟩ : ∃ T, addL p TX TY 1 = T := ⟨_, rfl⟩
  rw [hTS] at ps
  have hls : TS.length ≤ 24 := (serB_true (polB_ser ps)).2.1
  have hll : TL.length ≤ 24 := (serB_true (polB_ser pl)).2.1
  have HTS := Lib.hid hTS
  have HXV := Lib.hid (serB_true (polB_ser px)).2.2
  have HYV := Lib.hid (serB_true (polB_ser py)).2.2
  have HPS := Lib.hid ps
  have HPL := Lib.hid pl
  have hEQ : fracAddR p U L p U' L' = leastR p TS TL := by unfold fracAddR; rw [if_pos hbo, hTX, hTY, hTL, hTS]
  have HTX := Lib.hid (show trimL (tmsL p U L') = TX by rw [hTX]; exact tx)
  have HTY := Lib.hid (show trimL (tmsL p U' L) = TY by rw [hTY]; exact ty)
  have HTL := Lib.hid (show trimL (tmsL p L L') = TL by rw [hTL]; exact tl)
  clear hu hl hu12 hl12 hl0 hl1 hu' hl' hu12' hl12' hl0' hl1' hpr tl pl zl0 zl1 tx px ty py ps ha hb hbo hTX hTY hTL hTS
  obtain ⟨R, hR⟩ : ∃ R, fracAddR p U L p U' L' = R := ⟨_, rfl⟩
  have HE := Lib.hid (hEQ.symm.trans hR)
  rw [hR]
  clear hR hEQ
  clear y0 y1 y2 t0 t1 t2
  go_enter Tryd.func8, Tryd.ntmps8
  obtain ⟨y0, y1, y2⟩ := BA.out
  obtain ⟨t0, t1, t2⟩ := BB.out
  go_wp2_with (go_at_call 22; (with_reducible refine (bothValid_any _ p U L _ p U' L' _ H0.out H0'.out ge HG0.out).mono ?_); rintro e w1 ⟨rfl, hB⟩; rw [HBO.out]; have HB1 := Lib.hid (below_more HB0.out hB); have BA1 := Lib.hid (BA.out.below hB); have BB1 := Lib.hid (BB.out.below hB); have BW1 := Lib.hid (BW.out.below hB); have HV1 := Lib.hid (H0.out.below hB); have HV1' := Lib.hid (H0'.out.below hB); have HG1 := Lib.hid (HG0.out.below hB); obtain ⟨x10, x11, x12⟩ := BW1.out.c; have fz1 := BW1.out.fz; clear hB)
  clear hW0 y0 y1 y2 t0 t1 t2 x10 x11 x12 fz1
  have hf0 : ∀ (W : World) (o o' : Nat) (v : Value), (W.setCell ⟨w.heap.size + 1 + 1, o, none⟩ v).cell? ⟨w.heap.size, o', none⟩ = W.cell? ⟨w.heap.size, o', none⟩ := fun W o o' v => World.cell?_setCell_far _ _ _ _ (by show w.heap.size + 1 + 1 ≠ w.heap.size; omega)
  have hf1 : ∀ (W : World) (o o' : Nat) (v : Value), (W.setCell ⟨w.heap.size + 1 + 1, o, none⟩ v).cell? ⟨w.heap.size + 1, o', none⟩ = W.cell? ⟨w.heap.size + 1, o', none⟩ := fun W o o' v => World.cell?_setCell_far _ _ _ _ (by show w.heap.size + 1 + 1 ≠ w.heap.size + 1; omega)
  have ZS := And.intro BA1.out BB1.out
  have Zd := And.intro BA1.out.drew BB1.out.drew
  unfold Bx at ZS Zd
  go_region_held3 (fun w' => (w'.cell? ⟨w.heap.size, 0, none⟩ = some (.int .i64 p) ∧ w'.cell? ⟨w.heap.size, 1, none⟩ = some (.slice A n c) ∧ w'.cell? ⟨w.heap.size, 2, none⟩ = some (.slice A' n' c')) ∧ (w'.cell? ⟨w.heap.size + 1, 0, none⟩ = some (.int .i64 p) ∧ w'.cell? ⟨w.heap.size + 1, 1, none⟩ = some (.slice B m d) ∧ w'.cell? ⟨w.heap.size + 1, 2, none⟩ = some (.slice B' m' d'))) (first | assumption | exact Z8 | exact Z7 | exact Z6 | exact Z5 | exact Z4 | exact Z3 | exact Z2 | exact Zd | exact ZS | (simp only [hf0, hf1]; exact Z8) | go_keep)
    (first
      | (go_at_call 23; (with_reducible refine (upper_any _ p U L _ (HV1.out.below (below_new_drew _)) HUL.out.2).mono ?_); rintro e w2 ⟨Aa, ca, rfl, hO, hB⟩; obtain ⟨ba, hI⟩ := OT.it hO; have HIa2 := Lib.hid hI; have HB2 := Lib.hid (below_more HB1.out.drew hB); have BA2 := Lib.hid (BA1.out.drew.below hB); have BB2 := Lib.hid (BB1.out.drew.below hB); have BW2 := Lib.hid (BW1.out.drew.below hB); have HV2 := Lib.hid ((HV1.out.below (below_new_drew _)).below hB); have HV2' := Lib.hid ((HV1'.out.below (below_new_drew _)).below hB); have HG2 := Lib.hid (HG1.out.drew.below hB); have Z2 := And.intro BA2.out BB2.out; unfold Bx at Z2; clear hO hI hB)
      | (go_at_call 25; (with_reducible refine (lower_any _ p U' L' _ HV2'.out HLL'.out.2).mono ?_); rintro e w3 ⟨Ab, cb, rfl, hO, hB⟩; obtain ⟨bb, hI⟩ := OT.it hO; have HIb3 := Lib.hid hI; have HB3 := Lib.hid (below_more HB2.out hB); have BA3 := Lib.hid (BA2.out.below hB); have BB3 := Lib.hid (BB2.out.below hB); have BW3 := Lib.hid (BW2.out.below hB); have HV3 := Lib.hid (HV2.out.below hB); have HV3' := Lib.hid (HV2'.out.below hB); have HG3 := Lib.hid (HG2.out.below hB); have HIa3 := Lib.hid (HIa2.out.below hB); have Z3 := And.intro BA3.out BB3.out; unfold Bx at Z3; clear hO hI hB)
      | (go_at_call 24; (with_reducible refine (times_any p Aa _ ca ba U Ab _ cb bb L' _ HIa3.out HIb3.out HUV.out HLV'.out HUL.out.1 HLL'.out.1).mono ?_); rw [HTX.out]; rintro e w4 ⟨Ae, ce, rfl, hO, hB⟩; obtain ⟨be, hI⟩ := OT.it hO; have HIe4 := Lib.hid hI; have HB4 := Lib.hid (below_more HB3.out hB); have BA4 := Lib.hid (BA3.out.below hB); have BB4 := Lib.hid (BB3.out.below hB); have BW4 := Lib.hid (BW3.out.below hB); have HV4 := Lib.hid (HV3.out.below hB); have HV4' := Lib.hid (HV3'.out.below hB); have HG4 := Lib.hid (HG3.out.below hB); have HIa4 := Lib.hid (HIa3.out.below hB); have HIb4 := Lib.hid (HIb3.out.below hB); have Z4 := And.intro BA4.out BB4.out; unfold Bx at Z4; clear hO hI hB)
      | (go_at_call 23; (with_reducible refine (upper_any _ p U' L' _ HV4'.out HUL'.out.2).mono ?_); rintro e w5 ⟨Af, cf, rfl, hO, hB⟩; obtain ⟨bf, hI⟩ := OT.it hO; have HIf5 := Lib.hid hI; have HB5 := Lib.hid (below_more HB4.out hB); have BA5 := Lib.hid (BA4.out.below hB); have BB5 := Lib.hid (BB4.out.below hB); have BW5 := Lib.hid (BW4.out.below hB); have HV5 := Lib.hid (HV4.out.below hB); have HV5' := Lib.hid (HV4'.out.below hB); have HG5 := Lib.hid (HG4.out.below hB); have HIa5 := Lib.hid (HIa4.out.below hB); have HIb5 := Lib.hid (HIb4.out.below hB); have HIe5 := Lib.hid (HIe4.out.below hB); have Z5 := And.intro BA5.out BB5.out; unfold Bx at Z5; clear hO hI hB)
      | (go_at_call 25; (with_reducible refine (lower_any _ p U L _ HV5.out HLL.out.2).mono ?_); rintro e w6 ⟨Ag, cg, rfl, hO, hB⟩; obtain ⟨bg, hI⟩ := OT.it hO; have HIg6 := Lib.hid hI; have HB6 := Lib.hid (below_more HB5.out hB); have BA6 := Lib.hid (BA5.out.below hB); have BB6 := Lib.hid (BB5.out.below hB); have BW6 := Lib.hid (BW5.out.below hB); have HV6 := Lib.hid (HV5.out.below hB); have HV6' := Lib.hid (HV5'.out.below hB); have HG6 := Lib.hid (HG5.out.below hB); have HIa6 := Lib.hid (HIa5.out.below hB); have HIb6 := Lib.hid (HIb5.out.below hB); have HIe6 := Lib.hid (HIe5.out.below hB); have HIf6 := Lib.hid (HIf5.out.below hB); have Z6 := And.intro BA6.out BB6.out; unfold Bx at Z6; clear hO hI hB)
      | (go_at_call 24; (with_reducible refine (times_any p Af _ cf bf U' Ag _ cg bg L _ HIf6.out HIg6.out HUV'.out HLV.out HUL'.out.1 HLL.out.1).mono ?_); rw [HTY.out]; rintro e w7 ⟨Ah, ch, rfl, hO, hB⟩; obtain ⟨bh, hI⟩ := OT.it hO; have HIh7 := Lib.hid hI; have HB7 := Lib.hid (below_more HB6.out hB); have BA7 := Lib.hid (BA6.out.below hB); have BB7 := Lib.hid (BB6.out.below hB); have BW7 := Lib.hid (BW6.out.below hB); have HV7 := Lib.hid (HV6.out.below hB); have HV7' := Lib.hid (HV6'.out.below hB); have HG7 := Lib.hid (HG6.out.below hB); have HIa7 := Lib.hid (HIa6.out.below hB); have HIb7 := Lib.hid (HIb6.out.below hB); have HIe7 := Lib.hid (HIe6.out.below hB); have HIf7 := Lib.hid (HIf6.out.below hB); have HIg7 := Lib.hid (HIg6.out.below hB); have Z7 := And.intro BA7.out BB7.out; unfold Bx at Z7; clear hO hI hB)
      | (go_at_call 26; (with_reducible refine (plus_any p Ae _ ce be TX Ah _ ch bh TY _ HIe7.out HIh7.out HPR.out HXV.out HYV.out (by omega) (by omega)).mono ?_); rw [HTS.out]; rintro e w8 ⟨As, cs, rfl, hO, hB⟩; obtain ⟨bs, hI⟩ := OT.it hO; have HIs8 := Lib.hid hI; have HB8 := Lib.hid (below_more HB7.out hB); have BA8 := Lib.hid (BA7.out.below hB); have BB8 := Lib.hid (BB7.out.below hB); have BW8 := Lib.hid (BW7.out.below hB); have HV8 := Lib.hid (HV7.out.below hB); have HV8' := Lib.hid (HV7'.out.below hB); have HG8 := Lib.hid (HG7.out.below hB); have HIa8 := Lib.hid (HIa7.out.below hB); have HIb8 := Lib.hid (HIb7.out.below hB); have HIe8 := Lib.hid (HIe7.out.below hB); have HIf8 := Lib.hid (HIf7.out.below hB); have HIg8 := Lib.hid (HIg7.out.below hB); have HIh8 := Lib.hid (HIh7.out.below hB); have Z8 := And.intro BA8.out BB8.out; unfold Bx at Z8; clear hO hI hB))
  all_goals
    clear ZS Zd hf0 hf1
    go_wp2_with (fail)
    have hf0 : ∀ (W : World) (o o' : Nat) (v : Value), (W.setCell ⟨w.heap.size + 1 + 1, o, none⟩ v).cell? ⟨w.heap.size, o', none⟩ = W.cell? ⟨w.heap.size, o', none⟩ := fun W o o' v => World.cell?_setCell_far _ _ _ _ (by show w.heap.size + 1 + 1 ≠ w.heap.size; omega)
    have hf1 : ∀ (W : World) (o o' : Nat) (v : Value), (W.setCell ⟨w.heap.size + 1 + 1, o, none⟩ v).cell? ⟨w.heap.size + 1, o', none⟩ = W.cell? ⟨w.heap.size + 1, o', none⟩ := fun W o o' v => World.cell?_setCell_far _ _ _ _ (by show w.heap.size + 1 + 1 ≠ w.heap.size + 1; omega)
    have ZS := And.intro BA8.out BB8.out
    have Zd := And.intro BA8.out.drew BB8.out.drew
    unfold Bx at ZS Zd
    go_region_held3 (fun w' => (w'.cell? ⟨w.heap.size, 0, none⟩ = some (.int .i64 p) ∧ w'.cell? ⟨w.heap.size, 1, none⟩ = some (.slice A n c) ∧ w'.cell? ⟨w.heap.size, 2, none⟩ = some (.slice A' n' c')) ∧ (w'.cell? ⟨w.heap.size + 1, 0, none⟩ = some (.int .i64 p) ∧ w'.cell? ⟨w.heap.size + 1, 1, none⟩ = some (.slice B m d) ∧ w'.cell? ⟨w.heap.size + 1, 2, none⟩ = some (.slice B' m' d'))) (first | assumption | exact Z12 | exact Z11 | exact Z10 | exact Z9 | exact Zd | exact ZS | (simp only [hf0, hf1]; exact Z12) | go_keep)
      (first
        | (go_at_call 25; (with_reducible refine (lower_any _ p U L _ (HV8.out.below (below_new_drew _)) HLL.out.2).mono ?_); rintro e w9 ⟨Ai, ci, rfl, hO, hB⟩; obtain ⟨bi, hI⟩ := OT.it hO; have HIi9 := Lib.hid hI; have HB9 := Lib.hid (below_more HB8.out.drew hB); have BA9 := Lib.hid (BA8.out.drew.below hB); have BB9 := Lib.hid (BB8.out.drew.below hB); have BW9 := Lib.hid (BW8.out.drew.below hB); have HV9 := Lib.hid ((HV8.out.below (below_new_drew _)).below hB); have HV9' := Lib.hid ((HV8'.out.below (below_new_drew _)).below hB); have HG9 := Lib.hid (HG8.out.drew.below hB); have HIs9 := Lib.hid ((HIs8.out.below (below_new_drew _)).below hB); have Z9 := And.intro BA9.out BB9.out; unfold Bx at Z9; clear hO hI hB)
        | (go_at_call 25; (with_reducible refine (lower_any _ p U' L' _ HV9'.out HLL'.out.2).mono ?_); rintro e w10 ⟨Aj, cj, rfl, hO, hB⟩; obtain ⟨bj, hI⟩ := OT.it hO; have HIj10 := Lib.hid hI; have HB10 := Lib.hid (below_more HB9.out hB); have BA10 := Lib.hid (BA9.out.below hB); have BB10 := Lib.hid (BB9.out.below hB); have BW10 := Lib.hid (BW9.out.below hB); have HV10 := Lib.hid (HV9.out.below hB); have HV10' := Lib.hid (HV9'.out.below hB); have HG10 := Lib.hid (HG9.out.below hB); have HIs10 := Lib.hid (HIs9.out.below hB); have HIi10 := Lib.hid (HIi9.out.below hB); have Z10 := And.intro BA10.out BB10.out; unfold Bx at Z10; clear hO hI hB)
        | (go_at_call 24; (with_reducible refine (times_any p Ai _ ci bi L Aj _ cj bj L' _ HIi10.out HIj10.out HLV.out HLV'.out HLL.out.1 HLL'.out.1).mono ?_); rw [HTL.out]; rintro e w11 ⟨Al, cl, rfl, hO, hB⟩; obtain ⟨bl, hI⟩ := OT.it hO; have HIl11 := Lib.hid hI; have HB11 := Lib.hid (below_more HB10.out hB); have BA11 := Lib.hid (BA10.out.below hB); have BB11 := Lib.hid (BB10.out.below hB); have BW11 := Lib.hid (BW10.out.below hB); have HV11 := Lib.hid (HV10.out.below hB); have HV11' := Lib.hid (HV10'.out.below hB); have HG11 := Lib.hid (HG10.out.below hB); have HIs11 := Lib.hid (HIs10.out.below hB); have HIi11 := Lib.hid (HIi10.out.below hB); have HIj11 := Lib.hid (HIj10.out.below hB); have Z11 := And.intro BA11.out BB11.out; unfold Bx at Z11; clear hO hI hB)
        | (go_at_call 27; refine (leastFrac_any p As _ cs bs TS Al _ cl bl TL _ HIs11.out HIl11.out HPS.out HPL.out ge HG11.out).mono ?_; rw [HE.out]; rintro e w12 ⟨_, rfl, ⟨A8, c8, A9, c9, rfl, hO8, hO9, hap⟩, hB⟩; have HR8 := Lib.hid (And.intro hO8 (And.intro hO9 hap)); have hsz3 := HB11.out.size; have hlo4 := BW11.out.c.lt; have HB12 := Lib.hid (below_more HB11.out hB); have BA12 := Lib.hid (BA11.out.below hB); have BB12 := Lib.hid (BB11.out.below hB); have BW12 := Lib.hid (BW11.out.below hB); have HV12 := Lib.hid (HV11.out.below hB); have HV12' := Lib.hid (HV11'.out.below hB); have HG12 := Lib.hid (HG11.out.below hB); have HIs12 := Lib.hid (HIs11.out.below hB); have HIi12 := Lib.hid (HIi11.out.below hB); have HIj12 := Lib.hid (HIj11.out.below hB); have HIl12 := Lib.hid (HIl11.out.below hB); have Z12 := And.intro BA12.out BB12.out; unfold Bx at Z12; obtain ⟨x0, x1, x2⟩ := BW12.out.c; have fz := BW12.out.fz; clear hO8 hO9 hap hB))
    all_goals
      go_wp2_with (fail)
      refine bodyPost_ret (v := .tuple #[.agg #[.int .i64 (R.getD (0, [], [])).1, .slice A8 (R.getD (0, [], [])).2.1.length c8, .slice A9 (R.getD (0, [], [])).2.2.length c9], .bool R.isSome]) (by simp [results, Tryd.f8, go_sem, x0, x1, x2]) rfl ?_
      exact madeb_put (g := w.heap.size + 1 + 1) ⟨A8, c8, A9, c9, rfl, HR8.out.1, HR8.out.2.1, HR8.out.2.2⟩ HB12.out hsz3 (by omega) hlo4
end Go.Proofs.YthmkcdipljbdnaaDoor

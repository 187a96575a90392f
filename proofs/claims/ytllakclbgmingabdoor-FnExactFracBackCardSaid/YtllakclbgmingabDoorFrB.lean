/-
  The contract of FracBack of the program.
  The contracts of l4Fit, FracBack of the model.
-/
import Derived.Test.YtllakclbgmingabDoorFrL
namespace Go.Proofs.YtllakclbgmingabDoor
open Go.RowKit
set_option maxRecDepth 100000 in
set_option maxHeartbeats 4000000 in
theorem implFracBack (v : Value) (p : Int) (U L : List Int) (w : World) (h : RV w v p U L) (ge : Addr) (hge : GE w ge) :
    Calls Tryd.prog 28 #[v] w (MadeRB (fracBackR p U L) w) := by
  obtain ⟨A, n, c, b, o, A', n', c', b', o', rfl, g1, g2⟩ := h
  have hbx := (Bx.new w (.int .i64 p) (.slice A n c) (.slice A' n' c') 25).below (below_new _ (.cells #[.int .i64 0, .slice none 0 0, .slice none 0 0] 25))
  have hbw := BxW.new (w.alloc (.cells #[.int .i64 p, .slice A n c, .slice A' n' c'] 25)) (.int .i64 0) (.slice none 0 0) (.slice none 0 0) 25
  rw [World.size_alloc] at hbw
  have hB0 := ((Below.refl w.heap.size w).alloc (Nat.le_refl _) (.cells #[.int .i64 p, .slice A n c, .slice A' n' c'] 25)).alloc (by simp) (.cells #[.int .i64 0, .slice none 0 0, .slice none 0 0] 25)
  have HV := Lib.hid (show RV _ (.agg #[.int .i64 p, .slice A n c, .slice A' n' c']) p U L from ⟨_, _, _, _, _, _, _, _, _, _, rfl, g1.below hB0, g2.below hB0⟩)
  have H := Lib.hid (g1.below hB0)
  have H' := Lib.hid (g2.below hB0)
  have HBX := Lib.hid hbx
  have HBW := Lib.hid hbw
  have HG0 := Lib.hid (hge.below hB0)
  have HB0 := Lib.hid hB0
  clear hge g1 g2 hbx hbw hB0
  rcases hv : fracB p U L
  · have HV1 := Lib.hid hv
    have HE := Lib.hid (show fracBackR p U L = none by unfold fracBackR; rw [if_neg (by simp [hv])])
    clear hv
    go_enter Tryd.func28, Tryd.ntmps28
    go_wp2_with (go_at_call 16; refine (implFracValid _ p U L _ HV.out ge HG0.out).mono ?_; rintro e w1 ⟨rfl, hB⟩; rw [HV1.out]; have HB1 := Lib.hid (below_more HB0.out hB); have hbw := HBW.out.below hB; have x0 := hbw.c.1; have x1 := hbw.c.2.1; have x2 := hbw.c.2.2; have fz := hbw.fz; clear hB hbw)
    refine bodyPost_ret (v := .tuple #[.agg #[.int .i64 0, .slice none 0 0, .slice none 0 0], .bool false]) (by simp [results, Tryd.f28, go_sem, x0, x1, x2]) rfl ?_
    rw [HE.out]
    exact madeb_no HB1.out (by omega)
  have HV1 := Lib.hid hv
  obtain ⟨hu, hl, hu12, hl12, hl0, hl1⟩ := fracB_true hv
  have HU := Lib.hid hu
  have HL := Lib.hid hl
  have HUL := Lib.hid (show U.length ≤ 1048576 by omega)
  have HLL := Lib.hid (show L.length ≤ 1048576 by omega)
  obtain ⟨R, hR⟩ : ∃ R, fracBackR p U L = R := ⟨_, rfl⟩
  have HE := Lib.hid (show leastR p L U = R by rw [← hR]; unfold fracBackR; rw [if_pos hv])
  rw [hR]
  clear hv hu hl hu12 hl12 hl0 hl1 hR
  go_enter Tryd.func28, Tryd.ntmps28
  go_wp2_with (go_at_call 16; refine (implFracValid _ p U L _ HV.out ge HG0.out).mono ?_; rintro e w1 ⟨rfl, hB⟩; rw [HV1.out]; have HB1 := Lib.hid (below_more HB0.out hB); have HV2 := Lib.hid (HV.out.below hB); have HG1 := Lib.hid (HG0.out.below hB); have HW1 := Lib.hid (HBW.out.below hB); have HBX1 := Lib.hid (HBX.out.below hB); have y0 := HBX1.out.1; have y1 := HBX1.out.2.1; have y2 := HBX1.out.2.2; clear hB)
  have HVd := Lib.hid (HV2.out.below (below_new_drew w1))
  have HBd := Lib.hid HB1.out.drew
  have HGd := Lib.hid HG1.out.drew
  have HWd := Lib.hid HW1.out.drew
  have ZS := HBX1.out
  have Zd := HBX1.out.drew
  unfold Bx at ZS Zd
  have hs1 := HB1.out.size
  have hlo := HW1.out.c.lt
  go_region_held3 (fun w' => w'.cell? ⟨w.heap.size, 0, none⟩ = some (.int .i64 p) ∧ w'.cell? ⟨w.heap.size, 1, none⟩ = some (.slice A n c) ∧ w'.cell? ⟨w.heap.size, 2, none⟩ = some (.slice A' n' c')) (first | assumption | exact ZC | exact ZB | exact ZA | exact Zd | exact ZS | go_keep)
    (first
      | (go_at_call 35; refine (lower_any _ p U L _ HVd.out HLL.out).mono ?_; rintro e w2 ⟨A1, c1, rfl, hO, hB⟩; obtain ⟨b1, hI⟩ := OT.it hO; have HI1 := Lib.hid hI; have HB2 := Lib.hid (below_more HBd.out hB); have HV3 := Lib.hid (HVd.out.below hB); have HG2 := Lib.hid (HGd.out.below hB); have HW2 := Lib.hid (HWd.out.below hB); have HBX2 := Lib.hid (HBX1.out.drew.below hB); have ZA := HBX2.out; unfold Bx at ZA; clear hO hI hB)
      | (go_at_call 34; refine (upper_any _ p U L _ HV3.out HUL.out).mono ?_; rintro e w3 ⟨A2, c2, rfl, hO, hB⟩; obtain ⟨b2, hI⟩ := OT.it hO; have HI2 := Lib.hid hI; have HI1b := Lib.hid (HI1.out.below hB); have HB3 := Lib.hid (below_more HB2.out hB); have HG3 := Lib.hid (HG2.out.below hB); have HW3 := Lib.hid (HW2.out.below hB); have HBX3 := Lib.hid (HBX2.out.below hB); have ZB := HBX3.out; unfold Bx at ZB; clear hO hI hB)
      | (go_at_call 33; refine (leastFrac_any p A1 _ c1 b1 L A2 _ c2 b2 U _ HI1b.out HI2.out HL.out HU.out ge HG3.out).mono ?_; rw [HE.out]; rintro e w4 ⟨_, rfl, ⟨A8, c8, A9, c9, rfl, hO8, hO9, hap⟩, hB⟩; have HR8 := Lib.hid (And.intro hO8 (And.intro hO9 hap)); have hsz3 := HB3.out.size; have HB4 := Lib.hid (below_more HB3.out hB); have HW4 := Lib.hid (HW3.out.below hB); have HBX4 := Lib.hid (HBX3.out.below hB); have ZC := HBX4.out; unfold Bx at ZC; have hlo4 := HW3.out.c.lt; obtain ⟨x0, x1, x2⟩ := HW4.out.c; have fz := HW4.out.fz; clear hO8 hO9 hap hB))
  all_goals
    go_wp2_with (fail)
    refine bodyPost_ret (v := .tuple #[.agg #[.int .i64 (R.getD (0, [], [])).1, .slice A8 (R.getD (0, [], [])).2.1.length c8, .slice A9 (R.getD (0, [], [])).2.2.length c9], .bool R.isSome]) (by simp [results, Tryd.f28, go_sem, x0, x1, x2]) rfl ?_
    exact madeb_put (g := w.heap.size + 1) ⟨A8, c8, A9, c9, rfl, HR8.out.1, HR8.out.2.1, HR8.out.2.2⟩ HB4.out hsz3 (by omega) hlo4
end Go.Proofs.YtllakclbgmingabDoor
namespace Go.Proofs.YtllakclbgmingabDoor
open Go.RowKit
theorem leastR_fit {p : Int} {up low : List Int} (hu : polB p up = true) (hl : polB p low = true) (h0 : low.length ≠ 0) (hz : co low 0 ≠ 0) : leastR p up low = if fracB p (leastL p up low).1 (leastL p up low).2 = true then some (p, (leastL p up low).1, (leastL p up low).2) else none := by
  obtain ⟨l1, l2, l3, l4, _, _⟩ := least_law hu hl h0 hz
  by_cases h : (leastL p up low).1.length ≤ 12 ∧ (leastL p up low).2.length ≤ 12
  · rw [if_pos, leastR_yes h0 hz h.1 h.2]
    unfold fracB
    simp only [Bool.and_eq_true, decide_eq_true_eq]
    exact ⟨⟨⟨⟨⟨l1, l2⟩, h.1⟩, h.2⟩, by omega⟩, by omega⟩
  · rw [if_neg]
    · unfold leastR leastO
      rw [if_neg (fun h' => h ⟨h'.2.2.1, h'.2.2.2⟩)]
      rfl
    · intro hf
      obtain ⟨_, _, a, b, _, _⟩ := fracB_true hf
      exact h ⟨a, b⟩
set_option maxRecDepth 100000 in
set_option maxHeartbeats 2000000 in
theorem specFit (v : Value) (p : Int) (X Y : List Int) (w : World) (B : Nat) (h : RO w B v p X Y) :
    Calls Tryd.prog 68 #[v] w fun e w' => ∃ u, e = .returned (.tuple #[u, .bool (fracB p X Y)]) ∧ (fracB p X Y = true → RO w' B u p X Y) ∧ (fracB p X Y = false → u = .agg #[.int .i64 0, .slice none 0 0, .slice none 0 0]) ∧ Below w.heap.size w w' := by
  have HV0 := Lib.hid h.rv
  have HRO := Lib.hid h
  obtain ⟨A, c, A', c', rfl, h1, h2, h3⟩ := h
  have hbx := (Bx.new w (.int .i64 p) (.slice A X.length c) (.slice A' Y.length c') 25).below (below_new _ (.cells #[.int .i64 0, .slice none 0 0, .slice none 0 0] 25))
  have hbw := BxW.new (w.alloc (.cells #[.int .i64 p, .slice A X.length c, .slice A' Y.length c'] 25)) (.int .i64 0) (.slice none 0 0) (.slice none 0 0) 25
  rw [World.size_alloc] at hbw
  have hB0 := ((Below.refl w.heap.size w).alloc (Nat.le_refl _) (.cells #[.int .i64 p, .slice A X.length c, .slice A' Y.length c'] 25)).alloc (by simp) (.cells #[.int .i64 0, .slice none 0 0, .slice none 0 0] 25)
  have HV := Lib.hid (HV0.out.below hB0)
  have HRO := Lib.hid (HRO.out.below hB0)
  have HLT := Lib.hid (show ∀ g, recBlk (.agg #[.int .i64 p, .slice A X.length c, .slice A' Y.length c']) g → B ≤ g ∧ g < w.heap.size from fun g hg => (RO.lt ⟨A, c, A', c', rfl, h1, h2, h3⟩ : ∀ g, recBlk _ g → B ≤ g ∧ g < w.heap.size) g hg)
  have HBX := Lib.hid hbx
  have HBW := Lib.hid hbw
  have HB0 := Lib.hid hB0
  clear h1 h2 h3 hbx hbw hB0 HV0
  rcases hv : fracB p X Y
  · have HV1 := Lib.hid hv
    clear hv
    go_enter Tryd.func68, Tryd.ntmps68
    go_wp2_with (go_at_call 13; refine (specFracValid _ p X Y _ HV.out).mono ?_; rintro e w1 ⟨rfl, hB⟩; rw [HV1.out]; have HB1 := Lib.hid (below_more HB0.out hB); have hbw := HBW.out.below hB; have x0 := hbw.c.1; have x1 := hbw.c.2.1; have x2 := hbw.c.2.2; have fz := hbw.fz; clear hB hbw)
    refine bodyPost_ret (v := .tuple #[.agg #[.int .i64 0, .slice none 0 0, .slice none 0 0], .bool false]) (by simp [results, Tryd.f68, go_sem, x0, x1, x2]) rfl ?_
    exact ⟨_, rfl, fun h => (by cases h), fun _ => rfl, HB1.out.trans (set3_far w1 (w.heap.size + 1) _ _ _ (by omega) HB1.out.size)⟩
  · have HV1 := Lib.hid hv
    clear hv
    go_enter Tryd.func68, Tryd.ntmps68
    go_wp2_with (go_at_call 13; refine (specFracValid _ p X Y _ HV.out).mono ?_; rintro e w1 ⟨rfl, hB⟩; rw [HV1.out]; have HB1 := Lib.hid (below_more HB0.out hB); have HRO1 := Lib.hid (HRO.out.below hB); have hbx := HBX.out.below hB; have y0 := hbx.1; have y1 := hbx.2.1; have y2 := hbx.2.2; have hbw := HBW.out.below hB; have x0 := hbw.c.1; have x1 := hbw.c.2.1; have x2 := hbw.c.2.2; have fz := hbw.fz; clear hB hbw hbx)
    refine bodyPost_ret (v := .tuple #[.agg #[.int .i64 p, .slice A X.length c, .slice A' Y.length c'], .bool true]) (by simp [results, Tryd.f68, go_sem, x0, x1, x2]) rfl ?_
    exact ⟨_, rfl, fun _ => HRO1.out.keep (set3_keep w1 (w.heap.size + 1) _ _ _) (fun k hk e => by have := (HLT.out k hk).2; omega), fun h => (by cases h), HB1.out.trans (set3_far w1 (w.heap.size + 1) _ _ _ (by omega) HB1.out.size)⟩
set_option maxRecDepth 100000 in
set_option maxHeartbeats 2000000 in
theorem specFracBack (v : Value) (p : Int) (U L : List Int) (w : World) (h : RV w v p U L) :
    Calls Tryd.prog 29 #[v] w (MadeRB (fracBackR p U L) w) := by
  obtain ⟨A, n, c, b, o, A', n', c', b', o', rfl, g1, g2⟩ := h
  have hbx := (Bx.new w (.int .i64 p) (.slice A n c) (.slice A' n' c') 25).below (below_new _ (.cells #[.int .i64 0, .slice none 0 0, .slice none 0 0] 25))
  have hbw := BxW.new (w.alloc (.cells #[.int .i64 p, .slice A n c, .slice A' n' c'] 25)) (.int .i64 0) (.slice none 0 0) (.slice none 0 0) 25
  rw [World.size_alloc] at hbw
  have hB0 := ((Below.refl w.heap.size w).alloc (Nat.le_refl _) (.cells #[.int .i64 p, .slice A n c, .slice A' n' c'] 25)).alloc (by simp) (.cells #[.int .i64 0, .slice none 0 0, .slice none 0 0] 25)
  have HV := Lib.hid (show RV _ (.agg #[.int .i64 p, .slice A n c, .slice A' n' c']) p U L from ⟨_, _, _, _, _, _, _, _, _, _, rfl, g1.below hB0, g2.below hB0⟩)
  have H := Lib.hid (g1.below hB0)
  have H' := Lib.hid (g2.below hB0)
  have HBX := Lib.hid hbx
  have HBW := Lib.hid hbw
  have HB0 := Lib.hid hB0
  clear g1 g2 hbx hbw hB0
  rcases hv : fracB p U L
  · have HV1 := Lib.hid hv
    have HE := Lib.hid (show fracBackR p U L = none by unfold fracBackR; rw [if_neg (by simp [hv])])
    clear hv
    go_enter Tryd.func29, Tryd.ntmps29
    go_wp2_with (go_at_call 13; refine (specFracValid _ p U L _ HV.out).mono ?_; rintro e w1 ⟨rfl, hB⟩; rw [HV1.out]; have HB1 := Lib.hid (below_more HB0.out hB); have hbw := HBW.out.below hB; have x0 := hbw.c.1; have x1 := hbw.c.2.1; have x2 := hbw.c.2.2; have fz := hbw.fz; clear hB hbw)
    refine bodyPost_ret (v := .tuple #[.agg #[.int .i64 0, .slice none 0 0, .slice none 0 0], .bool false]) (by simp [results, Tryd.f29, go_sem, x0, x1, x2]) rfl ?_
    rw [HE.out]
    exact madeb_no HB1.out (by omega)
  have HV1 := Lib.hid hv
  obtain ⟨hu, hl, hu12, hl12, hl0, hl1⟩ := fracB_true hv
  have HLN := Lib.hid H.out.len
  by_cases hn0 : n = 0
  · subst hn0
    have HE := Lib.hid (show fracBackR p U L = none by unfold fracBackR; rw [if_pos hv]; exact leastR_no (.inl (decide_eq_true (.inl H.out.len))))
    clear hv hu hl hu12 hl12 hl0 hl1
    go_enter Tryd.func29, Tryd.ntmps29
    go_wp2_with (go_at_call 13; refine (specFracValid _ p U L _ HV.out).mono ?_; rintro e w1 ⟨rfl, hB⟩; rw [HV1.out]; have HB1 := Lib.hid (below_more HB0.out hB); have H1 := Lib.hid (H.out.below hB); have H1' := Lib.hid (H'.out.below hB); have HW1 := Lib.hid (HBW.out.below hB); have HBX1 := Lib.hid (HBX.out.below hB); have y0 := HBX1.out.1; have y1 := HBX1.out.2.1; have y2 := HBX1.out.2.2; have x0 := HW1.out.c.1; have x1 := HW1.out.c.2.1; have x2 := HW1.out.c.2.2; have fz := HW1.out.fz; clear hB)
    refine bodyPost_ret (v := .tuple #[.agg #[.int .i64 0, .slice none 0 0, .slice none 0 0], .bool false]) (by simp [results, Tryd.f29, go_sem, x0, x1, x2]) rfl ?_
    rw [HE.out]
    exact madeb_no HB1.out (by omega)
  obtain rfl := H.out.adr (by omega)
  obtain ⟨x, hx, hc⟩ := H.out.cell 0 (by omega)
  rw [Nat.add_zero] at hc
  have HC := Lib.hid hc
  have hni : (0 : Int) < (n : Int) := by omega
  have hnz : ((n : Int) == 0) = false := by simpa using (by omega : ¬ (n : Int) = 0)
  have hco : co U 0 = x := getD_at hx
  by_cases hx0 : x = 0
  · subst hx0
    have HE := Lib.hid (show fracBackR p U L = none by unfold fracBackR; rw [if_pos hv]; exact leastR_no (.inl (decide_eq_true (.inr hco))))
    clear hv hu hl hu12 hl12 hl0 hl1 hc hx hco
    go_enter Tryd.func29, Tryd.ntmps29
    go_wp2_with (go_at_call 13; refine (specFracValid _ p U L _ HV.out).mono ?_; rintro e w1 ⟨rfl, hB⟩; rw [HV1.out]; have HB1 := Lib.hid (below_more HB0.out hB); have H1 := Lib.hid (H.out.below hB); have H1' := Lib.hid (H'.out.below hB); have HW1 := Lib.hid (HBW.out.below hB); have HBX1 := Lib.hid (HBX.out.below hB); have y0 := HBX1.out.1; have y1 := HBX1.out.2.1; have y2 := HBX1.out.2.2; have x0 := HW1.out.c.1; have x1 := HW1.out.c.2.1; have x2 := HW1.out.c.2.2; have fz := HW1.out.fz; have hc := (keep_of_below hB).cell HC.out (fun h => h); clear hB)
    refine bodyPost_ret (v := .tuple #[.agg #[.int .i64 0, .slice none 0 0, .slice none 0 0], .bool false]) (by simp [results, Tryd.f29, go_sem, x0, x1, x2]) rfl ?_
    rw [HE.out]
    exact madeb_no HB1.out (by omega)
  have hx1 : (x == 0) = false := by simpa using hx0
  have hcz : co U 0 ≠ 0 := by rw [hco]; exact hx0
  have hul : U.length ≠ 0 := by rw [H.out.len]; omega
  have HE := Lib.hid (show fracBackR p U L = if fracB p (leastL p L U).1 (leastL p L U).2 = true then some (p, (leastL p L U).1, (leastL p L U).2) else none by unfold fracBackR; rw [if_pos hv]; exact leastR_fit hl hu hul hcz)
  have HU := Lib.hid hu
  have HL := Lib.hid hl
  have HUL := Lib.hid (And.intro hul hcz)
  clear hv hu hl hu12 hl12 hl0 hl1 hc hx hco hx0 hcz hul
  go_enter Tryd.func29, Tryd.ntmps29
  go_wp2_with (go_at_call 13; refine (specFracValid _ p U L _ HV.out).mono ?_; rintro e w1 ⟨rfl, hB⟩; rw [HV1.out]; have HB1 := Lib.hid (below_more HB0.out hB); have H1 := Lib.hid (H.out.below hB); have H1' := Lib.hid (H'.out.below hB); have HW1 := Lib.hid (HBW.out.below hB); have HBX1 := Lib.hid (HBX.out.below hB); have y0 := HBX1.out.1; have y1 := HBX1.out.2.1; have y2 := HBX1.out.2.2; have x0 := HW1.out.c.1; have x1 := HW1.out.c.2.1; have x2 := HW1.out.c.2.2; have fz := HW1.out.fz; have hc := (keep_of_below hB).cell HC.out (fun h => h); clear hB)
  refine (specLeast p A' n' c' b' o' L _ n c b o U _ H1'.out H1.out HL.out HU.out HUL.out.1 HUL.out.2).mono ?_
  rintro e w2 ⟨v2, rfl, hO, hB⟩
  have HO2 := Lib.hid hO
  have HB2 := Lib.hid (below_more HB1.out hB)
  have HW2 := Lib.hid (HW1.out.below hB)
  have hs1 := HB1.out.size
  have hlo := HW1.out.c.lt
  clear hO hB
  obtain ⟨X, hX⟩ : ∃ X, (leastL p L U).1 = X := ⟨_, rfl⟩
  obtain ⟨Y, hY⟩ : ∃ Y, (leastL p L U).2 = Y := ⟨_, rfl⟩
  rw [hX, hY] at HO2
  have HE2 := HE.out
  rw [hX, hY] at HE2
  have HXY := Lib.hid (And.intro hX hY)
  clear hX hY
  rcases hf : fracB p X Y
  · have HR := Lib.hid (show fracBackR p U L = none by rw [HE2, if_neg (by simp [hf])])
    have HF := Lib.hid hf
    clear HE2 hf
    go_wp2_with (fail)
    refine (specFit v2 p X Y _ _ HO2.out).mono ?_
    rw [HF.out]
    rintro e w3 ⟨u, rfl, _, hz, hB⟩
    have hu := hz rfl
    subst hu
    have HB3 := Lib.hid (below_more HB2.out hB)
    have HW3 := Lib.hid (HW2.out.below hB)
    clear hz hB
    obtain ⟨x0, x1, x2⟩ := HW3.out.c
    have fz := HW3.out.fz
    go_wp2_with (fail)
    refine bodyPost_ret (v := .tuple #[.agg #[.int .i64 0, .slice none 0 0, .slice none 0 0], .bool false]) (by simp [results, Tryd.f29, go_sem, x0, x1, x2]) rfl ?_
    rw [HR.out]
    exact madeb_no HB3.out (by omega)
  · have HR := Lib.hid (show fracBackR p U L = some (p, X, Y) by rw [HE2, if_pos hf])
    have HF := Lib.hid hf
    clear HE2 hf
    go_wp2_with (fail)
    refine (specFit v2 p X Y _ _ HO2.out).mono ?_
    rw [HF.out]
    rintro e w3 ⟨u, rfl, hz, _, hB⟩
    obtain ⟨A1, c1, A2, c2, rfl, hO1, hO2, hap⟩ := hz rfl
    have HR3 := Lib.hid (show RO w3 w1.heap.size (.agg #[.int .i64 p, .slice A1 X.length c1, .slice A2 Y.length c2]) p X Y from ⟨A1, c1, A2, c2, rfl, hO1, hO2, hap⟩)
    have HB3 := Lib.hid (below_more HB2.out hB)
    have HW3 := Lib.hid (HW2.out.below hB)
    clear hz hB hO1 hO2 hap
    obtain ⟨x0, x1, x2⟩ := HW3.out.c
    have fz := HW3.out.fz
    go_wp2_with (fail)
    refine bodyPost_ret (v := .tuple #[.agg #[.int .i64 p, .slice A1 X.length c1, .slice A2 Y.length c2], .bool true]) (by simp [results, Tryd.f29, go_sem, x0, x1, x2]) rfl ?_
    rw [HR.out]
    exact madeb_put (R := some (p, X, Y)) (g := w.heap.size + 1) HR3.out HB3.out hs1 (by omega) hlo
end Go.Proofs.YtllakclbgmingabDoor

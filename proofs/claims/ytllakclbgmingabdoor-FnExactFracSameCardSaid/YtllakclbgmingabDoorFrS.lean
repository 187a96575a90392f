/-
  The contracts of bothValid, FracSame.
-/
import Derived.Test.YtllakclbgmingabDoorFrW
import Derived.Test.YtllakclbgmingabDoorFrM

namespace Go.Proofs.YtllakclbgmingabDoor
open Go.RowKit
set_option maxRecDepth 100000 in
set_option maxHeartbeats 4000000 in
theorem bothValid_any (v : Value) (p : Int) (U L : List Int) (v' : Value) (p' : Int) (U' L' : List Int) (w : World) (h : RV w v p U L) (h' : RV w v' p' U' L') (ge : Addr) (hge : GE w ge) :
    Calls Tryd.prog 52 #[v, v'] w fun e w' => e = .returned (.bool (bothB p U L p' U' L')) ∧ Below w.heap.size w w' := by
  have H := Lib.hid h
  have H' := Lib.hid h'
  obtain ⟨A, n, c, b, o, A', n', c', b', o', rfl, g1, g2⟩ := h
  obtain ⟨B, m, d, y, x, B', m', d', y', x', rfl, k1, k2⟩ := h'
  obtain ⟨W0, hW0⟩ : ∃ W0, (w.alloc (.cells #[.int .i64 p, .slice A n c, .slice A' n' c'] 25)).alloc (.cells #[.int .i64 p', .slice B m d, .slice B' m' d'] 25) = W0 := ⟨_, rfl⟩
  have hB0 : Below w.heap.size w W0 := by rw [← hW0]; exact ((Below.refl _ w).alloc (Nat.le_refl _) _).alloc (by simp) _
  have hba : Bx W0 w.heap.size (.int .i64 p) (.slice A n c) (.slice A' n' c') := by rw [← hW0]; exact (Bx.new w _ _ _ _).below (below_new _ _)
  have hbb : Bx W0 (w.heap.size + 1) (.int .i64 p') (.slice B m d) (.slice B' m' d') := by
    have := Bx.new (w.alloc (.cells #[.int .i64 p, .slice A n c, .slice A' n' c'] 25)) (.int .i64 p') (.slice B m d) (.slice B' m' d') 25
    rw [World.size_alloc] at this
    rw [← hW0]; exact this
  have H0 := Lib.hid (H.out.below hB0)
  have H0' := Lib.hid (H'.out.below hB0)
  have HG0 := Lib.hid (hge.below hB0)
  have BA := Lib.hid hba
  have BB := Lib.hid hbb
  have HB0 := Lib.hid hB0
  clear g1 g2 k1 k2 hba hbb hB0 hge
  obtain ⟨x0, x1, x2⟩ := BA.out
  rcases ha : fracB p U L
  · have HA := Lib.hid ha
    have HR := Lib.hid (show bothB p U L p' U' L' = false by unfold bothB; rw [ha]; rfl)
    clear ha
    go_enter Tryd.func52, Tryd.ntmps52
    go_wp2_with (go_at_call 16; (with_reducible refine (implFracValid _ p U L _ H0.out ge HG0.out).mono ?_); rintro e w1 ⟨rfl, hB⟩; rw [HA.out]; have HB1 := Lib.hid (below_more HB0.out hB); have H1' := Lib.hid (H0'.out.below hB); have HG1 := Lib.hid (HG0.out.below hB); have BA1 := Lib.hid (BA.out.below hB); have BB1 := Lib.hid (BB.out.below hB); obtain ⟨y0, y1, y2⟩ := BA1.out; obtain ⟨t0, t1, t2⟩ := BB1.out; clear hB)
    go_ret
    exact ⟨ret_bool HR.out.symm, HB1.out⟩
  have HA := Lib.hid ha
  rcases hb : fracB p' U' L'
  · have HA' := Lib.hid hb
    have HR := Lib.hid (show bothB p U L p' U' L' = false by unfold bothB; rw [hb]; simp)
    clear ha hb
    go_enter Tryd.func52, Tryd.ntmps52
    go_wp2_with (first | (go_at_call 16; (with_reducible refine (implFracValid _ p U L _ H0.out ge HG0.out).mono ?_); rintro e w1 ⟨rfl, hB⟩; rw [HA.out]; have HB1 := Lib.hid (below_more HB0.out hB); have H1' := Lib.hid (H0'.out.below hB); have HG1 := Lib.hid (HG0.out.below hB); have BA1 := Lib.hid (BA.out.below hB); have BB1 := Lib.hid (BB.out.below hB); obtain ⟨y0, y1, y2⟩ := BA1.out; obtain ⟨t0, t1, t2⟩ := BB1.out; clear hB) | (go_at_call 16; (with_reducible refine (implFracValid _ p' U' L' _ H1'.out ge HG1.out).mono ?_); rintro e w2 ⟨rfl, hB⟩; rw [HA'.out]; have HB2 := Lib.hid (below_more HB1.out hB); have BA2 := Lib.hid (BA1.out.below hB); have BB2 := Lib.hid (BB1.out.below hB); obtain ⟨z0, z1, z2⟩ := BA2.out; obtain ⟨s0, s1, s2⟩ := BB2.out; clear hB))
    go_ret
    exact ⟨ret_bool HR.out.symm, HB2.out⟩
  have HA' := Lib.hid hb
  by_cases hp : p = p'
  · have hq : (p == p') = true := by simpa using hp
    have HR := Lib.hid (show bothB p U L p' U' L' = true by unfold bothB; rw [ha, hb]; simpa using hp)
    clear ha hb hp
    go_enter Tryd.func52, Tryd.ntmps52
    go_wp2_with (first | (go_at_call 16; (with_reducible refine (implFracValid _ p U L _ H0.out ge HG0.out).mono ?_); rintro e w1 ⟨rfl, hB⟩; rw [HA.out]; have HB1 := Lib.hid (below_more HB0.out hB); have H1' := Lib.hid (H0'.out.below hB); have HG1 := Lib.hid (HG0.out.below hB); have BA1 := Lib.hid (BA.out.below hB); have BB1 := Lib.hid (BB.out.below hB); obtain ⟨y0, y1, y2⟩ := BA1.out; obtain ⟨t0, t1, t2⟩ := BB1.out; clear hB) | (go_at_call 16; (with_reducible refine (implFracValid _ p' U' L' _ H1'.out ge HG1.out).mono ?_); rintro e w2 ⟨rfl, hB⟩; rw [HA'.out]; have HB2 := Lib.hid (below_more HB1.out hB); have BA2 := Lib.hid (BA1.out.below hB); have BB2 := Lib.hid (BB1.out.below hB); obtain ⟨z0, z1, z2⟩ := BA2.out; obtain ⟨s0, s1, s2⟩ := BB2.out; clear hB))
    go_ret
    exact ⟨ret_bool HR.out.symm, HB2.out⟩
  · have hq : (p == p') = false := by simpa using hp
    have HR := Lib.hid (show bothB p U L p' U' L' = false by unfold bothB; rw [decide_eq_false hp]; simp)
    clear ha hb hp
    go_enter Tryd.func52, Tryd.ntmps52
    go_wp2_with (first | (go_at_call 16; (with_reducible refine (implFracValid _ p U L _ H0.out ge HG0.out).mono ?_); rintro e w1 ⟨rfl, hB⟩; rw [HA.out]; have HB1 := Lib.hid (below_more HB0.out hB); have H1' := Lib.hid (H0'.out.below hB); have HG1 := Lib.hid (HG0.out.below hB); have BA1 := Lib.hid (BA.out.below hB); have BB1 := Lib.hid (BB.out.below hB); obtain ⟨y0, y1, y2⟩ := BA1.out; obtain ⟨t0, t1, t2⟩ := BB1.out; clear hB) | (go_at_call 16; (with_reducible refine (implFracValid _ p' U' L' _ H1'.out ge HG1.out).mono ?_); rintro e w2 ⟨rfl, hB⟩; rw [HA'.out]; have HB2 := Lib.hid (below_more HB1.out hB); have BA2 := Lib.hid (BA1.out.below hB); have BB2 := Lib.hid (BB1.out.below hB); obtain ⟨z0, z1, z2⟩ := BA2.out; obtain ⟨s0, s1, s2⟩ := BB2.out; clear hB))
    go_ret
    exact ⟨ret_bool HR.out.symm, HB2.out⟩
end Go.Proofs.YtllakclbgmingabDoor

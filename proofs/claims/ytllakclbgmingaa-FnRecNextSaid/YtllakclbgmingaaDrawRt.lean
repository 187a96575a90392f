/-
  The draw of a recurrence and a number; the comparison of two recurrences that are the same.
-/
import Derived.Deep.RegionHeld3
import Derived.Test.YtllakclbgmingaaDrawRx
import Derived.Test.YtllakclbgmingaaSame
namespace Go.Proofs.Ytllakclbgmingaa
open Go.RowKit
set_option maxHeartbeats 1000000 in
theorem sameRec_same (v v' : Value) (p : Int) (T F : List Int) (w : World) (h : RV w v p T F) (h' : RV w v' p T F) :
    Calls Try.prog 20 #[v, v'] w fun e w' => e = .returned (.bool true) ∧ Below w.heap.size w w' := by
  obtain ⟨A, n, c, b, o, B, m, d, x, y, rfl, g1, g2⟩ := h
  obtain ⟨A', n', c', b', o', B', m', d', x', y', rfl, k1, k2⟩ := h'
  have hB0 : Below w.heap.size w ((w.alloc (.cells #[.int .i64 p, .slice A n c, .slice B m d] 25)).alloc (.cells #[.int .i64 p, .slice A' n' c', .slice B' m' d'] 25)) := ((Below.refl _ w).alloc (Nat.le_refl _) _).alloc (by simp) _
  have H := Lib.hid (g1.below hB0)
  have H' := Lib.hid (g2.below hB0)
  have K := Lib.hid (k1.below hB0)
  have K' := Lib.hid (k2.below hB0)
  have HB0 := Lib.hid hB0
  clear g1 g2 k1 k2 hB0
  go_enter Try.func20, Try.ntmps20
  go_wp2_with (fail)
  refine (sameIntsC A n c b o T A' n' c' b' o' T _ H.out K.out).mono ?_
  rintro e w1 ⟨rfl, hw⟩
  rw [decide_eq_true rfl]
  have HBE := Lib.hid (below_drawn HB0.out hw)
  have H2 := Lib.hid (H'.out.drewN hw)
  have K2 := Lib.hid (K'.out.drewN hw)
  obtain ⟨mm, rfl⟩ := hw
  go_wp2_with (fail)
  refine (sameIntsC B m d x y F B' m' d' x' y' F _ H2.out K2.out).mono ?_
  rintro e w2 ⟨rfl, hw2⟩
  rw [decide_eq_true rfl]
  have HW2 := Lib.hid (below_drawn HBE.out hw2)
  clear hw2
  go_wp2_with (fail)
  go_ret
  exact ⟨rfl, HW2.out⟩
end Go.Proofs.Ytllakclbgmingaa

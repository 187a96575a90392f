/-
  The contracts of the program's numbers with their prime.
-/
import Derived.Test.YtecmclaockmgeaaDoorVal
import Derived.Test.YtecmclaockmgeaaDoorMathB
import Derived.Test.YtecmclaockmgeaaDoorTail
namespace Go.Proofs.YtecmclaockmgeaaDoor
open Go.RowKit
/-- a number with its prime -/
def rsd (p x : Int) : Value := .agg #[.int .i64 p, .int .i64 x]
theorem negative_any2 (p a : Int) (w : World) (hp : 2 ≤ p) (hp' : p ≤ 13) (ha : 0 ≤ a) (ha' : a < p) :
    Calls Tryd.prog 38 #[.int .i64 p, .int .i64 a] w fun e w' => e = .returned (.int .i64 ((p - a) % p)) ∧ w = w' := by
  go_enter Tryd.func38, Tryd.ntmps38
  go_wp2_with (fail)
  go_ret
  exact ⟨rfl, rfl⟩
theorem below_drawN' {B : Nat} {w w1 : World} (h : Below B w w1) (m : Nat) : Below B w (w1.drewN m) := ⟨h.os, h.tape, h.output, h.size, h.block⟩
def ResPost (p y : Int) (w : World) (e : Ending) (w' : World) : Prop := e = .returned (.agg #[.int .i64 p, .int .i64 y]) ∧ Below w.heap.size w w'
theorem below_three {w : World} {o1 o2 o3 : Obj} {n : Nat} {u v : Value} : Below w.heap.size w ((((((w.alloc o1).alloc o2).alloc o3).drewN n).setCell ⟨w.heap.size + 1 + 1, 0, none⟩ u).setCell ⟨w.heap.size + 1 + 1, 1, none⟩ v) :=
  (((below_drawN' (((((Below.refl _ _).alloc (Nat.le_refl _) _).alloc (by simp) _).alloc (by simp; omega) _)) n).setCell (by simp; omega) _).setCell (by simp; omega) _)
theorem below_two {w : World} {o1 o2 : Obj} {n : Nat} {u v : Value} : Below w.heap.size w (((((w.alloc o1).alloc o2).drewN n).setCell ⟨w.heap.size + 1, 0, none⟩ u).setCell ⟨w.heap.size + 1, 1, none⟩ v) :=
  (((below_drawN' ((((Below.refl _ _).alloc (Nat.le_refl _) _).alloc (by simp) _)) n).setCell (by simp) _).setCell (by simp) _)
theorem res_plus (p x y : Int) (w : World) (hx : numB p x = true) (hy : numB p y = true) :
    Calls Tryd.prog 101 #[.agg #[.int .i64 p, .int .i64 x], .agg #[.int .i64 p, .int .i64 y]] w (ResPost p ((x + y) % p) w) := by
  have HR := Lib.hid (numAdd_ok hx hy)
  clear hx hy
  go_enter Tryd.func101, Tryd.ntmps101
  go_wp2_with (fail)
  refine wp_quiet_tail 10 (by kernel_rfl) (by kernel_rfl) ?_
  simp only [List.take_succ_cons, List.take_zero, List.drop_succ_cons, List.drop_zero]
  repeat (go_big_quiet_step ((go_at_call 20; exact quiet_same (implNumAdd p x y _))))
  refine wpQuiet_nil ?_
  intro _ hw'
  obtain ⟨nq, hw''⟩ := hw'
  subst hw''
  rw [HR.out]
  go_wp2_with (fail)
  refine bodyPost_ret (v := .agg #[.int .i64 p, .int .i64 ((x + y) % p)]) (by simp [results, Tryd.results101, go_sem]) rfl ⟨rfl, below_three⟩
theorem res_times (p x y : Int) (w : World) (hx : numB p x = true) (hy : numB p y = true) :
    Calls Tryd.prog 102 #[.agg #[.int .i64 p, .int .i64 x], .agg #[.int .i64 p, .int .i64 y]] w (ResPost p (x * y % p) w) := by
  have HR := Lib.hid (numTimes_ok hx hy)
  clear hx hy
  go_enter Tryd.func102, Tryd.ntmps102
  go_wp2_with (fail)
  refine wp_quiet_tail 10 (by kernel_rfl) (by kernel_rfl) ?_
  simp only [List.take_succ_cons, List.take_zero, List.drop_succ_cons, List.drop_zero]
  repeat (go_big_quiet_step ((go_at_call 21; exact quiet_same (implNumTimes p x y _))))
  refine wpQuiet_nil ?_
  intro _ hw'
  obtain ⟨nq, hw''⟩ := hw'
  subst hw''
  rw [HR.out]
  go_wp2_with (fail)
  refine bodyPost_ret (v := .agg #[.int .i64 p, .int .i64 (x * y % p)]) (by simp [results, Tryd.results102, go_sem]) rfl ⟨rfl, below_three⟩
theorem res_negative (p x : Int) (w : World) (hx : numB p x = true) :
    Calls Tryd.prog 100 #[.agg #[.int .i64 p, .int .i64 x]] w (ResPost p ((p - x) % p) w) := by
  have HX := Lib.hid (numB_bd hx)
  clear hx
  go_enter Tryd.func100, Tryd.ntmps100
  go_wp2_with (fail)
  refine wp_quiet_tail 8 (by kernel_rfl) (by kernel_rfl) ?_
  simp only [List.take_succ_cons, List.take_zero, List.drop_succ_cons, List.drop_zero]
  repeat (go_big_quiet_step ((go_at_call 38; exact quiet_same (negative_any2 p x _ HX.out.2.2.1 HX.out.2.2.2 HX.out.1 HX.out.2.1))))
  refine wpQuiet_nil ?_
  intro _ hw'
  obtain ⟨nq, hw''⟩ := hw'
  subst hw''
  go_wp2_with (fail)
  refine bodyPost_ret (v := .agg #[.int .i64 p, .int .i64 ((p - x) % p)]) (by simp [results, Tryd.results100, go_sem]) rfl ⟨rfl, below_two⟩
theorem res_back (p x : Int) (w : World) (hx : numB p x = true) (h0 : x ≠ 0) :
    Calls Tryd.prog 78 #[.agg #[.int .i64 p, .int .i64 x]] w (ResPost p (invM p x) w) := by
  have HR := Lib.hid (show numBack p x = invM p x by unfold numBack; rw [if_pos ⟨hx, h0⟩])
  clear hx h0
  go_enter Tryd.func78, Tryd.ntmps78
  go_wp2_with (fail)
  refine wp_quiet_tail 8 (by kernel_rfl) (by kernel_rfl) ?_
  simp only [List.take_succ_cons, List.take_zero, List.drop_succ_cons, List.drop_zero]
  repeat (go_big_quiet_step ((go_at_call 48; exact quiet_same (implNumBack p x _))))
  refine wpQuiet_nil ?_
  intro _ hw'
  obtain ⟨nq, hw''⟩ := hw'
  subst hw''
  rw [HR.out]
  go_wp2_with (fail)
  refine bodyPost_ret (v := .agg #[.int .i64 p, .int .i64 (invM p x)]) (by simp [results, Tryd.results78, go_sem]) rfl ⟨rfl, below_two⟩
theorem res_isZero (p x : Int) (w : World) :
    Calls Tryd.prog 73 #[.agg #[.int .i64 p, .int .i64 x]] w fun e w' => e = .returned (.bool (x == 0)) ∧ Below w.heap.size w w' := by
  go_enter Tryd.func73, Tryd.ntmps73
  go_wp2_with (fail)
  go_ret
  exact ⟨rfl, (Below.refl _ _).alloc (Nat.le_refl _) _⟩
end Go.Proofs.YtecmclaockmgeaaDoor

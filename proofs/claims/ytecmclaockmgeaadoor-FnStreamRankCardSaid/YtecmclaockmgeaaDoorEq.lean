/-
  The contracts of the exact laws' comparisons.
-/
import Derived.Test.YtecmclaockmgeaaDoorCopy
namespace Go.Proofs.YtecmclaockmgeaaDoor
open Go.RowKit
theorem IA.drewN {w : World} {A : Option Addr} {n b o : Nat} {xs : List Int} (h : IA w A n b o xs) {w' : World} (hw : ∃ m, w' = w.drewN m) : IA w' A n b o xs := by
  obtain ⟨m, rfl⟩ := hw; exact h.keep (drewN_keep (S := fun _ => False) w m) (fun _ _ h => h)
def BoolPost (t : Bool) (w : World) (e : Ending) (w' : World) : Prop := e = .returned (.bool t) ∧ ∃ m, w' = w.drewN m
theorem take_eq_step {α : Type} {xs ys : List α} {k : Nat} {x : α} (h : xs.take k = ys.take k) (hx : xs[k]? = some x) (hy : ys[k]? = some x) : xs.take (k + 1) = ys.take (k + 1) := by
  rw [List.take_add_one, List.take_add_one, h, hx, hy]
theorem ne_of_at {α : Type} {xs ys : List α} {k : Nat} {x y : α} (hx : xs[k]? = some x) (hy : ys[k]? = some y) (hne : x ≠ y) : xs ≠ ys := by
  rintro rfl; rw [hx] at hy; exact hne (Option.some.inj hy)
theorem quiet_bool {P : Program} {f : FuncId} {args : Array Value} {w : World} {n : Nat} {t : Bool} (h : Calls P f args (w.drewN n) (BoolPost t (w.drewN n))) :
    Calls P f args (w.drewN n) fun e w'' => e = .returned (.bool t) ∧ ∃ m, w'' = w.drewN m := h.mono fun _ _ ⟨he, m, hw⟩ => ⟨he, n + m, by rw [hw, World.drewN_drewN]⟩
theorem below_drawn {B : Nat} {w w1 w2 : World} (h : Below B w w1) (hm : ∃ m, w2 = w1.drewN m) : Below B w w2 := by
  obtain ⟨m, rfl⟩ := hm; exact ⟨h.os, h.tape, h.output, h.size, h.block⟩
/-- 'Below' at the first world's size, one call more -/
theorem below_more {w w1 w2 : World} (h : Below w.heap.size w w1) (h2 : Below w1.heap.size w1 w2) : Below w.heap.size w w2 := h.trans (h2.mono h.size)
end Go.Proofs.YtecmclaockmgeaaDoor

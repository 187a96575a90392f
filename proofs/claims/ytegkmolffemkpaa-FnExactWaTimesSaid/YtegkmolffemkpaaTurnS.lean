/-
  The contract of the model's MatTurn.
-/
import Derived.Test.YtegkmolffemkpaaApp
namespace Go.Proofs.Ytegkmolffemkpaa
open Go.RowKit
def colM (M : List (List Int)) (j : Nat) : List Int := M.map fun row => row.getD j 0
def turnM (M : List (List Int)) : List (List Int) := (List.range (M.headD []).length).map (colM M)
def turnR (p : Int) (M : List (List Int)) : List (List Int) := if matB p M = true then turnM M else []
theorem colM_len (M : List (List Int)) (j : Nat) : (colM M j).length = M.length := by simp [colM]
theorem colM_get {M : List (List Int)} {k j : Nat} {row : List Int} {x : Int} (hr : M[k]? = some row) (hx : row[j]? = some x) : (colM M j)[k]? = some x := by
  simp [colM, hr, hx]
theorem turnM_len (M : List (List Int)) : (turnM M).length = (M.headD []).length := by simp [turnM]
theorem turnM_get (M : List (List Int)) (j : Nat) (h : j < (M.headD []).length) : (turnM M)[j]? = some (colM M j) := by
  unfold turnM; rw [List.getElem?_map, List.getElem?_range h]; rfl
theorem take_snoc {α : Type} (l : List α) (k : Nat) (x : α) (h : l[k]? = some x) : l.take k ++ [x] = l.take (k + 1) := by rw [List.take_add_one, h]; rfl
/-- a call's result: a slice of slices that reads so -/
def GivesM (R : List (List Int)) (w : World) (e : Ending) (w' : World) : Prop :=
  ∃ (A : Option Addr) (c b o : Nat), e = .returned (.slice A R.length c) ∧ RA w' A R.length b o R ∧ Below w.heap.size w w'
theorem RA.nil (w : World) (A : Option Addr) : RA w A 0 0 0 [] := ⟨rfl, by omega, by omega, by omega⟩
theorem OM.empty (w : World) : OM (w.alloc (.cells #[] 23)) w.heap.size (some ⟨w.heap.size, 0, none⟩) 0 0 [] [] :=
  ⟨World.ownsRow_lit (size := 1) w #[] 0 (Nat.le_refl _) (Nat.zero_le _) (by simp), rfl, fun r row h => by simp at h, fun r s u u' _ h => by simp at h⟩
theorem OI.empty (w : World) : OI (w.alloc (.cells #[] 3)) w.heap.size (some ⟨w.heap.size, 0, none⟩) 0 0 [] := World.ownsRow_lit (size := 1) w #[] 0 (Nat.le_refl _) (Nat.zero_le _) (by simp)
theorem OI.alloc {w : World} {B n c : Nat} {A : Option Addr} {xs : List Int} (h : OI w B A n c xs) (o : Obj) : OI (w.alloc o) B A n c xs := World.ownsRow.alloc h o
theorem OM.alloc {w : World} {B n c : Nat} {A : Option Addr} {M : List (List Int)} {vs : List Value} (h : OM w B A n c M vs) (o : Obj) : OM (w.alloc o) B A n c M vs := h.below ((Below.refl _ _).alloc (Nat.le_refl _) o)
end Go.Proofs.Ytegkmolffemkpaa

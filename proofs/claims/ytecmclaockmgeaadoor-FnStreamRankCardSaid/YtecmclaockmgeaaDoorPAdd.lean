/-
  The contracts of the model's l2Add and PolyAdd.
-/
import Derived.Test.YtecmclaockmgeaaDoorPolM
namespace Go.Proofs.YtecmclaockmgeaaDoor
open Go.RowKit
/-- a row and whether there is one -/
def MadeO (R : Option (List Int)) (w : World) (e : Ending) (w' : World) : Prop :=
  ∃ (A : Option Addr) (c : Nat), e = .returned (.tuple #[.slice A (R.getD []).length c, .bool R.isSome]) ∧ OI w' w.heap.size A (R.getD []).length c (R.getD []) ∧ Below w.heap.size w w'
theorem MadeO.no {w w1 : World} (hb : Below w.heap.size w w1) : MadeO none w (.returned (.tuple #[.slice (some ⟨w1.heap.size, 0, none⟩) 0 0, .bool false])) (w1.alloc (.cells #[] 3)) :=
  ⟨_, 0, rfl, owns_mono (OI.empty w1) hb.size, hb.alloc hb.size _⟩
def polAdd (p : Int) (f g : List Int) : Option (List Int) := if polB p f = true ∧ polB p g = true then some (addL p f g 1) else none
end Go.Proofs.YtecmclaockmgeaaDoor

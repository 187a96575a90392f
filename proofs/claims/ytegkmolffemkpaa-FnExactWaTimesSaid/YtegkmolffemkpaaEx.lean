/-
  Owned rows behind calls and stores, as the exact walks take them.
-/
import Derived.Test.YtegkmolffemkpaaCopy
import Derived.Test.YtegkmolffemkpaaMark
import Derived.Test.YtegkmolffemkpaaEq
namespace Go.Proofs.Ytegkmolffemkpaa
open Go.RowKit
theorem OIb {w w' : World} {B n c : Nat} {A : Option Addr} {xs : List Int} (h : OI w B A n c xs) (k : Below w.heap.size w w') : OI w' B A n c xs := owns_below h k
theorem OIk {w w' : World} {B n c : Nat} {A : Option Addr} {xs : List Int} {S : Nat → Prop} (h : OI w B A n c xs) (k : Keep S w w') (hs : ∀ g, (Value.slice A n c).ownBlock = some g → ¬ S g) : OI w' B A n c xs := owns_keep h k hs
theorem ap1 {u v : Value} (h : Apart u v) {g : Nat} (hu : u.ownBlock = some g) (hv : v.ownBlock = some g) : False := by
  rcases h with h | h
  · rw [h] at hu; cases hu
  · exact h (hu.trans hv.symm)
end Go.Proofs.Ytegkmolffemkpaa

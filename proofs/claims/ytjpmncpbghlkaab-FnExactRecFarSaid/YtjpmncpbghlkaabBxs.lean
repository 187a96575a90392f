/-
  Boxes of structs of three cells.
-/
import Derived.Test.YtjpmncpbghlkaabRc
namespace Go.Proofs.Ytjpmncpbghlkaab
open Go.RowKit
/-- a box of three cells -/
def Bx (W : World) (g : Nat) (v0 v1 v2 : Value) : Prop := W.cell? ⟨g, 0, none⟩ = some v0 ∧ W.cell? ⟨g, 1, none⟩ = some v1 ∧ W.cell? ⟨g, 2, none⟩ = some v2
theorem Bx.below {W W' : World} {g : Nat} {v0 v1 v2 : Value} (h : Bx W g v0 v1 v2) (k : Below W.heap.size W W') : Bx W' g v0 v1 v2 := by
  have hk := keep_of_below k
  exact ⟨hk.cell h.1 (fun h => h), hk.cell h.2.1 (fun h => h), hk.cell h.2.2 (fun h => h)⟩
theorem Bx.keep {W W' : World} {g : Nat} {v0 v1 v2 : Value} {S : Nat → Prop} (h : Bx W g v0 v1 v2) (hk : Keep S W W') (hs : ¬ S g) : Bx W' g v0 v1 v2 :=
  ⟨hk.cell h.1 hs, hk.cell h.2.1 hs, hk.cell h.2.2 hs⟩
theorem Bx.drew {W : World} {g : Nat} {v0 v1 v2 : Value} (h : Bx W g v0 v1 v2) : Bx W.drew g v0 v1 v2 := ⟨h.1, h.2.1, h.2.2⟩
theorem Bx.lt {W : World} {g : Nat} {v0 v1 v2 : Value} (h : Bx W g v0 v1 v2) : g < W.heap.size := cell_lt h.1
theorem Bx.new (W : World) (v0 v1 v2 : Value) (t : TypeId) : Bx (W.alloc (.cells #[v0, v1, v2] t)) W.heap.size v0 v1 v2 := by
  obtain ⟨h0, h1, h2⟩ := box3 W v0 v1 v2 t
  exact ⟨h0, h1, h2⟩
theorem below_new (W : World) (o : Obj) : Below W.heap.size W (W.alloc o) := (Below.refl _ W).alloc (Nat.le_refl _) o
theorem below_new_drew (W : World) : Below W.heap.size W W.drew := (Below.refl _ W).drew
end Go.Proofs.Ytjpmncpbghlkaab

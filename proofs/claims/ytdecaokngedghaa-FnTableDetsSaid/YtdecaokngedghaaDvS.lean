/-
  The contract of the model's l2Divide.
-/
import Derived.Test.YtdecaokngedghaaSub
import Derived.Test.YtdecaokngedghaaPAdd
import Derived.Test.YtdecaokngedghaaEx
import Derived.Test.YtdecaokngedghaaApA
import Derived.Test.YtdecaokngedghaaTail
import Derived.Deep.DeepCutAuto
namespace Go.Proofs.Ytdecaokngedghaa
open Go.RowKit
/-- two rows of the call's own -/
def Made2 (R1 R2 : List Int) (w : World) (e : Ending) (w' : World) : Prop :=
  ∃ (A : Option Addr) (c : Nat) (A' : Option Addr) (c' : Nat), e = .returned (.tuple #[.slice A R1.length c, .slice A' R2.length c']) ∧ OI w' w.heap.size A R1.length c R1 ∧ OI w' w.heap.size A' R2.length c' R2 ∧ Apart (.slice A R1.length c) (.slice A' R2.length c') ∧ Below w.heap.size w w'
theorem apart_new {w1 : World} {B B' n c n' c' : Nat} {A A' : Option Addr} {xs ys : List Int} {w2 : World} (h : OI w1 B A n c xs) (h' : OI w2 B' A' n' c' ys) (hB : w1.heap.size ≤ B') : Apart (.slice A n c) (.slice A' n' c') := by
  unfold Apart
  by_cases ho : (Value.slice A n c).ownBlock = none
  · exact .inl ho
  · right
    intro e
    obtain ⟨q, hq⟩ := Option.ne_none_iff_exists'.1 ho
    have h1 := (h.lt q hq).2
    have h2 := (h'.lt q (e.symm.trans hq)).1
    omega
end Go.Proofs.Ytdecaokngedghaa

/-
  The contract of the model's RecTerms.
-/
import Derived.Test.YtdecaokngedghaaSTerms
import Derived.Test.YtdecaokngedghaaTerms
namespace Go.Proofs.Ytdecaokngedghaa
open Go.RowKit
theorem oi_empty (w : World) (B : Nat) (hB : B ≤ w.heap.size) : OI (w.alloc (.cells #[] 3)) B (some ⟨w.heap.size, 0, none⟩) 0 0 [] :=
  World.ownsRow_made (base := B) (e := 3) (size := 1) w #[] 0 hB (by unfold maxLen; omega) (by simp)
end Go.Proofs.Ytdecaokngedghaa

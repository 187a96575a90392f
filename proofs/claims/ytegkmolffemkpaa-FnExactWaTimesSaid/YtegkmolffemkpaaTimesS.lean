/-
  The contract of the model's MatTimes.
-/
import Derived.Test.YtegkmolffemkpaaTimesI
namespace Go.Proofs.Ytegkmolffemkpaa
open Go.RowKit
theorem quietRW {w w' : World} (h : ∃ m, w' = w.drewN m) : Keep (fun _ => False) w w' := by obtain ⟨m, rfl⟩ := h; exact drewN_keep w m
theorem OI.drawn {w w' : World} {B n c : Nat} {A : Option Addr} {xs : List Int} (h : OI w B A n c xs) (hw : ∃ m, w' = w.drewN m) : OI w' B A n c xs := owns_keep h (quietRW hw) (fun _ _ h => h)
theorem OM.drawn {w w' : World} {B n c : Nat} {A : Option Addr} {M : List (List Int)} {vs : List Value} (h : OM w B A n c M vs) (hw : ∃ m, w' = w.drewN m) : OM w' B A n c M vs := h.keep (quietRW hw) (fun _ _ _ h => h)
end Go.Proofs.Ytegkmolffemkpaa

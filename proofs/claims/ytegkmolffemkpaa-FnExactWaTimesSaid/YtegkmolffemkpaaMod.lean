/-
  The contract of the model's l1Mod.
-/
import Derived.Test.YtegkmolffemkpaaNum
namespace Go.Proofs.Ytegkmolffemkpaa
open Go.RowKit
theorem l1Mod_eq {p n : Int} : (n.tmod p + p) % p = n % p := by
  rw [Int.add_emod_right]
  have h : n = p * n.tdiv p + n.tmod p := (Int.mul_tdiv_add_tmod n p).symm
  conv => rhs; rw [h]
  rw [Int.mul_add_emod_self_left]
end Go.Proofs.Ytegkmolffemkpaa

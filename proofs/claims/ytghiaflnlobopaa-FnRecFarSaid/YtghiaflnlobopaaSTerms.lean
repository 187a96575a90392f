/-
  The contracts of the model's l3Terms, RecTerms.
-/
import Derived.Test.YtghiaflnlobopaaRecV
import Derived.Test.YtghiaflnlobopaaApp
import Derived.Test.YtghiaflnlobopaaTail
namespace Go.Proofs.Ytghiaflnlobopaa
open Go.RowKit
/-- the sum so far of the model -/
def tmS (T L : List Int) (k m : Nat) : Int := sigN m (fun j => co T j * co L (k - 1 - j))
theorem tmS_bd {p : Int} {T F : List Int} (h : recB p T F = true) (k m : Nat) (hk : T.length ≤ k) (hm : m ≤ T.length) : 0 ≤ tmS T (trm p T F k) k m ∧ tmS T (trm p T F k) k m ≤ 169 * (m : Int) := by
  obtain ⟨hp, h6, hl, hT, hF⟩ := recB_true h
  refine sigN_bd fun j hj => ?_
  have h1 := numB_bd (co_num hT (show j < T.length by omega))
  have h2 := numB_bd (co_num (trm_num h k) (show k - 1 - j < (trm p T F k).length by rw [trm_len]; omega))
  exact mul_bd h1.1 (by omega) h2.1 (by omega)
end Go.Proofs.Ytghiaflnlobopaa

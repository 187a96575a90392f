/-
  The contracts of the program's MatForm and MatRank.
-/
import Derived.Test.YtcjpjcigjljplaaCpy
namespace Go.Proofs.Ytcjpjcigjljplaa
open Go.RowKit
def formR (p : Int) (M : List (List Int)) : List (List Int) := if matB p M = true then (elim p M (M.headD []).length).1 else []
def rankR (p : Int) (M : List (List Int)) : Int := if matB p M = true then ((elim p M (M.headD []).length).2.length : Int) else -1
theorem VM_of_mat {p : Int} {M : List (List Int)} (h : matB p M = true) : VM p (M.headD []).length M := (matB_true h).2.2.2.2
theorem formR_yes {p : Int} {M : List (List Int)} (h : matB p M = true) : formR p M = (elim p M (M.headD []).length).1 := by unfold formR; rw [if_pos h]
theorem formR_no {p : Int} {M : List (List Int)} (h : matB p M = false) : formR p M = [] := by unfold formR; rw [if_neg (by simp [h])]
theorem OM.mono {w : World} {B B' n c : Nat} {A : Option Addr} {M : List (List Int)} {vs : List Value} (h : OM w B A n c M vs) (hB : B' ≤ B) : OM w B' A n c M vs :=
  ⟨owns_mono h.out hB, h.len, fun r row hr => let ⟨a, b, g1, g2⟩ := h.row r row hr; ⟨a, b, g1, owns_mono g2 hB⟩, h.apart⟩
end Go.Proofs.Ytcjpjcigjljplaa

/-
  The contracts of the model's MatForm and MatRank.
-/
import Derived.Test.YtpelokdgjdljfacFormS
namespace Go.Proofs.Ytpelokdgjdljfac
open Go.RowKit
theorem below_head {B m : Nat} {w w1 w' : World} (hm : w1 = w.drewN m) (h : Below B w1 w') : Below B w w' := by subst hm; exact below_undraw h
theorem RA.seen {w : World} {A : Option Addr} {n b o : Nat} {M : List (List Int)} (h : RA w A n b o M) (m : Nat) : RA (w.drewN m) A n b o M := h.drewN ⟨m, rfl⟩
theorem formR_tot (p : Int) (M : List (List Int)) : tot (formR p M) ≤ 64 := by
  rcases h : matB p M
  · rw [formR_no h]; simp [tot]
  · rw [formR_yes h]
    obtain ⟨h1, h2, h3, h4, _⟩ := matB_true h
    obtain ⟨g1, g2, _, _⟩ := elim_inv (prime_of_mat h) (VM_of_mat h) (M.headD []).length
    have := tot_rows (elim p M (M.headD []).length).1 8 (fun row hr => by rw [(g2 row hr).1]; omega)
    omega
end Go.Proofs.Ytpelokdgjdljfac

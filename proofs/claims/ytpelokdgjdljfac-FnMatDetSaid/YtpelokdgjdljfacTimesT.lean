/-
  The contract of the model's MatTimes, whole.
-/
import Derived.Test.YtpelokdgjdljfacTimesS
namespace Go.Proofs.Ytpelokdgjdljfac
open Go.RowKit
theorem timesR_tot (p : Int) (X Y : List (List Int)) : tot (timesR p X Y) ≤ 64 := by
  by_cases h : matB p X = true ∧ matB p Y = true ∧ (X.headD []).length = Y.length
  · rw [timesR_yes h]
    obtain ⟨h1, h2, h3, h4, _⟩ := matB_true h.1
    obtain ⟨_, _, _, g4, _⟩ := matB_true h.2.1
    have := tot_rows (timesM p X Y) 8 (fun row hr => by
      unfold timesM at hr
      obtain ⟨r, _, rfl⟩ := List.mem_map.1 hr
      rw [timesRow_len]; exact g4)
    rw [timesM_len] at this
    omega
  · rw [timesR_no h]; simp [tot]
end Go.Proofs.Ytpelokdgjdljfac

/-
  How long the numbers of an automaton backwards are.
-/
import Derived.Test.YtegkmolffemkpaaWbi
namespace Go.Proofs.Ytegkmolffemkpaa
open Go.RowKit
theorem tot_le8 {M : List (List Int)} {n : Nat} (h1 : M.length = n) (h2 : ∀ r ∈ M, r.length = n) (hn : n ≤ 8) : tot M ≤ 1048576 := by
  have h := tot_rows M n (fun r hr => by rw [h2 r hr]; exact Nat.le_refl _)
  rw [h1] at h
  have : n * n ≤ 8 * 8 := Nat.mul_le_mul hn hn
  omega
theorem backM_row {M : List (List Int)} {n : Nat} (h1 : M.length = n) : ∀ r ∈ backM M, r.length = n := by
  intro r hr
  simp only [backM, List.mem_map] at hr
  obtain ⟨j, _, rfl⟩ := hr
  rw [colM_len, h1]
theorem back_bd (p : Int) (S : List Int) (MA MB : List (List Int)) (E : List Int) : (backR p S MA MB E).2.1.length ≤ 1048576 ∧ tot (backR p S MA MB E).2.2.1 ≤ 1048576 ∧ tot (backR p S MA MB E).2.2.2.1 ≤ 1048576 ∧ (backR p S MA MB E).2.2.2.2.length ≤ 1048576 := by
  unfold backR
  split
  · rename_i h
    obtain ⟨_, h6, hE, _, _, hA, hB⟩ := waB_true h
    have a := (sqB_true hA).1
    have b := (sqB_true hB).1
    exact ⟨by show E.length ≤ _; omega, tot_le8 (n := S.length) (by rw [backM_len, a]) (backM_row a) (by omega), tot_le8 (n := S.length) (by rw [backM_len, b]) (backM_row b) (by omega), by show S.length ≤ _; omega⟩
  · exact ⟨by simp [waZ], by simp [waZ, tot], by simp [waZ, tot], by simp [waZ]⟩
end Go.Proofs.Ytegkmolffemkpaa

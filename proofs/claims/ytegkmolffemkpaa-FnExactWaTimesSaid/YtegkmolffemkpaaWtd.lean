/-
  How long the numbers of a product of automata are.
-/
import Derived.Test.YtegkmolffemkpaaWti
namespace Go.Proofs.Ytegkmolffemkpaa
open Go.RowKit
theorem tot_le8T {M : List (List Int)} {n m : Nat} (h1 : M.length = n) (h2 : ∀ r ∈ M, r.length = m) (hn : n ≤ 8) (hm : m ≤ 8) : tot M ≤ 1048576 := by
  have h := tot_rows M m (fun r hr => by rw [h2 r hr]; exact Nat.le_refl _)
  rw [h1] at h
  have : n * m ≤ 8 * 8 := Nat.mul_le_mul hn hm
  omega
theorem pairM_row {p : Int} {A B : List (List Int)} {n m : Nat} (hA : ∀ r ∈ A, r.length = n) (hB : ∀ r ∈ B, r.length = m) : ∀ r ∈ pairM p A B, r.length = n * m := by
  intro r hr
  simp only [pairM, pairMR, List.mem_flatMap, List.mem_map] at hr
  obtain ⟨x, hx, y, hy, rfl⟩ := hr
  rw [pairL_len, hA x hx, hB y hy]
theorem prod_bd (p : Int) (S : List Int) (MA MB : List (List Int)) (E : List Int) (p' : Int) (S' : List Int) (MA' MB' : List (List Int)) (E' : List Int) : ((prodR p S MA MB E p' S' MA' MB' E').getD (0, [], [], [], [])).2.1.length ≤ 1048576 ∧ tot ((prodR p S MA MB E p' S' MA' MB' E').getD (0, [], [], [], [])).2.2.1 ≤ 1048576 ∧ tot ((prodR p S MA MB E p' S' MA' MB' E').getD (0, [], [], [], [])).2.2.2.1 ≤ 1048576 ∧ ((prodR p S MA MB E p' S' MA' MB' E').getD (0, [], [], [], [])).2.2.2.2.length ≤ 1048576 := by
  unfold prodR
  split
  · rename_i h
    obtain ⟨h1, h2, _, h3⟩ := h
    obtain ⟨_, h6, hE, _, _, hA, hB⟩ := waB_true h1
    obtain ⟨_, h6', hE', _, _, hA', hB'⟩ := waB_true h2
    refine ⟨?_, ?_, ?_, ?_⟩
    · show (pairL p S S').length ≤ _; rw [pairL_len]; omega
    · exact tot_le8T (n := S.length * S'.length) (m := S.length * S'.length) (by rw [show (Option.getD _ _ : WaT).2.2.1 = pairM p MA MA' from rfl, pairM_len, (sqB_true hA).1, (sqB_true hA').1]) (pairM_row (fun r hr => ((sqB_true hA).2 r hr).1) (fun r hr => ((sqB_true hA').2 r hr).1)) (by omega) (by omega)
    · exact tot_le8T (n := S.length * S'.length) (m := S.length * S'.length) (by rw [show (Option.getD _ _ : WaT).2.2.2.1 = pairM p MB MB' from rfl, pairM_len, (sqB_true hB).1, (sqB_true hB').1]) (pairM_row (fun r hr => ((sqB_true hB).2 r hr).1) (fun r hr => ((sqB_true hB').2 r hr).1)) (by omega) (by omega)
    · show (pairL p E E').length ≤ _; rw [pairL_len, hE, hE']; omega
  · exact ⟨by simp, by simp [tot], by simp [tot], by simp⟩
end Go.Proofs.Ytegkmolffemkpaa

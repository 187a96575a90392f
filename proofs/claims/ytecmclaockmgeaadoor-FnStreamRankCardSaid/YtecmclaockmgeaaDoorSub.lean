/-
  Plain mathematics: one step of a division, number by number.
-/
import Derived.Test.YtecmclaockmgeaaDoorDiv
import Derived.Test.YtecmclaockmgeaaDoorMathB
namespace Go.Proofs.YtecmclaockmgeaaDoor
def subTo (p t : Int) (r g : List Int) (k j : Nat) : List Int := (List.range r.length).map (fun i => if k ≤ i ∧ i < k + j then (r.getD i 0 - t * g.getD (i - k) 0) % p else r.getD i 0)
theorem subTo_len (p t : Int) (r g : List Int) (k j : Nat) : (subTo p t r g k j).length = r.length := by simp [subTo]
theorem subTo_full (p t : Int) (r g : List Int) (k : Nat) : subTo p t r g k g.length = subAt p t r g k := rfl
theorem subTo_at (p t : Int) (r g : List Int) (k j i : Nat) (hi : i < r.length) : (subTo p t r g k j)[i]? = some (if k ≤ i ∧ i < k + j then (r.getD i 0 - t * g.getD (i - k) 0) % p else r.getD i 0) := by
  unfold subTo; rw [List.getElem?_map, List.getElem?_range hi]; rfl
theorem subTo_zero (p t : Int) (r g : List Int) (k : Nat) : subTo p t r g k 0 = r := by
  apply List.ext_getElem?
  intro i
  by_cases hi : i < r.length
  · rw [subTo_at _ _ _ _ _ _ _ hi, if_neg (by omega), List.getD_eq_getElem?_getD, List.getElem?_eq_getElem hi]; rfl
  · rw [List.getElem?_eq_none (by rw [subTo_len]; omega), List.getElem?_eq_none (by omega)]
theorem subTo_get (p t : Int) (r g : List Int) (k j : Nat) (h : k + j < r.length) : (subTo p t r g k j)[k + j]? = some (r.getD (k + j) 0) := by
  rw [subTo_at _ _ _ _ _ _ _ h, if_neg (by omega)]
theorem subTo_step (p t : Int) (r g : List Int) (k j : Nat) : (subTo p t r g k j).set (k + j) ((r.getD (k + j) 0 - t * g.getD j 0) % p) = subTo p t r g k (j + 1) := by
  apply List.ext_getElem?
  intro i
  by_cases hi : i < r.length
  · rw [List.getElem?_set, subTo_at _ _ _ _ _ _ _ hi]
    by_cases e : k + j = i
    · subst e
      rw [if_pos rfl, if_pos (by rw [subTo_len]; omega), subTo_at _ _ _ _ _ _ _ hi, if_pos (by omega), show k + j - k = j by omega]
    · rw [if_neg e, subTo_at _ _ _ _ _ _ _ hi]
      by_cases e2 : k ≤ i ∧ i < k + j
      · rw [if_pos e2, if_pos (by omega)]
      · rw [if_neg e2, if_neg (by omega)]
  · rw [List.getElem?_eq_none (by rw [List.length_set, subTo_len]; omega), List.getElem?_eq_none (by rw [subTo_len]; omega)]
theorem subTo_mem {p t : Int} (hp : primeB p = true) {r g : List Int} {k j : Nat} (hr : ∀ x ∈ r, numB p x = true) : ∀ x ∈ subTo p t r g k j, numB p x = true := by
  intro x hx
  obtain ⟨i, hi, rfl⟩ := List.mem_map.1 hx
  have hi := List.mem_range.1 hi
  split
  · exact numB_emod hp _
  · rw [List.getD_eq_getElem?_getD, List.getElem?_eq_getElem hi]
    exact hr _ (List.getElem_mem hi)
end Go.Proofs.YtecmclaockmgeaaDoor

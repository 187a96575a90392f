/-
  Plain mathematics: rows taken from each other. What the elimination of chapter 1 computes, step by step; that it keeps valid rows valid.
-/
import Derived.Test.YtecmclaockmgeaaDoorMathB
namespace Go.Proofs.YtecmclaockmgeaaDoor
/-- the number at a row and a column -/
def at2 (M : List (List Int)) (i j : Nat) : Int := (M.getD i []).getD j 0
/-- the first row from a given one on that is not 0 in a column -/
def firstW (M : List (List Int)) (col : Nat) : Nat → Nat → Option Nat
  | 0, _ => none
  | f + 1, i => if at2 M i col ≠ 0 then some i else firstW M col f (i + 1)
def swapM (M : List (List Int)) (i j : Nat) : List (List Int) := (M.set i (M.getD j [])).set j (M.getD i [])
def scaleRow (p t : Int) (row : List Int) : List Int := row.map fun x => x * t % p
def subRow (p t : Int) (row taken : List Int) : List Int := List.zipWith (fun x y => (x - t * y) % p) row taken
/-- row i less so many times the chosen one that it is 0 in the column -/
def clearRow (p : Int) (M : List (List Int)) (top col i : Nat) : List Int := if i = top then M.getD i [] else subRow p (at2 M i col) (M.getD i []) (M.getD top [])
def clearM (p : Int) (M : List (List Int)) (top col : Nat) : List (List Int) := (List.range M.length).map (clearRow p M top col)
def chooseM (p : Int) (M : List (List Int)) (r top col : Nat) : List (List Int) := (swapM M r top).set top (scaleRow p (invM p (at2 (swapM M r top) top col)) ((swapM M r top).getD top []))
def stepE (p : Int) (M : List (List Int)) (heads : List Nat) (col : Nat) : List (List Int) × List Nat :=
  match firstW M col (M.length - heads.length) heads.length with
  | none => (M, heads)
  | some r => (clearM p (chooseM p M r heads.length col) heads.length col, heads ++ [col])
def elim (p : Int) (M : List (List Int)) : Nat → List (List Int) × List Nat
  | 0 => (M, [])
  | c + 1 => stepE p (elim p M c).1 (elim p M c).2 c
/-- rows of one length, of valid numbers -/
def VM (p : Int) (l : Nat) (M : List (List Int)) : Prop := ∀ row ∈ M, row.length = l ∧ ∀ x ∈ row, numB p x = true
theorem VM.getD {p : Int} {l : Nat} {M : List (List Int)} (h : VM p l M) {i : Nat} (hi : i < M.length) : (M.getD i []).length = l ∧ ∀ x ∈ M.getD i [], numB p x = true := by
  rw [List.getD_eq_getElem?_getD, List.getElem?_eq_getElem hi]; exact h _ (List.getElem_mem hi)
theorem VM.at2 {p : Int} {l : Nat} {M : List (List Int)} (h : VM p l M) {i j : Nat} (hi : i < M.length) (hj : j < l) : numB p (at2 M i j) = true := by
  obtain ⟨h1, h2⟩ := h.getD hi
  unfold Go.Proofs.YtecmclaockmgeaaDoor.at2
  generalize M.getD i [] = row at *
  rw [List.getD_eq_getElem?_getD, List.getElem?_eq_getElem (by omega)]; exact h2 _ (List.getElem_mem _)
theorem firstW_some {M : List (List Int)} {col : Nat} : ∀ {f i r : Nat}, firstW M col f i = some r → i ≤ r ∧ r < i + f ∧ at2 M r col ≠ 0 ∧ ∀ k, i ≤ k → k < r → at2 M k col = 0
  | 0, i, r, h => by simp [firstW] at h
  | f + 1, i, r, h => by
    unfold firstW at h
    split at h
    · rename_i hne
      obtain rfl := Option.some.inj h
      exact ⟨Nat.le_refl _, by omega, hne, fun k h1 h2 => absurd h2 (by omega)⟩
    · rename_i he
      obtain ⟨h1, h2, h3, h4⟩ := firstW_some h
      refine ⟨by omega, by omega, h3, fun k hk1 hk2 => ?_⟩
      by_cases e : k = i
      · subst e; exact Decidable.of_not_not he
      · exact h4 k (by omega) hk2
theorem firstW_none {M : List (List Int)} {col : Nat} : ∀ {f i : Nat}, firstW M col f i = none → ∀ k, i ≤ k → k < i + f → at2 M k col = 0
  | 0, i, _ => by intro k h1 h2; omega
  | f + 1, i, h => by
    unfold firstW at h
    split at h
    · simp at h
    · rename_i he
      intro k hk1 hk2
      by_cases e : k = i
      · subst e; exact Decidable.of_not_not he
      · exact firstW_none h k (by omega) (by omega)
theorem firstW_is {M : List (List Int)} {col : Nat} : ∀ {f i r : Nat}, i ≤ r → r < i + f → at2 M r col ≠ 0 → (∀ k, i ≤ k → k < r → at2 M k col = 0) → firstW M col f i = some r
  | 0, i, r, h1, h2, _, _ => by omega
  | f + 1, i, r, h1, h2, h3, h4 => by
    unfold firstW
    by_cases e : i = r
    · subst e; rw [if_pos h3]
    · rw [if_neg (by have := h4 i (Nat.le_refl _) (by omega); simp [this])]
      exact firstW_is (by omega) (by omega) h3 (fun k hk1 hk2 => h4 k (by omega) hk2)
theorem firstW_not {M : List (List Int)} {col : Nat} : ∀ {f i : Nat}, (∀ k, i ≤ k → k < i + f → at2 M k col = 0) → firstW M col f i = none
  | 0, i, _ => rfl
  | f + 1, i, h => by
    unfold firstW
    rw [if_neg (by have := h i (Nat.le_refl _) (by omega); simp [this])]
    exact firstW_not (fun k hk1 hk2 => h k (by omega) (by omega))
theorem mem_set_cases {α : Type} {l : List α} {i : Nat} {a x : α} (h : x ∈ l.set i a) : x ∈ l ∨ x = a := List.mem_or_eq_of_mem_set h
theorem swapM_len (M : List (List Int)) (i j : Nat) : (swapM M i j).length = M.length := by simp [swapM]
theorem getD_mem {M : List (List Int)} {i : Nat} (h : i < M.length) : M.getD i [] ∈ M := by
  rw [List.getD_eq_getElem?_getD, List.getElem?_eq_getElem h]; exact List.getElem_mem h
theorem swapM_mem {M : List (List Int)} {i j : Nat} (hi : i < M.length) (hj : j < M.length) {row : List Int} (h : row ∈ swapM M i j) : row ∈ M := by
  unfold swapM at h
  rcases mem_set_cases h with h | rfl
  · rcases mem_set_cases h with h | rfl
    · exact h
    · exact getD_mem hj
  · exact getD_mem hi
theorem VM.swap {p : Int} {l : Nat} {M : List (List Int)} (h : VM p l M) {i j : Nat} (hi : i < M.length) (hj : j < M.length) : VM p l (swapM M i j) := fun row hr => h row (swapM_mem hi hj hr)
theorem VM.set {p : Int} {l : Nat} {M : List (List Int)} (h : VM p l M) {i : Nat} {row : List Int} (hl : row.length = l) (hv : ∀ x ∈ row, numB p x = true) : VM p l (M.set i row) := by
  intro r hr
  rcases mem_set_cases hr with hr | rfl
  · exact h r hr
  · exact ⟨hl, hv⟩
theorem scaleRow_len (p t : Int) (row : List Int) : (scaleRow p t row).length = row.length := by simp [scaleRow]
theorem scaleRow_valid {p t : Int} (hp : primeB p = true) (row : List Int) : ∀ x ∈ scaleRow p t row, numB p x = true := by
  intro x hx
  obtain ⟨y, _, rfl⟩ := List.mem_map.1 hx
  exact numB_emod hp _
theorem subRow_len (p t : Int) (row taken : List Int) (h : row.length = taken.length) : (subRow p t row taken).length = row.length := by simp [subRow, h]
theorem zipWith_mem {α β γ : Type} (f : α → β → γ) : ∀ {l1 : List α} {l2 : List β} {x : γ}, x ∈ List.zipWith f l1 l2 → ∃ a b, f a b = x
  | [], _, x, h => by simp at h
  | _ :: _, [], x, h => by simp at h
  | a :: l1, b :: l2, x, h => by
    simp only [List.zipWith_cons_cons, List.mem_cons] at h
    rcases h with rfl | h
    · exact ⟨a, b, rfl⟩
    · exact zipWith_mem f h
theorem subRow_valid {p t : Int} (hp : primeB p = true) (row taken : List Int) : ∀ x ∈ subRow p t row taken, numB p x = true := by
  intro x hx
  obtain ⟨a, b, rfl⟩ := zipWith_mem _ hx
  exact numB_emod hp _
theorem clearM_len (p : Int) (M : List (List Int)) (top col : Nat) : (clearM p M top col).length = M.length := by simp [clearM]
theorem clearM_get (p : Int) (M : List (List Int)) (top col i : Nat) (h : i < M.length) : (clearM p M top col)[i]? = some (clearRow p M top col i) := by
  unfold clearM; rw [List.getElem?_map, List.getElem?_range h]; rfl
theorem clearRow_valid {p : Int} (hp : primeB p = true) {l : Nat} {M : List (List Int)} (h : VM p l M) {top col i : Nat} (ht : top < M.length) (hi : i < M.length) : (clearRow p M top col i).length = l ∧ ∀ x ∈ clearRow p M top col i, numB p x = true := by
  unfold clearRow
  split
  · exact h.getD hi
  · exact ⟨by rw [subRow_len _ _ _ _ (by rw [(h.getD hi).1, (h.getD ht).1])]; exact (h.getD hi).1, subRow_valid hp _ _⟩
theorem VM.clear {p : Int} (hp : primeB p = true) {l : Nat} {M : List (List Int)} (h : VM p l M) {top col : Nat} (ht : top < M.length) : VM p l (clearM p M top col) := by
  intro row hr
  unfold clearM at hr
  obtain ⟨i, hi, rfl⟩ := List.mem_map.1 hr
  exact clearRow_valid hp h ht (List.mem_range.1 hi)
theorem chooseM_len (p : Int) (M : List (List Int)) (r top col : Nat) : (chooseM p M r top col).length = M.length := by simp [chooseM, swapM_len]
theorem VM.choose {p : Int} (hp : primeB p = true) {l : Nat} {M : List (List Int)} (h : VM p l M) {r top col : Nat} (hr : r < M.length) (ht : top < M.length) : VM p l (chooseM p M r top col) := by
  unfold chooseM
  exact (h.swap hr ht).set (by rw [scaleRow_len]; exact ((h.swap hr ht).getD (by rw [swapM_len]; exact ht)).1) (scaleRow_valid hp _)
/-- what holds of the elimination at each column -/
theorem elim_inv {p : Int} (hp : primeB p = true) {l : Nat} {M : List (List Int)} (h : VM p l M) : ∀ c, (elim p M c).1.length = M.length ∧ VM p l (elim p M c).1 ∧ (elim p M c).2.length ≤ M.length ∧ (elim p M c).2.length ≤ c
  | 0 => ⟨rfl, h, Nat.zero_le _, Nat.le_refl _⟩
  | c + 1 => by
    obtain ⟨h1, h2, h3, h4⟩ := elim_inv hp h c
    show (stepE p (elim p M c).1 (elim p M c).2 c).1.length = _ ∧ VM p l (stepE p (elim p M c).1 (elim p M c).2 c).1 ∧ (stepE p (elim p M c).1 (elim p M c).2 c).2.length ≤ _ ∧ (stepE p (elim p M c).1 (elim p M c).2 c).2.length ≤ _
    unfold stepE
    split
    · exact ⟨h1, h2, h3, by simp only; omega⟩
    · rename_i r hr
      obtain ⟨g1, g2, _, _⟩ := firstW_some hr
      refine ⟨by simp only; rw [clearM_len, chooseM_len, h1], ?_, by simp only [List.length_append, List.length_singleton]; omega, by simp only [List.length_append, List.length_singleton]; omega⟩
      exact (h2.choose hp (by omega) (by omega)).clear hp (by rw [chooseM_len]; omega)
end Go.Proofs.YtecmclaockmgeaaDoor

/-
  Plain mathematics of the determinant, as both texts compute it; the contract of the program's MatDet.
-/
import Derived.Test.YtpelokdgjdljfacFormS
namespace Go.Proofs.Ytpelokdgjdljfac
open Go.RowKit
def downRow (p : Int) (M : List (List Int)) (col : Nat) (back : Int) (i : Nat) : List Int := if i ≤ col then M.getD i [] else subRow p (at2 M i col * back % p) (M.getD i []) (M.getD col [])
def downM (p : Int) (M : List (List Int)) (col : Nat) (back : Int) : List (List Int) := (List.range M.length).map (downRow p M col back)
def detStep (p : Int) (col : Nat) (N : List (List Int)) (d : Int) : Option (List (List Int) × Int) :=
  match firstW N col (N.length - col) col with
  | none => none
  | some r => some (downM p (swapM N r col) col (invM p (at2 (swapM N r col) col col)), (if r = col then d else -d % p) * at2 (swapM N r col) col col % p)
def detE (p : Int) (M : List (List Int)) : Nat → Option (List (List Int) × Int)
  | 0 => some (M, 1)
  | c + 1 => match detE p M c with
    | none => none
    | some x => detStep p c x.1 x.2
def detV (p : Int) (M : List (List Int)) : Int := match detE p M M.length with
  | none => 0
  | some x => x.2
def detR (p : Int) (M : List (List Int)) : Int := if matB p M = true then (if M.length = (M.headD []).length then detV p M else -1) else -1
theorem detE_step {p : Int} {M N : List (List Int)} {c : Nat} {d : Int} (h : detE p M c = some (N, d)) : detE p M (c + 1) = detStep p c N d := by
  show (match detE p M c with | none => none | some x => detStep p c x.1 x.2) = _
  rw [h]
theorem detE_none {p : Int} {M : List (List Int)} {c : Nat} (h : detE p M c = none) : ∀ k, detE p M (c + k) = none
  | 0 => h
  | k + 1 => by
    show (match detE p M (c + k) with | none => none | some x => detStep p (c + k) x.1 x.2) = none
    rw [detE_none h k]
theorem downM_len (p : Int) (M : List (List Int)) (col : Nat) (back : Int) : (downM p M col back).length = M.length := by simp [downM]
theorem downM_get (p : Int) (M : List (List Int)) (col : Nat) (back : Int) (i : Nat) (h : i < M.length) : (downM p M col back)[i]? = some (downRow p M col back i) := by
  unfold downM; rw [List.getElem?_map, List.getElem?_range h]; rfl
theorem downRow_valid {p : Int} (hp : primeB p = true) {l : Nat} {M : List (List Int)} (h : VM p l M) {col i : Nat} {back : Int} (ht : col < M.length) (hi : i < M.length) : (downRow p M col back i).length = l ∧ ∀ x ∈ downRow p M col back i, numB p x = true := by
  unfold downRow
  split
  · exact h.getD hi
  · exact ⟨by rw [subRow_len _ _ _ _ (by rw [(h.getD hi).1, (h.getD ht).1])]; exact (h.getD hi).1, subRow_valid hp _ _⟩
theorem VM.down {p : Int} (hp : primeB p = true) {l : Nat} {M : List (List Int)} (h : VM p l M) {col : Nat} {back : Int} (ht : col < M.length) : VM p l (downM p M col back) := by
  intro row hr
  unfold downM at hr
  obtain ⟨i, hi, rfl⟩ := List.mem_map.1 hr
  exact downRow_valid hp h ht (List.mem_range.1 hi)
theorem downM_low {p : Int} {M : List (List Int)} {col : Nat} {back : Int} {i : Nat} (hi : i < M.length) (hc : i ≤ col) : (downM p M col back)[i]? = M[i]? := by
  rw [downM_get _ _ _ _ _ hi]
  unfold downRow
  rw [if_pos hc, List.getD_eq_getElem?_getD, List.getElem?_eq_getElem hi]; rfl
theorem downMix_low {p : Int} {M : List (List Int)} {col k : Nat} {back : Int} {i : Nat} (hi : i < M.length) (hc : i ≤ col) : ((downM p M col back).take k ++ M.drop k)[i]? = M[i]? := by
  by_cases hlt : i < k
  · rw [List.getElem?_append_left (by simp [downM_len]; omega), List.getElem?_take, if_pos hlt, downM_low hi hc]
  · rw [List.getElem?_append_right (by simp [downM_len]; omega), List.getElem?_drop]
    congr 1
    simp [downM_len]; omega
theorem downMix_start {p : Int} {M : List (List Int)} {col : Nat} {back : Int} (hc : col < M.length) : (downM p M col back).take (col + 1) ++ M.drop (col + 1) = M := by
  refine List.ext_getElem? fun i => ?_
  by_cases hi : i < M.length
  · by_cases hlt : i ≤ col
    · exact downMix_low hi hlt
    · rw [List.getElem?_append_right (by simp [downM_len]; omega), List.getElem?_drop]
      congr 1
      simp [downM_len]; omega
  · rw [List.getElem?_eq_none (by simp [downM_len]; omega), List.getElem?_eq_none (by omega)]
theorem VM.downMix {p : Int} {l col k : Nat} {back : Int} {M : List (List Int)} (hp : primeB p = true) (h : VM p l M) (ht : col < M.length) : VM p l ((downM p M col back).take k ++ M.drop k) := fun row hr => by
  rcases List.mem_append.1 hr with hr | hr
  · exact h.down hp ht row (List.mem_of_mem_take hr)
  · exact h row (List.mem_of_mem_drop hr)
theorem swapM_self (M : List (List Int)) (i : Nat) (h : i < M.length) : swapM M i i = M := by
  unfold swapM
  rw [List.set_set]
  refine List.ext_getElem? fun q => ?_
  by_cases e : q = i
  · subst e; rw [List.getElem?_set_self h, List.getD_eq_getElem?_getD, List.getElem?_eq_getElem h]; rfl
  · rw [List.getElem?_set_ne (fun e' => e e'.symm)]
theorem numB_one {p : Int} (hp : primeB p = true) : numB p 1 = true := by
  have := prime_ge hp
  exact numB_mk hp (by omega) (by omega)
theorem detE_inv {p : Int} (hp : primeB p = true) {l : Nat} {M : List (List Int)} (h : VM p l M) : ∀ c, c ≤ M.length → ∀ N d, detE p M c = some (N, d) → N.length = M.length ∧ VM p l N ∧ numB p d = true
  | 0, _ => by
    intro N d hd
    obtain ⟨rfl, rfl⟩ : M = N ∧ (1 : Int) = d := by simpa [detE] using hd
    exact ⟨rfl, h, numB_one hp⟩
  | c + 1, hc => by
    intro N d hd
    cases he : detE p M c with
    | none => rw [detE_none he 1] at hd; simp at hd
    | some x =>
      obtain ⟨N0, d0⟩ := x
      obtain ⟨h1, h2, h3⟩ := detE_inv hp h c (by omega) N0 d0 he
      rw [detE_step he] at hd
      unfold detStep at hd
      split at hd
      · simp at hd
      · rename_i r hr
        obtain ⟨g1, g2, _, _⟩ := firstW_some hr
        simp only [Option.some.injEq, Prod.mk.injEq] at hd
        obtain ⟨rfl, rfl⟩ := hd
        exact ⟨by rw [downM_len, swapM_len, h1], (h2.swap (by omega) (by omega)).down hp (by rw [swapM_len]; omega), numB_emod hp _⟩
theorem detV_none {p : Int} {M : List (List Int)} {c : Nat} (h : detE p M c = none) (hc : c ≤ M.length) : detV p M = 0 := by
  have h1 := detE_none h (M.length - c)
  rw [show c + (M.length - c) = M.length by omega] at h1
  unfold detV; rw [h1]
theorem detV_some {p : Int} {M N : List (List Int)} {d : Int} (h : detE p M M.length = some (N, d)) : detV p M = d := by unfold detV; rw [h]
theorem detStep_none {p : Int} {c : Nat} {N : List (List Int)} {d : Int} (h : firstW N c (N.length - c) c = none) : detStep p c N d = none := by unfold detStep; rw [h]
theorem detStep_some {p : Int} {c r : Nat} {N : List (List Int)} {d : Int} (h : firstW N c (N.length - c) c = some r) :
    detStep p c N d = some (downM p (swapM N r c) c (invM p (at2 (swapM N r c) c c)), (if r = c then d else -d % p) * at2 (swapM N r c) c c % p) := by unfold detStep; rw [h]
end Go.Proofs.Ytpelokdgjdljfac

/-
  Plain mathematics: sums, rows that a matrix takes to 0, what the elimination reaches.
-/
import Derived.Test.YtpelokdgjdljfabElim
namespace Go.Proofs.Ytpelokdgjdljfab
def sigN : Nat → (Nat → Int) → Int
  | 0, _ => 0
  | n + 1, f => sigN n f + f n
theorem sigN_congr {f g : Nat → Int} : ∀ {n : Nat}, (∀ k, k < n → f k = g k) → sigN n f = sigN n g
  | 0, _ => rfl
  | n + 1, h => by show sigN n f + f n = sigN n g + g n; rw [sigN_congr (fun k hk => h k (by omega)), h n (by omega)]
theorem sigN_zero {f : Nat → Int} : ∀ {n : Nat}, (∀ k, k < n → f k = 0) → sigN n f = 0
  | 0, _ => rfl
  | n + 1, h => by show sigN n f + f n = 0; rw [sigN_zero (fun k hk => h k (by omega)), h n (by omega)]; rfl
theorem sigN_add (f g : Nat → Int) : ∀ n, sigN n (fun k => f k + g k) = sigN n f + sigN n g
  | 0 => rfl
  | n + 1 => by show sigN n _ + (f n + g n) = (sigN n f + f n) + (sigN n g + g n); rw [sigN_add f g n]; omega
theorem sigN_mul (c : Int) (f : Nat → Int) : ∀ n, sigN n (fun k => c * f k) = c * sigN n f
  | 0 => by simp [sigN]
  | n + 1 => by show sigN n _ + c * f n = c * (sigN n f + f n); rw [sigN_mul c f n, Int.mul_add]
theorem sigN_one {f : Nat → Int} {c : Nat} : ∀ {n : Nat}, c < n → (∀ k, k < n → k ≠ c → f k = 0) → sigN n f = f c
  | 0, h, _ => absurd h (by omega)
  | n + 1, h, hz => by
    show sigN n f + f n = f c
    by_cases e : c = n
    · subst e; rw [sigN_zero (fun k hk => hz k (by omega) (by omega))]; omega
    · rw [sigN_one (by omega) (fun k hk hne => hz k (by omega) hne), hz n (by omega) (fun e' => e e'.symm)]; omega
theorem sigN_swap (f : Nat → Nat → Int) (m : Nat) : ∀ n, sigN n (fun i => sigN m (f i)) = sigN m (fun j => sigN n (fun i => f i j))
  | 0 => by rw [sigN_zero (n := m) (f := fun j => sigN 0 (fun i => f i j)) (fun k _ => rfl)]; rfl
  | n + 1 => by
    show sigN n (fun i => sigN m (f i)) + sigN m (f n) = sigN m (fun j => sigN n (fun i => f i j) + f n j)
    rw [sigN_add, sigN_swap f m n]
theorem sigN_dvd {p : Int} {f : Nat → Int} : ∀ {n : Nat}, (∀ k, k < n → p ∣ f k) → p ∣ sigN n f
  | 0, _ => Int.dvd_zero p
  | n + 1, h => Int.dvd_add (sigN_dvd (fun k hk => h k (by omega))) (h n (by omega))
theorem sigN_sub (f g : Nat → Int) : ∀ n, sigN n (fun k => f k - g k) = sigN n f - sigN n g
  | 0 => rfl
  | n + 1 => by show sigN n _ + (f n - g n) = (sigN n f + f n) - (sigN n g + g n); rw [sigN_sub f g n]; omega
theorem sigN_near {p : Int} {f g : Nat → Int} {n : Nat} (h : ∀ k, k < n → p ∣ f k - g k) : p ∣ sigN n f - sigN n g := by
  rw [← sigN_sub]; exact sigN_dvd h
theorem near_mod (p x : Int) : p ∣ x % p - x := ⟨-(x / p), by rw [Int.emod_def]; grind⟩
theorem near_eq {p x y : Int} (h : p ∣ x - y) (hx : 0 ≤ x) (hx' : x < p) (hy : 0 ≤ y) (hy' : y < p) : x = y := by
  have h1 := Int.emod_eq_zero_of_dvd h
  have h2 := Int.emod_emod_of_dvd x (Int.dvd_refl p)
  have h3 : x % p = y % p := Int.emod_eq_emod_iff_emod_sub_eq_zero.2 h1
  rwa [Int.emod_eq_of_lt hx hx', Int.emod_eq_of_lt hy hy'] at h3
theorem near_zero {p x : Int} (h : p ∣ x) (hx : 0 ≤ x) (hx' : x < p) : x = 0 := near_eq (p := p) (y := 0) (by simpa using h) hx hx' (by omega) (by omega)
theorem near_move {p a b : Int} (h : p ∣ a - b) : p ∣ a ↔ p ∣ b :=
  ⟨fun ha => by have := Int.dvd_sub ha h; rwa [show a - (a - b) = b by omega] at this, fun hb => by have := Int.dvd_add hb h; rwa [show b + (a - b) = a by omega] at this⟩
/-- the numbers v, one a column, whose sum with each row is 0 -/
def Ker (p : Int) (n l : Nat) (f : Nat → Nat → Int) (v : Nat → Int) : Prop := ∀ i, i < n → p ∣ sigN l (fun j => f i j * v j)
theorem getQ (l : List (List Int)) (q : Nat) : l.getD q [] = (l[q]?).getD [] := List.getD_eq_getElem?_getD
theorem at2_swap {M : List (List Int)} {i j : Nat} (hi : i < M.length) (hj : j < M.length) (a b : Nat) : at2 (swapM M i j) a b = if a = j then at2 M i b else if a = i then at2 M j b else at2 M a b := by
  unfold at2 swapM
  by_cases h1 : a = j
  · subst h1
    rw [if_pos rfl, getQ, List.getElem?_set_self (by simpa using hj)]; rfl
  · rw [if_neg h1, getQ, List.getElem?_set_ne (fun e => h1 e.symm)]
    by_cases h2 : a = i
    · subst h2
      rw [if_pos rfl, List.getElem?_set_self hi]; rfl
    · rw [if_neg h2, List.getElem?_set_ne (fun e => h2 e.symm), ← getQ]
theorem at2_setRow {M : List (List Int)} {i : Nat} {row : List Int} (hi : i < M.length) (a b : Nat) : at2 (M.set i row) a b = if a = i then row.getD b 0 else at2 M a b := by
  unfold at2
  by_cases h : a = i
  · subst h; rw [if_pos rfl, getQ, List.getElem?_set_self hi]; rfl
  · rw [if_neg h, getQ, List.getElem?_set_ne (fun e => h e.symm), ← getQ]
theorem scaleRow_at (p t : Int) (row : List Int) (b : Nat) : (scaleRow p t row).getD b 0 = row.getD b 0 * t % p := by
  unfold scaleRow
  rw [List.getD_eq_getElem?_getD, List.getElem?_map, List.getD_eq_getElem?_getD]
  cases row[b]? <;> simp
theorem subRow_at (p t : Int) (xs ys : List Int) (h : xs.length = ys.length) (b : Nat) : (subRow p t xs ys).getD b 0 = (xs.getD b 0 - t * ys.getD b 0) % p := by
  unfold subRow
  rw [List.getD_eq_getElem?_getD, List.getElem?_zipWith, List.getD_eq_getElem?_getD, List.getD_eq_getElem?_getD]
  by_cases hb : b < xs.length
  · rw [List.getElem?_eq_getElem hb, List.getElem?_eq_getElem (by omega)]; rfl
  · rw [List.getElem?_eq_none (by omega), List.getElem?_eq_none (by omega)]; simp
theorem at2_clear {p : Int} {l : Nat} {M : List (List Int)} (h : VM p l M) {top col : Nat} (ht : top < M.length) {a : Nat} (ha : a < M.length) (b : Nat) :
    at2 (clearM p M top col) a b = if a = top then at2 M a b else (at2 M a b - at2 M a col * at2 M top b) % p := by
  have e : at2 (clearM p M top col) a b = (clearRow p M top col a).getD b 0 := by
    unfold at2; rw [getQ, clearM_get _ _ _ _ _ ha]; rfl
  rw [e]
  unfold clearRow
  split
  · rfl
  · rw [subRow_at _ _ _ _ (by rw [(h.getD ha).1, (h.getD ht).1])]; rfl
theorem at2_choose {p : Int} {M : List (List Int)} {r top col : Nat} (hr : r < M.length) (ht : top < M.length) (a b : Nat) :
    at2 (chooseM p M r top col) a b = if a = top then at2 M r b * invM p (at2 M r col) % p else if a = r then at2 M top b else at2 M a b := by
  have hs : (swapM M r top).length = M.length := swapM_len _ _ _
  have e0 : ∀ b, ((swapM M r top).getD top []).getD b 0 = at2 M r b := fun b => by
    have := at2_swap hr ht top b
    rw [if_pos rfl] at this; exact this
  unfold chooseM
  rw [at2_setRow (by rw [hs]; exact ht)]
  by_cases h : a = top
  · rw [if_pos h, if_pos h, scaleRow_at, e0]
    have : at2 (swapM M r top) top col = at2 M r col := e0 col
    rw [this]
  · rw [if_neg h, if_neg h, at2_swap hr ht, if_neg h]
end Go.Proofs.Ytpelokdgjdljfab

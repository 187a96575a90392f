/-
  Plain mathematics: sums of so many numbers; numbers that are the same but for multiples of a prime.
-/
import Derived.Test.YtegkmolffemkpaaMathB
namespace Go.Proofs.Ytegkmolffemkpaa
def sigN : Nat → (Nat → Int) → Int
  | 0, _ => 0
  | n + 1, f => sigN n f + f n
theorem sigN_congr {f g : Nat → Int} : ∀ {n : Nat}, (∀ k, k < n → f k = g k) → sigN n f = sigN n g
  | 0, _ => rfl
  | n + 1, h => by show sigN n f + f n = sigN n g + g n; rw [sigN_congr (fun k hk => h k (by omega)), h n (by omega)]
theorem sigN_zero {f : Nat → Int} : ∀ {n : Nat}, (∀ k, k < n → f k = 0) → sigN n f = 0
  | 0, _ => rfl
  | n + 1, h => by show sigN n f + f n = 0; rw [sigN_zero (fun k hk => h k (by omega)), h n (by omega)]; rfl
theorem sigN_add (f g : Nat → Int) : ∀ n, sigN n (fun k => f k + g k) = sigN n f + sigN n g
  | 0 => rfl
  | n + 1 => by show sigN n _ + (f n + g n) = (sigN n f + f n) + (sigN n g + g n); rw [sigN_add f g n]; omega
theorem sigN_mul (c : Int) (f : Nat → Int) : ∀ n, sigN n (fun k => c * f k) = c * sigN n f
  | 0 => by simp [sigN]
  | n + 1 => by show sigN n _ + c * f n = c * (sigN n f + f n); rw [sigN_mul c f n, Int.mul_add]
theorem sigN_one {f : Nat → Int} {c : Nat} : ∀ {n : Nat}, c < n → (∀ k, k < n → k ≠ c → f k = 0) → sigN n f = f c
  | 0, h, _ => absurd h (by omega)
  | n + 1, h, hz => by
    show sigN n f + f n = f c
    by_cases e : c = n
    · subst e; rw [sigN_zero (fun k hk => hz k (by omega) (by omega))]; omega
    · rw [sigN_one (by omega) (fun k hk hne => hz k (by omega) hne), hz n (by omega) (fun e' => e e'.symm)]; omega
theorem sigN_swap (f : Nat → Nat → Int) (m : Nat) : ∀ n, sigN n (fun i => sigN m (f i)) = sigN m (fun j => sigN n (fun i => f i j))
  | 0 => by rw [sigN_zero (n := m) (f := fun j => sigN 0 (fun i => f i j)) (fun k _ => rfl)]; rfl
  | n + 1 => by
    show sigN n (fun i => sigN m (f i)) + sigN m (f n) = sigN m (fun j => sigN n (fun i => f i j) + f n j)
    rw [sigN_add, sigN_swap f m n]
theorem sigN_dvd {p : Int} {f : Nat → Int} : ∀ {n : Nat}, (∀ k, k < n → p ∣ f k) → p ∣ sigN n f
  | 0, _ => Int.dvd_zero p
  | n + 1, h => Int.dvd_add (sigN_dvd (fun k hk => h k (by omega))) (h n (by omega))
theorem sigN_sub (f g : Nat → Int) : ∀ n, sigN n (fun k => f k - g k) = sigN n f - sigN n g
  | 0 => rfl
  | n + 1 => by show sigN n _ + (f n - g n) = (sigN n f + f n) - (sigN n g + g n); rw [sigN_sub f g n]; omega
theorem sigN_near {p : Int} {f g : Nat → Int} {n : Nat} (h : ∀ k, k < n → p ∣ f k - g k) : p ∣ sigN n f - sigN n g := by
  rw [← sigN_sub]; exact sigN_dvd h
theorem near_mod (p x : Int) : p ∣ x % p - x := ⟨-(x / p), by rw [Int.emod_def]; grind⟩
theorem near_eq {p x y : Int} (h : p ∣ x - y) (hx : 0 ≤ x) (hx' : x < p) (hy : 0 ≤ y) (hy' : y < p) : x = y := by
  have h1 := Int.emod_eq_zero_of_dvd h
  have h2 := Int.emod_emod_of_dvd x (Int.dvd_refl p)
  have h3 : x % p = y % p := Int.emod_eq_emod_iff_emod_sub_eq_zero.2 h1
  rwa [Int.emod_eq_of_lt hx hx', Int.emod_eq_of_lt hy hy'] at h3
theorem near_zero {p x : Int} (h : p ∣ x) (hx : 0 ≤ x) (hx' : x < p) : x = 0 := near_eq (p := p) (y := 0) (by simpa using h) hx hx' (by omega) (by omega)
theorem near_move {p a b : Int} (h : p ∣ a - b) : p ∣ a ↔ p ∣ b :=
  ⟨fun ha => by have := Int.dvd_sub ha h; rwa [show a - (a - b) = b by omega] at this, fun hb => by have := Int.dvd_add hb h; rwa [show b + (a - b) = a by omega] at this⟩
theorem dvd_mulR {p a : Int} (h : p ∣ a) (c : Int) : p ∣ a * c := by obtain ⟨k, rfl⟩ := h; exact ⟨k * c, by grind⟩
theorem dvd_mulL {p a : Int} (h : p ∣ a) (c : Int) : p ∣ c * a := by obtain ⟨k, rfl⟩ := h; exact ⟨c * k, by grind⟩
theorem sigN_two {f : Nat → Int} {c d n : Nat} (hcd : c ≠ d) (hc : c < n) (hd : d < n) (hz : ∀ k, k < n → k ≠ c → k ≠ d → f k = 0) : sigN n f = f c + f d := by
  have e : sigN n f = sigN n (fun k => (if k = c then f k else 0) + (if k = c then 0 else f k)) := sigN_congr (fun k _ => by split <;> omega)
  rw [e, sigN_add, sigN_one hc (fun k _ hne => if_neg hne), if_pos rfl, sigN_one hd (fun k hk hne => by
    by_cases h : k = c
    · rw [if_pos h]
    · rw [if_neg h]; exact hz k hk h hne), if_neg (fun h => hcd h.symm)]
/-- a sum whose terms are 0 but at certain places, that grow -/
theorem sigN_heads {l : Nat} (h : Nat → Nat) : ∀ {m : Nat} {g : Nat → Int}, (∀ k, k < m → h k < l) → (∀ k k', k < k' → k' < m → h k < h k') → (∀ j, j < l → (∀ k, k < m → h k ≠ j) → g j = 0) → sigN l g = sigN m (fun k => g (h k))
  | 0, g, _, _, hz => by rw [sigN_zero (fun k hk => hz k hk (fun _ h => absurd h (by omega)))]; rfl
  | m + 1, g, hl, hi, hz => by
    have e : sigN l g = sigN l (fun k => (if k = h m then g k else 0) + (if k = h m then 0 else g k)) := sigN_congr (fun k _ => by split <;> omega)
    rw [e, sigN_add, sigN_one (hl m (by omega)) (fun k _ hne => if_neg hne), if_pos rfl]
    rw [sigN_heads h (m := m) (g := fun k => if k = h m then 0 else g k) (fun k hk => hl k (by omega)) (fun k k' h1 h2 => hi k k' h1 (by omega)) (fun j hj hne => by
      show (if j = h m then 0 else g j) = 0
      by_cases e : j = h m
      · rw [if_pos e]
      · rw [if_neg e]
        refine hz j hj (fun k hk => ?_)
        by_cases e2 : k = m
        · subst e2; exact fun h => e h.symm
        · exact hne k (by omega))]
    show _ = sigN m (fun k => g (h k)) + g (h m)
    rw [sigN_congr (n := m) (f := fun k => if h k = h m then 0 else g (h k)) (g := fun k => g (h k)) (fun k hk => by
      have := hi k m hk (by omega)
      show (if h k = h m then 0 else g (h k)) = g (h k)
      rw [if_neg (by omega)])]
    omega
theorem near_symm {p a b : Int} (h : p ∣ a - b) : p ∣ b - a := by have := Int.dvd_neg.2 h; rwa [Int.neg_sub] at this
theorem near_trans {p a b c : Int} (h : p ∣ a - b) (h' : p ∣ b - c) : p ∣ a - c := by have := Int.dvd_add h h'; rwa [show a - b + (b - c) = a - c by omega] at this
theorem sigN_mulr (c : Int) (f : Nat → Int) (n : Nat) : sigN n (fun k => f k * c) = sigN n f * c := by
  rw [Int.mul_comm, ← sigN_mul]; exact sigN_congr fun k _ => Int.mul_comm _ _
theorem sigN_plus {l j : Nat} (hj : j < l) (g : Nat → Int) : sigN l g = g j + sigN l (fun k => if k = j then 0 else g k) := by
  have e : sigN l g = sigN l (fun k => (if k = j then g k else 0) + (if k = j then 0 else g k)) := sigN_congr (fun k _ => by split <;> omega)
  rw [e, sigN_add, sigN_one hj (fun k _ hne => if_neg hne), if_pos rfl]
theorem mod_of_near {p x y : Int} (h : p ∣ x - y) : x % p = y % p := Int.emod_eq_emod_iff_emod_sub_eq_zero.2 (Int.emod_eq_zero_of_dvd h)
theorem sigN_shift (f : Nat → Int) : ∀ n, sigN (n + 1) f = f 0 + sigN n (fun k => f (k + 1))
  | 0 => by simp [sigN]
  | n + 1 => by
    show sigN (n + 1) f + f (n + 1) = f 0 + (sigN n (fun k => f (k + 1)) + f (n + 1))
    rw [sigN_shift f n]; omega
end Go.Proofs.Ytegkmolffemkpaa

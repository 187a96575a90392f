/-
  Plain mathematics of the six primes: what the scalar functions of chapter 1 compute. Nothing of the program is imported.
-/
namespace Go.Proofs.Ytegkmolffemkpaa
def primeB (p : Int) : Bool := p == 2 || p == 3 || p == 5 || p == 7 || p == 11 || p == 13
def inB (n l h : Int) : Bool := decide (l ≤ n) && decide (n ≤ h)
theorem prime_cases {p : Int} (h : primeB p = true) : p = 2 ∨ p = 3 ∨ p = 5 ∨ p = 7 ∨ p = 11 ∨ p = 13 := by
  simp [primeB] at h; omega
theorem prime_no {p : Int} (h : ¬ (p = 2 ∨ p = 3 ∨ p = 5 ∨ p = 7 ∨ p = 11 ∨ p = 13)) : primeB p = false := by
  simp [primeB]; omega
theorem prime_ge {p : Int} (h : primeB p = true) : 2 ≤ p ∧ p ≤ 13 := by rcases prime_cases h with rfl | rfl | rfl | rfl | rfl | rfl <;> omega
theorem prime_div {p k : Int} (h2 : 2 ≤ k) (hk : k < p) (hd : p % k = 0) : primeB p = false := by
  apply prime_no
  rintro (rfl | rfl | rfl | rfl | rfl | rfl)
  · omega
  all_goals
    have hc : k = 2 ∨ k = 3 ∨ k = 4 ∨ k = 5 ∨ k = 6 ∨ k = 7 ∨ k = 8 ∨ k = 9 ∨ k = 10 ∨ k = 11 ∨ k = 12 := by omega
    rcases hc with rfl | rfl | rfl | rfl | rfl | rfl | rfl | rfl | rfl | rfl | rfl <;> omega
theorem prime_left {p k : Int} (hk : k ≤ 14) (hp : p ≤ k) (H : ∀ j : Int, 2 ≤ j → j < k → j < p → p % j ≠ 0) : inB p 2 13 = primeB p := by
  by_cases h1 : 2 ≤ p
  · have hc : p = 2 ∨ p = 3 ∨ p = 4 ∨ p = 5 ∨ p = 6 ∨ p = 7 ∨ p = 8 ∨ p = 9 ∨ p = 10 ∨ p = 11 ∨ p = 12 ∨ p = 13 ∨ p = 14 := by omega
    rcases hc with rfl | rfl | rfl | rfl | rfl | rfl | rfl | rfl | rfl | rfl | rfl | rfl | rfl
    all_goals first | rfl | (exact absurd rfl (H 2 (by omega) (by omega) (by omega))) | (exact absurd rfl (H 3 (by omega) (by omega) (by omega)))
  · rw [prime_no (by omega)]
    simp [inB]
    omega
theorem prime_big {p : Int} (h : 14 < p) : inB p 2 13 = primeB p := by
  rw [prime_no (by omega)]; simp [inB]; omega
/-- a valid number -/
def numB (p a : Int) : Bool := primeB p && (decide (0 ≤ a) && decide (a < p))
theorem numB_true {p a : Int} (h : numB p a = true) : primeB p = true ∧ 0 ≤ a ∧ a < p := by simpa [numB] using h
theorem numB_mk {p a : Int} (hp : primeB p = true) (h0 : 0 ≤ a) (h1 : a < p) : numB p a = true := by simp [numB, hp, h0, h1]
theorem numB_inB (p a : Int) : (primeB p && inB a 0 (p - 1)) = numB p a := by
  unfold numB inB
  have : decide (a ≤ p - 1) = decide (a < p) := by by_cases h : a < p <;> simp <;> omega
  rw [this]
def numAdd (p a b : Int) : Int := if numB p a = true ∧ numB p b = true then (a + b) % p else -1
def numTimes (p a b : Int) : Int := if numB p a = true ∧ numB p b = true then a * b % p else -1
def powM (p a : Int) : Nat → Int
  | 0 => 1
  | k + 1 => powM p a k * a % p
def invM (p a : Int) : Int := powM p a (p - 2).toNat
def numBack (p a : Int) : Int := if numB p a = true ∧ a ≠ 0 then invM p a else -1
theorem powM_bd {p a : Int} (hp : 2 ≤ p) : ∀ k, 0 ≤ powM p a k ∧ powM p a k < p
  | 0 => by simp [powM]; omega
  | k + 1 => ⟨Int.emod_nonneg _ (by omega), Int.emod_lt_of_pos _ (by omega)⟩
theorem inv_tab : ∀ p ∈ [2, 3, 5, 7, 11, 13], ∀ a, a < p → ∀ b, b < p → ((a : Nat) : Int) * ((b : Nat) : Int) % ((p : Nat) : Int) = 1 → ((b : Nat) : Int) = powM p a (p - 2) := by decide +kernel
theorem inv_tab2 : ∀ p ∈ [2, 3, 5, 7, 11, 13], ∀ a, a < p → a ≠ 0 → ((a : Nat) : Int) * powM ((p : Nat) : Int) a (p - 2) % ((p : Nat) : Int) = 1 := by decide +kernel
theorem prime_nat {p : Int} (h : primeB p = true) : ∃ q : Nat, p = q ∧ q ∈ [2, 3, 5, 7, 11, 13] := by
  rcases prime_cases h with rfl | rfl | rfl | rfl | rfl | rfl
  · exact ⟨2, rfl, by simp⟩
  · exact ⟨3, rfl, by simp⟩
  · exact ⟨5, rfl, by simp⟩
  · exact ⟨7, rfl, by simp⟩
  · exact ⟨11, rfl, by simp⟩
  · exact ⟨13, rfl, by simp⟩
theorem inv_uniq {p a b : Int} (hp : primeB p = true) (ha0 : 0 ≤ a) (ha : a < p) (hb0 : 0 ≤ b) (hb : b < p) (h : a * b % p = 1) : b = invM p a := by
  obtain ⟨q, rfl, hq⟩ := prime_nat hp
  obtain ⟨x, rfl⟩ := Int.eq_ofNat_of_zero_le ha0
  obtain ⟨y, rfl⟩ := Int.eq_ofNat_of_zero_le hb0
  have := inv_tab q hq x (by omega) y (by omega) h
  rw [this]
  unfold invM
  congr 1
  omega
theorem inv_ok {p a : Int} (hp : primeB p = true) (ha0 : 0 ≤ a) (ha : a < p) (hz : a ≠ 0) : a * invM p a % p = 1 := by
  obtain ⟨q, rfl, hq⟩ := prime_nat hp
  obtain ⟨x, rfl⟩ := Int.eq_ofNat_of_zero_le ha0
  have := inv_tab2 q hq x (by omega) (by omega)
  have e : invM (q : Int) (x : Int) = powM q x (q - 2) := by
    unfold invM; congr 1; omega
  rw [e]; exact this
theorem inv_bd {p a : Int} (hp : primeB p = true) : 0 ≤ invM p a ∧ invM p a < p := powM_bd (by have := prime_ge hp; omega) _
theorem inv_pos {p a : Int} (hp : primeB p = true) (ha0 : 0 ≤ a) (ha : a < p) (hz : a ≠ 0) : 1 ≤ invM p a := by
  have h1 := inv_ok hp ha0 ha hz
  have h2 := inv_bd (a := a) hp
  by_cases e : invM p a = 0
  · rw [e] at h1; simp at h1
  · omega
end Go.Proofs.Ytegkmolffemkpaa

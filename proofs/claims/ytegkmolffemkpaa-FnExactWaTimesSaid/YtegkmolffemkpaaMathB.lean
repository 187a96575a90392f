/-
  Plain mathematics of the six primes, more: sums, products and inverses.
-/
import Derived.Test.YtegkmolffemkpaaMathA
namespace Go.Proofs.Ytegkmolffemkpaa
theorem numAdd_ok {p a b : Int} (ha : numB p a = true) (hb : numB p b = true) : numAdd p a b = (a + b) % p := by unfold numAdd; rw [if_pos ⟨ha, hb⟩]
theorem numTimes_ok {p a b : Int} (ha : numB p a = true) (hb : numB p b = true) : numTimes p a b = a * b % p := by unfold numTimes; rw [if_pos ⟨ha, hb⟩]
theorem numAdd_no {p a b : Int} (h : ¬ (numB p a = true ∧ numB p b = true)) : numAdd p a b = -1 := by unfold numAdd; rw [if_neg h]
theorem numTimes_no {p a b : Int} (h : ¬ (numB p a = true ∧ numB p b = true)) : numTimes p a b = -1 := by unfold numTimes; rw [if_neg h]
theorem numB_emod {p : Int} (hp : primeB p = true) (x : Int) : numB p (x % p) = true := by
  have := prime_ge hp
  exact numB_mk hp (Int.emod_nonneg _ (by omega)) (Int.emod_lt_of_pos _ (by omega))
theorem mul_mod (a x p : Int) : a * (x % p) % p = a * x % p := by rw [Int.mul_emod, Int.emod_emod, ← Int.mul_emod]
theorem numAdd_comm (p a b : Int) : numAdd p a b = numAdd p b a := by
  unfold numAdd
  by_cases ha : numB p a = true <;> by_cases hb : numB p b = true <;> simp [ha, hb, Int.add_comm]
theorem numTimes_comm (p a b : Int) : numTimes p a b = numTimes p b a := by
  unfold numTimes
  by_cases ha : numB p a = true <;> by_cases hb : numB p b = true <;> simp [ha, hb, Int.mul_comm]
theorem numAdd_assoc {p a b c : Int} (ha : numB p a = true) (hb : numB p b = true) (hc : numB p c = true) : numAdd p (numAdd p a b) c = numAdd p a (numAdd p b c) := by
  have hp := (numB_true ha).1
  rw [numAdd_ok ha hb, numAdd_ok hb hc, numAdd_ok (numB_emod hp _) hc, numAdd_ok ha (numB_emod hp _), Int.emod_add_emod, Int.add_emod_emod, Int.add_assoc]
theorem times_add {p a b c : Int} (ha : numB p a = true) (hb : numB p b = true) (hc : numB p c = true) : numTimes p a (numAdd p b c) = numAdd p (numTimes p a b) (numTimes p a c) := by
  have hp := (numB_true ha).1
  rw [numAdd_ok hb hc, numTimes_ok ha hb, numTimes_ok ha hc, numTimes_ok ha (numB_emod hp _), numAdd_ok (numB_emod hp _) (numB_emod hp _), mul_mod, Int.emod_add_emod, Int.add_emod_emod, Int.mul_add]
def sumN (p a : Int) : Nat → Int
  | 0 => 0
  | k + 1 => numAdd p (sumN p a k) a
theorem sumN_eq {p a : Int} (ha : numB p a = true) : ∀ k : Nat, sumN p a k = ((k : Int) * a) % p
  | 0 => by simp [sumN]
  | k + 1 => by
    rw [sumN, sumN_eq ha k, numAdd_ok (numB_emod (numB_true ha).1 _) ha, Int.emod_add_emod]
    congr 1
    rw [Int.natCast_add, Int.add_mul]; simp
theorem sumN_bd {p a : Int} (ha : numB p a = true) (k : Nat) : numB p (sumN p a k) = true := by rw [sumN_eq ha]; exact numB_emod (numB_true ha).1 _
theorem zero_tab : ∀ p ∈ [2, 3, 5, 7, 11, 13], ∀ a, a < p → ∀ b, b < p → ((a : Nat) : Int) * ((b : Nat) : Int) % ((p : Nat) : Int) = 0 → a = 0 ∨ b = 0 := by decide +kernel
theorem times_zero {p a b : Int} (ha : numB p a = true) (hb : numB p b = true) (h : a * b % p = 0) : a = 0 ∨ b = 0 := by
  obtain ⟨hp, ha0, ha1⟩ := numB_true ha
  obtain ⟨_, hb0, hb1⟩ := numB_true hb
  obtain ⟨q, rfl, hq⟩ := prime_nat hp
  obtain ⟨x, rfl⟩ := Int.eq_ofNat_of_zero_le ha0
  obtain ⟨y, rfl⟩ := Int.eq_ofNat_of_zero_le hb0
  have := zero_tab q hq x (by omega) y (by omega) h
  omega
theorem back_times {p a : Int} (ha : numB p a = true) (hz : a ≠ 0) : numTimes p a (numBack p a) = 1 ∧ numBack p (numBack p a) = a ∧ 1 ≤ numBack p a := by
  obtain ⟨hp, ha0, ha1⟩ := numB_true ha
  have hi := inv_bd (a := a) hp
  have hb : numBack p a = invM p a := by unfold numBack; rw [if_pos ⟨ha, hz⟩]
  have h1 := inv_ok hp ha0 ha1 hz
  have h2 := inv_pos hp ha0 ha1 hz
  have hn : numB p (invM p a) = true := numB_mk hp hi.1 hi.2
  refine ⟨by rw [hb, numTimes_ok ha hn, h1], ?_, by omega⟩
  rw [hb]
  unfold numBack
  rw [if_pos ⟨hn, by omega⟩]
  exact (inv_uniq hp hi.1 hi.2 ha0 ha1 (by rw [Int.mul_comm]; exact h1)).symm
end Go.Proofs.Ytegkmolffemkpaa

/-
  Rows of valid numbers.
-/
import Derived.Test.YtegkmolffemkpaaMatV
namespace Go.Proofs.Ytegkmolffemkpaa
theorem numB_zero {p : Int} (hp : primeB p = true) : numB p 0 = true := by
  have := prime_ge hp
  exact numB_mk hp (by omega) (by omega)
theorem rowB_mem {p : Int} {xs : List Int} (h : rowB p xs = true) : ∀ x ∈ xs, numB p x = true := fun x hx => List.all_eq_true.1 h x hx
theorem numB_bd {p x : Int} (h : numB p x = true) : 0 ≤ x ∧ x < p ∧ 2 ≤ p ∧ p ≤ 13 := ⟨(numB_true h).2.1, (numB_true h).2.2, prime_ge (numB_true h).1⟩
theorem mul_bd {x y : Int} (hx : 0 ≤ x) (hx' : x ≤ 13) (hy : 0 ≤ y) (hy' : y ≤ 13) : 0 ≤ x * y ∧ x * y ≤ 169 :=
  ⟨Int.mul_nonneg hx hy, Int.le_trans (Int.mul_le_mul hx' hy' hy (by omega)) (by decide)⟩
end Go.Proofs.Ytegkmolffemkpaa

/-
  The contracts of the scalar functions of chapter 1, of the program and of its model: each returns what the plain function of XMathA says, and leaves the world alone.
-/
import Derived.Test.YtegkmolffemkpaaRows
import Derived.WalkKit
import Derived.ProofKit
import Derived.Lib.Hide
import Derived.Test.YtegkmolffemkpaaMathA
namespace Go.Proofs.Ytegkmolffemkpaa
open Go.RowKit
theorem ret_bool {a b : Bool} (h : a = b) : Ending.returned (.bool a) = Ending.returned (.bool b) := by rw [h]
theorem ret_int {a b : Int} (h : a = b) : Ending.returned (.int .i64 a) = Ending.returned (.int .i64 b) := by rw [h]
theorem implPrimeOk (p : Int) (w : World) :
    Calls Try.prog 18 #[.int .i64 p] w fun e w' => e = .returned (.bool (primeB p)) ∧ w = w' := by
  go_enter Try.func18, Try.ntmps18
  go_wp2
  all_goals (go_ret; exact ⟨by simp_all [primeB], rfl⟩)
theorem specIn (n l h : Int) (w : World) :
    Calls Try.prog 58 #[.int .i64 n, .int .i64 l, .int .i64 h] w fun e w' => e = .returned (.bool (inB n l h)) ∧ w = w' := by
  by_cases h1 : l ≤ n <;> by_cases h2 : n ≤ h
  all_goals
    go_enter Try.func58, Try.ntmps58
    go_wp2
    all_goals (go_ret; exact ⟨by simp_all [inB], rfl⟩)
theorem specPrimeOk (p : Int) (w : World) :
    Calls Try.prog 84 #[.int .i64 p] w fun e w' => e = .returned (.bool (primeB p)) ∧ w = w' := by
  go_enter Try.func84, Try.ntmps84
  go_wp2
  go_loop [3] (fun d => ∃ k : Int, 2 ≤ k ∧ k ≤ 14 ∧ d = .int .i64 k ∧ (∀ j : Int, 2 ≤ j → j < k → j < p → p % j ≠ 0)) (fun d => (14 - intOf d).toNat)
  case atStart => exact ⟨2, by omega, by omega, rfl, by omega⟩
  case round =>
    obtain ⟨k, hk1, hk2, rfl, hH⟩ := hrel
    have H := Lib.hid hH
    clear hH
    by_cases c1 : k < p
    · by_cases c2 : k ≤ 13
      · go_wp2_with (fail)
        · have hd : (p % k == 0) = true := by assumption
          go_ret
          exact ⟨ret_bool (prime_div hk1 c1 (by simpa using hd)).symm, rfl⟩
        · have hd : (p % k == 0) = false := by assumption
          have hd' : p % k ≠ 0 := by simpa using hd
          go_round
          case rel => exact ⟨k + 1, by omega, by omega, rfl, fun j h2 hj hp => if e : j = k then e ▸ hd' else H.out j h2 (by omega) hp⟩
          case measure => simp [intOf]; omega
      · go_wp2_with (go_at_call 58; refine (specIn _ _ _ _).mono ?_; rintro e w' ⟨rfl, rfl⟩)
        go_ret
        exact ⟨ret_bool (prime_big (by omega)), rfl⟩
    · go_wp2_with (go_at_call 58; refine (specIn _ _ _ _).mono ?_; rintro e w' ⟨rfl, rfl⟩)
      go_ret
      exact ⟨ret_bool (prime_left hk2 (by omega) H.out), rfl⟩
theorem implNumValid (p a : Int) (w : World) :
    Calls Try.prog 31 #[.int .i64 p, .int .i64 a] w fun e w' => e = .returned (.bool (numB p a)) ∧ w = w' := by
  rcases hp : primeB p <;> by_cases h1 : 0 ≤ a <;> by_cases h2 : a < p
  all_goals
    have hq := Lib.hid hp
    clear hp
    go_enter Try.func31, Try.ntmps31
    go_wp2_with (go_at_call 18; refine (implPrimeOk _ _).mono ?_; rintro e w' ⟨rfl, rfl⟩; rw [hq.out])
    all_goals (go_ret; exact ⟨ret_bool (by have := hq.out; simp [numB, *]), rfl⟩)
theorem specNumValid (p a : Int) (w : World) :
    Calls Try.prog 83 #[.int .i64 p, .int .i64 a] w fun e w' => e = .returned (.bool (numB p a)) ∧ w = w' := by
  rcases hp : primeB p
  · have hq := Lib.hid hp
    clear hp
    go_enter Try.func83, Try.ntmps83
    go_wp2_with (go_at_call 84; refine (specPrimeOk _ _).mono ?_; rintro e w' ⟨rfl, rfl⟩; rw [hq.out])
    go_ret
    exact ⟨ret_bool (by have := hq.out; simp [numB, *]), rfl⟩
  · have hb := prime_ge hp
    have hq := Lib.hid hp
    clear hp
    go_enter Try.func83, Try.ntmps83
    go_wp2_with (first | (go_at_call 84; refine (specPrimeOk _ _).mono ?_; rintro e w' ⟨rfl, rfl⟩; rw [hq.out]) | (go_at_call 58; refine (specIn _ _ _ _).mono ?_; rintro e w' ⟨rfl, rfl⟩))
    go_ret
    exact ⟨ret_bool (by rw [← numB_inB, hq.out]; simp), rfl⟩
theorem implNumAdd (p a b : Int) (w : World) :
    Calls Try.prog 42 #[.int .i64 p, .int .i64 a, .int .i64 b] w fun e w' => e = .returned (.int .i64 (numAdd p a b)) ∧ w = w' := by
  rcases h1 : numB p a <;> rcases h2 : numB p b
  all_goals
    have q1 := Lib.hid h1
    have q2 := Lib.hid h2
    have hb : numB p a = true → 0 ≤ a ∧ a < p ∧ 2 ≤ p ∧ p ≤ 13 := fun h => ⟨(numB_true h).2.1, (numB_true h).2.2, prime_ge (numB_true h).1⟩
    have hb2 : numB p b = true → 0 ≤ b ∧ b < p := fun h => (numB_true h).2
    simp only [h1, h2, true_implies, false_implies, reduceCtorEq] at hb hb2
    clear h1 h2
    go_enter Try.func42, Try.ntmps42
    go_wp2_with (go_at_call 31; refine (implNumValid _ _ _).mono ?_; rintro e w' ⟨rfl, rfl⟩; first | rw [q1.out] | rw [q2.out])
    go_ret
    exact ⟨ret_int (by unfold numAdd; rw [q1.out, q2.out]; simp), rfl⟩
theorem implNumTimes (p a b : Int) (w : World) :
    Calls Try.prog 46 #[.int .i64 p, .int .i64 a, .int .i64 b] w fun e w' => e = .returned (.int .i64 (numTimes p a b)) ∧ w = w' := by
  rcases h1 : numB p a <;> rcases h2 : numB p b
  all_goals
    have q1 := Lib.hid h1
    have q2 := Lib.hid h2
    have hb : numB p a = true → 0 ≤ a ∧ a < p ∧ 2 ≤ p ∧ p ≤ 13 := fun h => ⟨(numB_true h).2.1, (numB_true h).2.2, prime_ge (numB_true h).1⟩
    have hb2 : numB p b = true → 0 ≤ b ∧ b < p := fun h => (numB_true h).2
    simp only [h1, h2, true_implies, false_implies, reduceCtorEq] at hb hb2
    clear h1 h2
    try (have hm : 0 ≤ a * b ∧ a * b ≤ 169 := ⟨Int.mul_nonneg hb.1 hb2.1, Int.le_trans (Int.mul_le_mul (show a ≤ 13 by omega) (show b ≤ 13 by omega) hb2.1 (by omega)) (by decide)⟩)
    go_enter Try.func46, Try.ntmps46
    go_wp2_with (go_at_call 31; refine (implNumValid _ _ _).mono ?_; rintro e w' ⟨rfl, rfl⟩; first | rw [q1.out] | rw [q2.out])
    go_ret
    exact ⟨ret_int (by unfold numTimes; rw [q1.out, q2.out]; simp), rfl⟩
theorem alive (w : World) : Calls Try.prog 19 #[] w fun e w' => e = .returned (.bool true) ∧ w = w' := by
  go_enter Try.func19, Try.ntmps19
  go_wp2_with (first | (go_at_call 42; refine (implNumAdd _ _ _ _).mono ?_; rintro e w' ⟨rfl, rfl⟩; rw [show numAdd 7 5 4 = 2 from by decide]) | (go_at_call 46; refine (implNumTimes _ _ _ _).mono ?_; rintro e w' ⟨rfl, rfl⟩; rw [show numTimes 7 3 5 = 1 from by decide]))
  go_ret
  exact ⟨rfl, rfl⟩
end Go.Proofs.Ytegkmolffemkpaa

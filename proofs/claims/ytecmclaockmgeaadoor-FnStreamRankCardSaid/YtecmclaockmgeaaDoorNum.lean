/-
  The contracts of the scalar functions of chapter 1, of the program and of its model: each returns what the plain function of XMathA says, and leaves the world alone.
-/
import Derived.Test.YtecmclaockmgeaaDoorRows
import Derived.WalkKit
import Derived.ProofKit
import Derived.Lib.Hide
import Derived.Test.YtecmclaockmgeaaDoorMathA
namespace Go.Proofs.YtecmclaockmgeaaDoor
open Go.RowKit
theorem ret_bool {a b : Bool} (h : a = b) : Ending.returned (.bool a) = Ending.returned (.bool b) := by rw [h]
theorem ret_int {a b : Int} (h : a = b) : Ending.returned (.int .i64 a) = Ending.returned (.int .i64 b) := by rw [h]
theorem implPrimeOk (p : Int) (w : World) :
    Calls Tryd.prog 18 #[.int .i64 p] w fun e w' => e = .returned (.bool (primeB p)) ∧ w = w' := by
  go_enter Tryd.func18, Tryd.ntmps18
  go_wp2
  all_goals (go_ret; exact ⟨by simp_all [primeB], rfl⟩)
theorem specIn (n l h : Int) (w : World) :
    Calls Tryd.prog 34 #[.int .i64 n, .int .i64 l, .int .i64 h] w fun e w' => e = .returned (.bool (inB n l h)) ∧ w = w' := by
  by_cases h1 : l ≤ n <;> by_cases h2 : n ≤ h
  all_goals
    go_enter Tryd.func34, Tryd.ntmps34
    go_wp2
    all_goals (go_ret; exact ⟨by simp_all [inB], rfl⟩)
theorem specPrimeOk (p : Int) (w : World) :
    Calls Tryd.prog 54 #[.int .i64 p] w fun e w' => e = .returned (.bool (primeB p)) ∧ w = w' := by
  go_enter Tryd.func54, Tryd.ntmps54
  go_wp2
  go_loop [3] (fun d => ∃ k : Int, 2 ≤ k ∧ k ≤ 14 ∧ d = .int .i64 k ∧ (∀ j : Int, 2 ≤ j → j < k → j < p → p % j ≠ 0)) (fun d => (14 - intOf d).toNat)
  case atStart => exact ⟨2, by omega, by omega, rfl, by omega⟩
  case round =>
    obtain ⟨k, hk1, hk2, rfl, hH⟩ := hrel
    have H := Lib.hid hH
    clear hH
    by_cases c1 : k < p
    · by_cases c2 : k ≤ 13
      · go_wp2_with (fail)
        · have hd : (p % k == 0) = true := by assumption
          go_ret
          exact ⟨ret_bool (prime_div hk1 c1 (by simpa using hd)).symm, rfl⟩
        · have hd : (p % k == 0) = false := by assumption
          have hd' : p % k ≠ 0 := by simpa using hd
          go_round
          case rel => exact ⟨k + 1, by omega, by omega, rfl, fun j h2 hj hp => if e : j = k then e ▸ hd' else H.out j h2 (by omega) hp⟩
          case measure => simp [intOf]; omega
      · go_wp2_with (go_at_call 34; refine (specIn _ _ _ _).mono ?_; rintro e w' ⟨rfl, rfl⟩)
        go_ret
        exact ⟨ret_bool (prime_big (by omega)), rfl⟩
    · go_wp2_with (go_at_call 34; refine (specIn _ _ _ _).mono ?_; rintro e w' ⟨rfl, rfl⟩)
      go_ret
      exact ⟨ret_bool (prime_left hk2 (by omega) H.out), rfl⟩
theorem implNumValid (p a : Int) (w : World) :
    Calls Tryd.prog 35 #[.int .i64 p, .int .i64 a] w fun e w' => e = .returned (.bool (numB p a)) ∧ w = w' := by
  rcases hp : primeB p <;> by_cases h1 : 0 ≤ a <;> by_cases h2 : a < p
  all_goals
    have hq := Lib.hid hp
    clear hp
    go_enter Tryd.func35, Tryd.ntmps35
    go_wp2_with (go_at_call 18; refine (implPrimeOk _ _).mono ?_; rintro e w' ⟨rfl, rfl⟩; rw [hq.out])
    all_goals (go_ret; exact ⟨ret_bool (by have := hq.out; simp [numB, *]), rfl⟩)
theorem specNumValid (p a : Int) (w : World) :
    Calls Tryd.prog 53 #[.int .i64 p, .int .i64 a] w fun e w' => e = .returned (.bool (numB p a)) ∧ w = w' := by
  rcases hp : primeB p
  · have hq := Lib.hid hp
    clear hp
    go_enter Tryd.func53, Tryd.ntmps53
    go_wp2_with (go_at_call 54; refine (specPrimeOk _ _).mono ?_; rintro e w' ⟨rfl, rfl⟩; rw [hq.out])
    go_ret
    exact ⟨ret_bool (by have := hq.out; simp [numB, *]), rfl⟩
  · have hb := prime_ge hp
    have hq := Lib.hid hp
    clear hp
    go_enter Tryd.func53, Tryd.ntmps53
    go_wp2_with (first | (go_at_call 54; refine (specPrimeOk _ _).mono ?_; rintro e w' ⟨rfl, rfl⟩; rw [hq.out]) | (go_at_call 34; refine (specIn _ _ _ _).mono ?_; rintro e w' ⟨rfl, rfl⟩))
    go_ret
    exact ⟨ret_bool (by rw [← numB_inB, hq.out]; simp), rfl⟩
theorem implNumAdd (p a b : Int) (w : World) :
    Calls Tryd.prog 20 #[.int .i64 p, .int .i64 a, .int .i64 b] w fun e w' => e = .returned (.int .i64 (numAdd p a b)) ∧ w = w' := by
  rcases h1 : numB p a <;> rcases h2 : numB p b
  all_goals
    have q1 := Lib.hid h1
    have q2 := Lib.hid h2
    have hb : numB p a = true → 0 ≤ a ∧ a < p ∧ 2 ≤ p ∧ p ≤ 13 := fun h => ⟨(numB_true h).2.1, (numB_true h).2.2, prime_ge (numB_true h).1⟩
    have hb2 : numB p b = true → 0 ≤ b ∧ b < p := fun h => (numB_true h).2
    simp only [h1, h2, true_implies, false_implies, reduceCtorEq] at hb hb2
    clear h1 h2
    go_enter Tryd.func20, Tryd.ntmps20
    go_wp2_with (go_at_call 35; refine (implNumValid _ _ _).mono ?_; rintro e w' ⟨rfl, rfl⟩; first | rw [q1.out] | rw [q2.out])
    go_ret
    exact ⟨ret_int (by unfold numAdd; rw [q1.out, q2.out]; simp), rfl⟩
theorem implNumTimes (p a b : Int) (w : World) :
    Calls Tryd.prog 21 #[.int .i64 p, .int .i64 a, .int .i64 b] w fun e w' => e = .returned (.int .i64 (numTimes p a b)) ∧ w = w' := by
  rcases h1 : numB p a <;> rcases h2 : numB p b
  all_goals
    have q1 := Lib.hid h1
    have q2 := Lib.hid h2
    have hb : numB p a = true → 0 ≤ a ∧ a < p ∧ 2 ≤ p ∧ p ≤ 13 := fun h => ⟨(numB_true h).2.1, (numB_true h).2.2, prime_ge (numB_true h).1⟩
    have hb2 : numB p b = true → 0 ≤ b ∧ b < p := fun h => (numB_true h).2
    simp only [h1, h2, true_implies, false_implies, reduceCtorEq] at hb hb2
    clear h1 h2
    try (have hm : 0 ≤ a * b ∧ a * b ≤ 169 := ⟨Int.mul_nonneg hb.1 hb2.1, Int.le_trans (Int.mul_le_mul (show a ≤ 13 by omega) (show b ≤ 13 by omega) hb2.1 (by omega)) (by decide)⟩)
    go_enter Tryd.func21, Tryd.ntmps21
    go_wp2_with (go_at_call 35; refine (implNumValid _ _ _).mono ?_; rintro e w' ⟨rfl, rfl⟩; first | rw [q1.out] | rw [q2.out])
    go_ret
    exact ⟨ret_int (by unfold numTimes; rw [q1.out, q2.out]; simp), rfl⟩
theorem alive (w : World) : Calls Tryd.prog 8 #[] w fun e w' => e = .returned (.bool true) ∧ w = w' := by
  go_enter Tryd.func8, Tryd.ntmps8
  go_wp2_with (first | (go_at_call 20; refine (implNumAdd _ _ _ _).mono ?_; rintro e w' ⟨rfl, rfl⟩; rw [show numAdd 7 5 4 = 2 from by decide]) | (go_at_call 21; refine (implNumTimes _ _ _ _).mono ?_; rintro e w' ⟨rfl, rfl⟩; rw [show numTimes 7 3 5 = 1 from by decide]))
  go_ret
  exact ⟨rfl, rfl⟩
theorem implNumBack (p a : Int) (w : World) :
    Calls Tryd.prog 48 #[.int .i64 p, .int .i64 a] w fun e w' => e = .returned (.int .i64 (numBack p a)) ∧ w = w' := by
  rcases h1 : numB p a
  · have q1 := Lib.hid h1
    clear h1
    go_enter Tryd.func48, Tryd.ntmps48
    go_wp2_with (go_at_call 35; refine (implNumValid _ _ _).mono ?_; rintro e w' ⟨rfl, rfl⟩; rw [q1.out])
    go_ret
    exact ⟨ret_int (by unfold numBack; rw [q1.out]; simp), rfl⟩
  · obtain ⟨hp, ha0, ha1⟩ := numB_true h1
    have hpb := prime_ge hp
    have q1 := Lib.hid h1
    have q2 := Lib.hid hp
    clear h1 hp
    go_enter Tryd.func48, Tryd.ntmps48
    go_wp2_with (go_at_call 35; refine (implNumValid _ _ _).mono ?_; rintro e w' ⟨rfl, rfl⟩; rw [q1.out])
    go_loop [5] (fun d => ∃ k : Int, 1 ≤ k ∧ k ≤ p ∧ d = .int .i64 k ∧ (∀ j : Int, 1 ≤ j → j < k → a * j % p ≠ 1)) (fun d => (p - intOf d).toNat)
    case atStart => exact ⟨1, by omega, by omega, rfl, by omega⟩
    case round =>
      obtain ⟨k, hk1, hk2, rfl, hH⟩ := hrel
      have H := Lib.hid hH
      clear hH
      by_cases c1 : k < p
      · have hm : 0 ≤ a * k ∧ a * k ≤ 169 := ⟨Int.mul_nonneg ha0 (by omega), Int.le_trans (Int.mul_le_mul (show a ≤ 13 by omega) (show k ≤ 13 by omega) (by omega) (by omega)) (by decide)⟩
        go_wp2_with (fail)
        · have hd : (a * k % p == 1) = true := by assumption
          have hd' : a * k % p = 1 := by simpa using hd
          go_ret
          refine ⟨ret_int ?_, rfl⟩
          have hz : a ≠ 0 := by rintro rfl; simp at hd'
          unfold numBack
          rw [if_pos ⟨q1.out, hz⟩]
          exact inv_uniq q2.out ha0 ha1 (by omega) c1 hd'
        · have hd : (a * k % p == 1) = false := by assumption
          have hd' : a * k % p ≠ 1 := by simpa using hd
          go_round
          case rel => exact ⟨k + 1, by omega, by omega, rfl, fun j h2 hj => if e : j = k then e ▸ hd' else H.out j h2 (by omega)⟩
          case measure => simp [intOf]; omega
      · go_wp2_with (fail)
        go_ret
        refine ⟨ret_int ?_, rfl⟩
        unfold numBack
        by_cases hz : a = 0
        · rw [if_neg (fun h => h.2 hz)]
        · exact absurd (inv_ok q2.out ha0 ha1 hz) (H.out _ (inv_pos q2.out ha0 ha1 hz) (by have := inv_bd (a := a) q2.out; omega))
theorem specBack (p a : Int) (w : World) (hp : primeB p = true) (ha0 : 0 ≤ a) (ha1 : a < p) :
    Calls Tryd.prog 56 #[.int .i64 p, .int .i64 a] w fun e w' => e = .returned (.int .i64 (invM p a)) ∧ w = w' := by
  have hpb := prime_ge hp
  clear hp
  go_enter Tryd.func56, Tryd.ntmps56
  go_wp2_with (fail)
  go_loop [5, 6] (fun o i => ∃ k : Nat, (k : Int) ≤ p - 2 ∧ i = .int .i64 k ∧ o = .int .i64 (powM p a k)) (fun _ i => (p - intOf i).toNat)
  case atStart => exact ⟨0, by omega, rfl, rfl⟩
  case round =>
    obtain ⟨k, hk, rfl, rfl⟩ := hrel
    have hb := powM_bd (p := p) (a := a) (by omega) k
    by_cases c1 : (k : Int) < p - 2
    · have hm : 0 ≤ powM p a k * a ∧ powM p a k * a ≤ 169 := ⟨Int.mul_nonneg hb.1 ha0, Int.le_trans (Int.mul_le_mul (show powM p a k ≤ 13 by omega) (show a ≤ 13 by omega) (by omega) (by omega)) (by decide)⟩
      go_wp2_with (fail)
      go_round
      case rel => exact ⟨k + 1, by omega, by go_num, rfl⟩
      case measure => simp [intOf]; omega
    · go_wp2_with (fail)
      go_ret
      exact ⟨ret_int (by unfold invM; congr 1; omega), rfl⟩
end Go.Proofs.YtecmclaockmgeaaDoor

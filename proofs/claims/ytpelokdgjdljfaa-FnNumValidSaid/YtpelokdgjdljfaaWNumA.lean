/-
  The walks of the laws of the scalar functions, over the drawn inputs.
-/
import Derived.Test.YtpelokdgjdljfaaDraw
namespace Go.Proofs.Ytpelokdgjdljfaa
open Go.RowKit
def cntP : Nat → Int
  | 0 => 0
  | j + 1 => cntP j + if primeB ((j : Int) - 5) = true then 1 else 0
theorem cntP_succ (j : Nat) : cntP (j + 1) = cntP j + if primeB ((j : Int) - 5) = true then 1 else 0 := rfl
theorem cntP_bd : ∀ j : Nat, 0 ≤ cntP j ∧ cntP j ≤ j
  | 0 => by simp [cntP]
  | j + 1 => by
    have := cntP_bd j
    rw [cntP_succ]
    split <;> omega
theorem walkFnPrimeOk (a : Option Addr) (len cap : Nat) (zs : List Int) (w : World) (h : IsRow .u8 w a len cap zs) :
    Calls Try.prog 3 #[.slice a len cap] w fun e w' => e = .returned (.bool true) ∧ Below w.heap.size w w' := by
  have hm : len ≤ 9223372036854775807 := by have := rowBytes h; unfold maxLen at this; omega
  by_cases hb : 1048576 < len
  · go_enter Try.func3, Try.ntmps3
    go_wp2_with (fail)
    go_ret
    exact ⟨rfl, Below.refl _ _⟩
  · go_enter Try.func3, Try.ntmps3
    go_wp2_with (fail)
    refine (drawPrimeOk a len cap zs w h).mono ?_
    rintro e w1 ⟨p, rfl, _, hB⟩
    generalize hx : primeB p = x
    have HX := Lib.hid hx
    clear hx
    go_wp2_with (first | (go_at_call 17; refine (specPrimeOk _ _).mono ?_; rintro e w' ⟨rfl, rfl⟩; rw [HX.out]) | (go_at_call 16; refine (implPrimeOk _ _).mono ?_; rintro e w' ⟨rfl, rfl⟩; rw [HX.out]))
    go_loop [5, 6] (fun c k => ∃ j : Nat, j ≤ 45 ∧ k = .int .i64 ((j : Int) - 5) ∧ c = .int .i64 (cntP j)) (fun _ k => (40 - intOf k).toNat)
    case atStart => exact ⟨0, by omega, rfl, rfl⟩
    case round =>
      obtain ⟨j, hj, rfl, rfl⟩ := hrel
      have hc := cntP_bd j
      by_cases hlt : (j : Int) - 5 < 40
      · rcases hpr : primeB ((j : Int) - 5)
        all_goals
          have hq := Lib.hid hpr
          clear hpr
          go_wp2_with (go_at_call 16; refine (implPrimeOk _ _).mono ?_; rintro e w' ⟨rfl, rfl⟩; rw [hq.out])
          go_round
          case rel => exact ⟨j + 1, by omega, by go_num, by rw [cntP_succ, hq.out]; simp⟩
          case measure => simp [intOf]; omega
      · have hj' : j = 45 := by omega
        have he : (cntP j == 6) = true := by rw [hj']; decide
        clear hj' hc
        go_wp2_with (go_at_call 18; refine (alive _).mono ?_; rintro e w' ⟨rfl, rfl⟩)
        go_ret
        exact ⟨rfl, hB⟩
theorem prime_self (p : Int) : numB p p = false := by unfold numB; simp
theorem prime_01 (p : Int) : numB p 0 = primeB p ∧ numB p 1 = primeB p := by
  rcases hp : primeB p
  · simp [numB, hp]
  · have := prime_ge hp
    simp [numB, hp]; omega
theorem walkFnNumValid (a : Option Addr) (len cap : Nat) (zs : List Int) (w : World) (h : IsRow .u8 w a len cap zs) :
    Calls Try.prog 5 #[.slice a len cap] w fun e w' => e = .returned (.bool true) ∧ Below w.heap.size w w' := by
  have hm : len ≤ 9223372036854775807 := by have := rowBytes h; unfold maxLen at this; omega
  by_cases hb : 1048576 < len
  · go_enter Try.func5, Try.ntmps5
    go_wp2_with (fail)
    go_ret
    exact ⟨rfl, Below.refl _ _⟩
  · go_enter Try.func5, Try.ntmps5
    go_wp2_with (fail)
    refine (drawNumValid a len cap zs w h).mono ?_
    rintro e w1 ⟨p, x, rfl, _, hB⟩
    have hs := prime_self p
    obtain ⟨h0, h1⟩ := prime_01 p
    rcases hy : numB p x <;> rcases hp : primeB p
    all_goals
      have H0 := Lib.hid (h0.trans hp)
      have H1 := Lib.hid (h1.trans hp)
      have HS := Lib.hid hs
      have HY := Lib.hid hy
      have HP := Lib.hid hp
      clear hs h0 h1 hy hp
      go_wp2_with (first | (go_at_call 21; refine (specNumValid _ _ _).mono ?_; rintro e w' ⟨rfl, rfl⟩; rw [HY.out]) | (go_at_call 18; refine (alive _).mono ?_; rintro e w' ⟨rfl, rfl⟩) | (go_at_call 16; refine (implPrimeOk _ _).mono ?_; rintro e w' ⟨rfl, rfl⟩; rw [HP.out]) | (go_at_call 20; refine (implNumValid _ _ _).mono ?_; rintro e w' ⟨rfl, rfl⟩; first | rw [H0.out] | rw [H1.out] | rw [HS.out] | rw [HY.out]))
      go_ret
      exact ⟨rfl, hB⟩
end Go.Proofs.Ytpelokdgjdljfaa

/-
  The walks of the laws of sums, products and inverses, over the drawn inputs.
-/
import Derived.Test.YtpelokdgjdljfaaDraw
import Derived.Test.YtpelokdgjdljfaaMathB
namespace Go.Proofs.Ytpelokdgjdljfaa
open Go.RowKit
theorem walkFnNumBack (a : Option Addr) (len cap : Nat) (zs : List Int) (w : World) (h : IsRow .u8 w a len cap zs) :
    Calls Try.prog 11 #[.slice a len cap] w fun e w' => e = .returned (.bool true) ∧ Below w.heap.size w w' := by
  have hm : len ≤ 9223372036854775807 := by have := rowBytes h; unfold maxLen at this; omega
  by_cases hb : 1048576 < len
  · go_enter Try.func11, Try.ntmps11
    go_wp2_with (fail)
    go_ret
    exact ⟨rfl, Below.refl _ _⟩
  · go_enter Try.func11, Try.ntmps11
    go_wp2_with (fail)
    refine (drawNumBack a len cap zs w h).mono ?_
    rintro e w1 ⟨p, x, rfl, _, hB⟩
    by_cases hv : numB p x = true ∧ x ≠ 0
    · obtain ⟨h1, h2, h3⟩ := back_times hv.1 hv.2
      generalize hy : numBack p x = y at h1 h2 h3
      have H1 := Lib.hid h1
      have H2 := Lib.hid h2
      have HY := Lib.hid hy
      clear h1 h2 hy hv
      go_wp2_with (first | (go_at_call 30; refine (specNumBack _ _ _).mono ?_; rintro e w' ⟨rfl, rfl⟩; rw [HY.out]) | (go_at_call 26; refine (implNumTimes _ _ _ _).mono ?_; rintro e w' ⟨rfl, rfl⟩; rw [H1.out]) | (go_at_call 29; refine (implNumBack _ _ _).mono ?_; rintro e w' ⟨rfl, rfl⟩; first | rw [HY.out] | rw [H2.out]))
      go_ret
      exact ⟨rfl, hB⟩
    · have hy : numBack p x = -1 := by unfold numBack; rw [if_neg hv]
      have HY := Lib.hid hy
      clear hy hv
      go_wp2_with (first | (go_at_call 30; refine (specNumBack _ _ _).mono ?_; rintro e w' ⟨rfl, rfl⟩; rw [HY.out]) | (go_at_call 18; refine (alive _).mono ?_; rintro e w' ⟨rfl, rfl⟩) | (go_at_call 29; refine (implNumBack _ _ _).mono ?_; rintro e w' ⟨rfl, rfl⟩; rw [HY.out]))
      go_ret
      exact ⟨rfl, hB⟩
theorem walkFnNumAdd (a : Option Addr) (len cap : Nat) (zs : List Int) (b : Option Addr) (len1 cap1 : Nat) (zs1 : List Int) (w : World) (h : IsRow .u8 w a len cap zs) (h1 : IsRow .u8 w b len1 cap1 zs1) :
    Calls Try.prog 7 #[.slice a len cap, .slice b len1 cap1] w fun e w' => e = .returned (.bool true) ∧ Below w.heap.size w w' := by
  have hm : len ≤ 9223372036854775807 := by have := rowBytes h; unfold maxLen at this; omega
  have hm1 : len1 ≤ 9223372036854775807 := by have := rowBytes h1; unfold maxLen at this; omega
  by_cases hb : 1048576 < len
  · go_enter Try.func7, Try.ntmps7
    go_wp2_with (fail)
    go_ret
    exact ⟨rfl, Below.refl _ _⟩
  by_cases hb1 : 1048576 < len1
  · go_enter Try.func7, Try.ntmps7
    go_wp2_with (fail)
    go_ret
    exact ⟨rfl, Below.refl _ _⟩
  have hd0 : decide (1048576 < (len : Int)) = false := by simp; omega
  have hd1 : decide (1048576 < (len1 : Int)) = false := by simp; omega
  go_enter Try.func7, Try.ntmps7
  go_wp2_with (fail)
  refine (drawNumAdd a len cap zs w h).mono ?_
  rintro e w1 ⟨p, x, y, rfl, _, hB⟩
  by_cases hv : numB p x = true ∧ numB p y = true
  · have hp := (numB_true hv.1).1
    have hpb := prime_ge hp
    have hx := (numB_true hv.1).2
    have hz : 0 ≤ numAdd p x y := by rw [numAdd_ok hv.1 hv.2]; exact Int.emod_nonneg _ (by omega)
    have hcv : numB p ((len1 : Int) % p) = true := numB_emod hp _
    have ha := numAdd_assoc hv.1 hv.2 hcv
    have hcm := numAdd_comm p y x
    obtain ⟨s, hs⟩ : ∃ s : Int, numAdd p x y = s := ⟨_, rfl⟩
    obtain ⟨t, ht⟩ : ∃ t : Int, numAdd p s ((len1 : Int) % p) = t := ⟨_, rfl⟩
    obtain ⟨u, hu⟩ : ∃ u : Int, numAdd p y ((len1 : Int) % p) = u := ⟨_, rfl⟩
    rw [hs] at ha hcm hz
    rw [hu, ht] at ha
    have hd2 : decide (s < 0) = false := by simp; omega
    have HV := Lib.hid hv
    have HP := Lib.hid hp
    have H1 := Lib.hid hs
    have H2 := Lib.hid ht
    have H3 := Lib.hid hu
    have H4 := Lib.hid ha.symm
    have H5 := Lib.hid hcm
    clear hv hp hs ht hu ha hcm hcv
    go_wp2_with (first | (go_at_call 24; refine (specNumAdd _ _ _ _).mono ?_; rintro e w' ⟨rfl, rfl⟩; rw [H1.out]) | (go_at_call 23; refine (implNumAdd _ _ _ _).mono ?_; rintro e w' ⟨rfl, rfl⟩; rw [H1.out]))
    go_loop [10, 11] (fun s k => ∃ j : Nat, (j : Int) ≤ p ∧ k = .int .i64 j ∧ s = .int .i64 (sumN p x j)) (fun _ k => (p - intOf k).toNat)
    case atStart => exact ⟨0, by omega, rfl, rfl⟩
    case round =>
      obtain ⟨j, hj, rfl, rfl⟩ := hrel
      by_cases hlt : (j : Int) < p
      · go_wp2_with (go_at_call 23; refine (implNumAdd _ _ _ _).mono ?_; rintro e w' ⟨rfl, rfl⟩)
        go_round
        case rel => exact ⟨j + 1, by omega, by go_num, rfl⟩
        case measure => simp [intOf]; omega
      · have he : (sumN p x j == 0) = true := by
          have e : (j : Int) = p := by omega
          rw [sumN_eq HV.out.1, e, Int.mul_emod_right]; rfl
        go_wp2_with (go_at_call 23; refine (implNumAdd _ _ _ _).mono ?_; rintro e w' ⟨rfl, rfl⟩; first | rw [H5.out] | rw [H2.out] | rw [H3.out] | rw [H4.out])
        go_ret
        exact ⟨rfl, hB⟩
  · have hs := numAdd_no hv
    have H1 := Lib.hid hs
    clear hs hv
    go_wp2_with (first | (go_at_call 24; refine (specNumAdd _ _ _ _).mono ?_; rintro e w' ⟨rfl, rfl⟩; rw [H1.out]) | (go_at_call 18; refine (alive _).mono ?_; rintro e w' ⟨rfl, rfl⟩) | (go_at_call 23; refine (implNumAdd _ _ _ _).mono ?_; rintro e w' ⟨rfl, rfl⟩; rw [H1.out]))
    go_ret
    exact ⟨rfl, hB⟩
theorem walkFnNumTimes (a : Option Addr) (len cap : Nat) (zs : List Int) (b : Option Addr) (len1 cap1 : Nat) (zs1 : List Int) (w : World) (h : IsRow .u8 w a len cap zs) (h1 : IsRow .u8 w b len1 cap1 zs1) :
    Calls Try.prog 9 #[.slice a len cap, .slice b len1 cap1] w fun e w' => e = .returned (.bool true) ∧ Below w.heap.size w w' := by
  have hm : len ≤ 9223372036854775807 := by have := rowBytes h; unfold maxLen at this; omega
  have hm1 : len1 ≤ 9223372036854775807 := by have := rowBytes h1; unfold maxLen at this; omega
  by_cases hb : 1048576 < len
  · go_enter Try.func9, Try.ntmps9
    go_wp2_with (fail)
    go_ret
    exact ⟨rfl, Below.refl _ _⟩
  by_cases hb1 : 1048576 < len1
  · go_enter Try.func9, Try.ntmps9
    go_wp2_with (fail)
    go_ret
    exact ⟨rfl, Below.refl _ _⟩
  have hd0 : decide (1048576 < (len : Int)) = false := by simp; omega
  have hd1 : decide (1048576 < (len1 : Int)) = false := by simp; omega
  go_enter Try.func9, Try.ntmps9
  go_wp2_with (fail)
  refine (drawNumTimes a len cap zs w h).mono ?_
  rintro e w1 ⟨p, x, y, rfl, _, hB⟩
  by_cases hv : numB p x = true ∧ numB p y = true
  · have hp := (numB_true hv.1).1
    have hpb := prime_ge hp
    have hz : 0 ≤ numTimes p x y := by rw [numTimes_ok hv.1 hv.2]; exact Int.emod_nonneg _ (by omega)
    have hcv : numB p ((len1 : Int) % p) = true := numB_emod hp _
    have ha := times_add hv.1 hv.2 hcv
    have hcm := numTimes_comm p y x
    have hze : (numTimes p x y == 0) = (x == 0 || y == 0) := by
      rw [numTimes_ok hv.1 hv.2]
      by_cases hx0 : x = 0
      · simp [hx0]
      by_cases hy0 : y = 0
      · simp [hy0]
      have : x * y % p ≠ 0 := fun hh => by rcases times_zero hv.1 hv.2 hh with h | h <;> contradiction
      rw [beq_eq_false_iff_ne.2 this, beq_eq_false_iff_ne.2 hx0, beq_eq_false_iff_ne.2 hy0]; rfl
    obtain ⟨s, hs⟩ : ∃ s : Int, numTimes p x y = s := ⟨_, rfl⟩
    obtain ⟨t, ht⟩ : ∃ t : Int, numTimes p x ((len1 : Int) % p) = t := ⟨_, rfl⟩
    obtain ⟨u, hu⟩ : ∃ u : Int, numAdd p y ((len1 : Int) % p) = u := ⟨_, rfl⟩
    obtain ⟨v, hvv⟩ : ∃ v : Int, numAdd p s t = v := ⟨_, rfl⟩
    rw [hs] at ha hcm hz hze
    rw [hu, ht, hvv] at ha
    have hd2 : decide (s < 0) = false := by simp; omega
    obtain ⟨b1, e1⟩ : ∃ b1, (x == 0) = b1 := ⟨_, rfl⟩
    obtain ⟨b2, e2⟩ : ∃ b2, (y == 0) = b2 := ⟨_, rfl⟩
    rw [e1, e2] at hze
    cases b1 <;> cases b2
    all_goals
      simp only [Bool.or_true, Bool.or_false] at hze
      have H1 := Lib.hid hs
      have H2 := Lib.hid ht
      have H3 := Lib.hid hu
      have H4 := Lib.hid ha
      have H5 := Lib.hid hcm
      have H6 := Lib.hid hvv
      clear hv hp hs ht hu ha hcm hcv hvv
      go_wp2_with (first | (go_at_call 27; refine (specNumTimes _ _ _ _).mono ?_; rintro e w' ⟨rfl, rfl⟩; rw [H1.out]) | (go_at_call 26; refine (implNumTimes _ _ _ _).mono ?_; rintro e w' ⟨rfl, rfl⟩; first | rw [H1.out] | rw [H5.out] | rw [H2.out] | rw [H4.out]) | (go_at_call 23; refine (implNumAdd _ _ _ _).mono ?_; rintro e w' ⟨rfl, rfl⟩; first | rw [H3.out] | rw [H6.out]))
      go_ret
      exact ⟨rfl, hB⟩
  · have hs := numTimes_no hv
    have H1 := Lib.hid hs
    clear hs hv
    go_wp2_with (first | (go_at_call 27; refine (specNumTimes _ _ _ _).mono ?_; rintro e w' ⟨rfl, rfl⟩; rw [H1.out]) | (go_at_call 18; refine (alive _).mono ?_; rintro e w' ⟨rfl, rfl⟩) | (go_at_call 26; refine (implNumTimes _ _ _ _).mono ?_; rintro e w' ⟨rfl, rfl⟩; rw [H1.out]))
    go_ret
    exact ⟨rfl, hB⟩
end Go.Proofs.Ytpelokdgjdljfaa

/-
  The contracts of the laws' comparisons of rows and of matrices.
-/
import Derived.Test.YtegkmolffemkpaaEq
namespace Go.Proofs.Ytegkmolffemkpaa
open Go.RowKit
theorem sameIntsC (A : Option Addr) (n c b o : Nat) (xs : List Int) (A' : Option Addr) (n' c' b' o' : Nat) (ys : List Int) (w : World) (h : IA w A n b o xs) (h' : IA w A' n' b' o' ys) :
    Calls Try.prog 66 #[.slice A n c, .slice A' n' c'] w (BoolPost (decide (xs = ys)) w) := by
  have hbig := h.big
  have hbig' := h'.big
  have H := Lib.hid h
  have H' := Lib.hid h'
  clear h h'
  by_cases hn : n = n'
  · subst hn
    have hq : ((n : Int) != (n : Int)) = false := by simp
    go_enter Try.func66, Try.ntmps66
    go_wp2_with (fail)
    go_loopw [5] (fun i wr => ∃ k : Nat, k ≤ n ∧ i = .int .i64 k ∧ Hid (xs.take k = ys.take k) ∧ Hid (∃ m, wr = w.drewN m)) (fun i _ => n - (intOf i).toNat)
    case atStart => exact ⟨0, by omega, rfl, rfl, 0, rfl⟩
    case round =>
      obtain ⟨k, hk, rfl, heq, hw⟩ := hrel
      by_cases hlt : k < n
      · obtain rfl := H.out.adr (by omega)
        obtain rfl := H'.out.adr (by omega)
        obtain ⟨x, hx, hc⟩ := (H.out.drewN hw.out).cell k hlt
        obtain ⟨y, hy, hc'⟩ := (H'.out.drewN hw.out).cell k hlt
        have HX := Lib.hid hx
        have HY := Lib.hid hy
        clear hx hy
        have hne : (x = y ∧ (x != y) = false) ∨ (x ≠ y ∧ (x != y) = true) := by
          by_cases h : x = y
          · exact .inl ⟨h, by simp [h]⟩
          · exact .inr ⟨h, by simp [h]⟩
        rcases hne with ⟨hxy, hb⟩ | ⟨hxy, hb⟩
        · have HE := Lib.hid hxy
          clear hxy
          go_wp2_with (fail)
          go_quiet (fail)
          go_wp2_with (fail)
          go_roundw
          case rel => exact ⟨k + 1, by omega, by go_num, take_eq_step heq.out HX.out (HE.out ▸ HY.out), drewN_more hw.out _⟩
          case measure => simp [intOf]; omega
        · have HE := Lib.hid hxy
          clear hxy
          go_wp2_with (fail)
          go_quiet (fail)
          go_wp2_with (fail)
          go_ret
          exact ⟨ret_bool (decide_eq_false (ne_of_at HX.out HY.out HE.out)).symm, drewN_more hw.out _⟩
      · have HE := Lib.hid (show xs = ys by
          have := heq.out
          rwa [List.take_of_length_le (by rw [H.out.len]; omega), List.take_of_length_le (by rw [H'.out.len]; omega)] at this)
        go_wp2_with (fail)
        go_ret
        exact ⟨ret_bool (decide_eq_true HE.out).symm, hw.out⟩
  · have hq := neInt hn
    have HE := Lib.hid (show xs ≠ ys by rintro rfl; exact hn (H.out.len.symm.trans H'.out.len))
    go_enter Try.func66, Try.ntmps66
    go_wp2_with (fail)
    go_ret
    exact ⟨ret_bool (decide_eq_false HE.out).symm, 0, rfl⟩
theorem sameRowsC (A : Option Addr) (n c b o : Nat) (xs : List (List Int)) (A' : Option Addr) (n' c' b' o' : Nat) (ys : List (List Int)) (w : World) (h : RA w A n b o xs) (h' : RA w A' n' b' o' ys) :
    Calls Try.prog 67 #[.slice A n c, .slice A' n' c'] w (BoolPost (decide (xs = ys)) w) := by
  have hbig := h.big
  have hbig' := h'.big
  have H := Lib.hid h
  have H' := Lib.hid h'
  clear h h'
  by_cases hn : n = n'
  · subst hn
    have hq : ((n : Int) != (n : Int)) = false := by simp
    go_enter Try.func67, Try.ntmps67
    go_wp2_with (fail)
    go_loopw [5] (fun i wr => ∃ k : Nat, k ≤ n ∧ i = .int .i64 k ∧ Hid (xs.take k = ys.take k) ∧ Hid (∃ m, wr = w.drewN m)) (fun i _ => n - (intOf i).toNat)
    case atStart => exact ⟨0, by omega, rfl, rfl, 0, rfl⟩
    case round =>
      obtain ⟨k, hk, rfl, heq, hw⟩ := hrel
      by_cases hlt : k < n
      · obtain rfl := H.out.adr (by omega)
        obtain rfl := H'.out.adr (by omega)
        obtain ⟨x, A1, c1, b1, o1, hx, hc, hI⟩ := (H.out.drewN hw.out).row k hlt
        obtain ⟨y, A2, c2, b2, o2, hy, hc', hI'⟩ := (H'.out.drewN hw.out).row k hlt
        have HX := Lib.hid hx
        have HY := Lib.hid hy
        have HI := Lib.hid hI
        have HI' := Lib.hid hI'
        clear hx hy hI hI'
        have hcal := fun m => quiet_bool (n := m) (sameIntsC A1 x.length c1 b1 o1 x A2 y.length c2 b2 o2 y (wr.drewN m) (HI.out.drewN ⟨m, rfl⟩) (HI'.out.drewN ⟨m, rfl⟩))
        by_cases hxy : x = y
        · rw [decide_eq_true hxy] at hcal
          have HC := Lib.hid hcal
          have HE := Lib.hid hxy
          clear hxy hcal
          go_wp2_with (fail)
          go_quiet ((go_at_call 66; exact HC.out _))
          go_wp2_with (fail)
          go_roundw
          case rel => exact ⟨k + 1, by omega, by go_num, take_eq_step heq.out HX.out (HE.out ▸ HY.out), drewN_more hw.out _⟩
          case measure => simp [intOf]; omega
        · rw [decide_eq_false hxy] at hcal
          have HC := Lib.hid hcal
          have HE := Lib.hid hxy
          clear hxy hcal
          go_wp2_with (fail)
          go_quiet ((go_at_call 66; exact HC.out _))
          go_wp2_with (fail)
          go_ret
          exact ⟨ret_bool (decide_eq_false (ne_of_at HX.out HY.out HE.out)).symm, drewN_more hw.out _⟩
      · have HE := Lib.hid (show xs = ys by
          have := heq.out
          rwa [List.take_of_length_le (by rw [H.out.len]; omega), List.take_of_length_le (by rw [H'.out.len]; omega)] at this)
        go_wp2_with (fail)
        go_ret
        exact ⟨ret_bool (decide_eq_true HE.out).symm, hw.out⟩
  · have hq := neInt hn
    have HE := Lib.hid (show xs ≠ ys by rintro rfl; exact hn (H.out.len.symm.trans H'.out.len))
    go_enter Try.func67, Try.ntmps67
    go_wp2_with (fail)
    go_ret
    exact ⟨ret_bool (decide_eq_false HE.out).symm, 0, rfl⟩
end Go.Proofs.Ytegkmolffemkpaa

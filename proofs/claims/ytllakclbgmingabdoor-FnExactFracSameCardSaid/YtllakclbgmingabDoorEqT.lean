/-
  The contract of slices.Equal over terms.
-/
import Derived.Test.YtllakclbgmingabDoorTi
import Derived.Test.YtllakclbgmingabDoorEq
namespace Go.Proofs.YtllakclbgmingabDoor
open Go.RowKit
theorem equalT_any (p : Int) (A : Option Addr) (n c b : Nat) (xs : List Int) (A' : Option Addr) (n' c' b' : Nat) (ys : List Int) (w : World) (h : IT w A n c b p xs) (h' : IT w A' n' c' b' p ys) :
    Calls Tryd.prog 53 #[.slice A n c, .slice A' n' c'] w (BoolPost (decide (xs = ys)) w) := by
  have hbig := h.big
  have hbig' := h'.big
  have hcap := h.capn
  have hcap' := h'.capn
  have H := Lib.hid h
  have H' := Lib.hid h'
  clear h h'
  by_cases hn : n = n'
  · subst hn
    have hq : ((n : Int) != (n : Int)) = false := by simp
    go_enter Tryd.func53, Tryd.ntmps53
    go_wp2_with (fail)
    go_loopw [13] (fun i wr => ∃ k : Nat, k ≤ n ∧ i = .int .i64 k ∧ Hid (xs.take k = ys.take k) ∧ Hid (∃ m, wr = w.drewN m)) (fun i _ => n - (intOf i).toNat)
    case atStart => exact ⟨0, by omega, rfl, rfl, 0, rfl⟩
    case round =>
      obtain ⟨k, hk, rfl, heq, hw⟩ := hrel
      obtain ⟨mm, rfl⟩ := hw.out
      by_cases hlt : k < n
      · obtain rfl : A = some ⟨b, 0, none⟩ := by rcases H.out.adr with ⟨_, h1, _⟩ | h1 <;> first | omega | exact h1
        obtain rfl : A' = some ⟨b', 0, none⟩ := by rcases H'.out.adr with ⟨_, h1, _⟩ | h1 <;> first | omega | exact h1
        obtain ⟨x, hx, hxp, hxc⟩ := H.out.cell k hlt
        obtain ⟨y, hy, hyp, hyc⟩ := H'.out.cell k hlt
        have HX := Lib.hid hx
        have HY := Lib.hid hy
        clear hx hy
        have hne : (x = y ∧ (x != y) = false) ∨ (x ≠ y ∧ (x != y) = true) := by
          by_cases h : x = y
          · exact .inl ⟨h, by simp [h]⟩
          · exact .inr ⟨h, by simp [h]⟩
        have hpp : (p == p) = true := by simp
        rcases hne with ⟨hxy, hb⟩ | ⟨hxy, hb⟩
        · have HE := Lib.hid hxy
          have hb2 : (x == y) = true := by simpa using hxy
          clear hxy
          go_wp2_with (fail)
          go_quiet (fail)
          go_wp2_with (fail)
          go_roundw
          case rel => exact ⟨k + 1, by omega, by go_num, take_eq_step heq.out HX.out (HE.out ▸ HY.out), Lib.hid ⟨_, rfl⟩⟩
          case measure => simp [intOf]; omega
        · have HE := Lib.hid hxy
          have hb2 : (x == y) = false := by simpa using hxy
          clear hxy
          go_wp2_with (fail)
          go_quiet (fail)
          go_wp2_with (fail)
          go_ret
          exact ⟨ret_bool (decide_eq_false (ne_of_at HX.out HY.out HE.out)).symm, drewN_more ⟨mm, rfl⟩ _⟩
      · have HE := Lib.hid (show xs = ys by
          have := heq.out
          rwa [List.take_of_length_le (by rw [H.out.len]; omega), List.take_of_length_le (by rw [H'.out.len]; omega)] at this)
        go_wp2_with (fail)
        go_ret
        exact ⟨ret_bool (decide_eq_true HE.out).symm, mm, rfl⟩
  · have hq := neInt hn
    have HE := Lib.hid (show xs ≠ ys by rintro rfl; exact hn (H.out.len.symm.trans H'.out.len))
    go_enter Tryd.func53, Tryd.ntmps53
    go_wp2_with (fail)
    go_ret
    exact ⟨ret_bool (decide_eq_false HE.out).symm, 0, rfl⟩
end Go.Proofs.YtllakclbgmingabDoor

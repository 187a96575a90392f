/-
  The contracts of the exact laws' comparisons.
-/
import Derived.Test.YtegkmolffemkpaaCopy
namespace Go.Proofs.Ytegkmolffemkpaa
open Go.RowKit
theorem IA.drewN {w : World} {A : Option Addr} {n b o : Nat} {xs : List Int} (h : IA w A n b o xs) {w' : World} (hw : ∃ m, w' = w.drewN m) : IA w' A n b o xs := by
  obtain ⟨m, rfl⟩ := hw; exact h.keep (drewN_keep (S := fun _ => False) w m) (fun _ _ h => h)
def BoolPost (t : Bool) (w : World) (e : Ending) (w' : World) : Prop := e = .returned (.bool t) ∧ ∃ m, w' = w.drewN m
theorem take_eq_step {α : Type} {xs ys : List α} {k : Nat} {x : α} (h : xs.take k = ys.take k) (hx : xs[k]? = some x) (hy : ys[k]? = some x) : xs.take (k + 1) = ys.take (k + 1) := by
  rw [List.take_add_one, List.take_add_one, h, hx, hy]
theorem ne_of_at {α : Type} {xs ys : List α} {k : Nat} {x y : α} (hx : xs[k]? = some x) (hy : ys[k]? = some y) (hne : x ≠ y) : xs ≠ ys := by
  rintro rfl; rw [hx] at hy; exact hne (Option.some.inj hy)
theorem eqIntS (A : Option Addr) (n c b o : Nat) (xs : List Int) (A' : Option Addr) (n' c' b' o' : Nat) (ys : List Int) (w : World) (h : IA w A n b o xs) (h' : IA w A' n' b' o' ys) :
    Calls Try.prog 27 #[.slice A n c, .slice A' n' c'] w (BoolPost (decide (xs = ys)) w) := by
  have hbig := h.big
  have hbig' := h'.big
  have H := Lib.hid h
  have H' := Lib.hid h'
  clear h h'
  by_cases hn : n = n'
  · subst hn
    have hq : ((n : Int) != (n : Int)) = false := by simp
    go_enter Try.func27, Try.ntmps27
    go_wp2_with (fail)
    go_loopw [5] (fun i wr => ∃ k : Nat, k ≤ n ∧ i = .int .i64 k ∧ Hid (xs.take k = ys.take k) ∧ Hid (∃ m, wr = w.drewN m)) (fun i _ => n - (intOf i).toNat)
    case atStart => exact ⟨0, by omega, rfl, rfl, 0, rfl⟩
    case round =>
      obtain ⟨k, hk, rfl, heq, hw⟩ := hrel
      by_cases hlt : k < n
      · obtain rfl := H.out.adr (by omega)
        obtain rfl := H'.out.adr (by omega)
        obtain ⟨x, hx, hc⟩ := (H.out.drewN hw.out).cell k hlt
        obtain ⟨y, hy, hc'⟩ := (H'.out.drewN hw.out).cell k hlt
        have HX := Lib.hid hx
        have HY := Lib.hid hy
        clear hx hy
        have hne : (x = y ∧ (x != y) = false) ∨ (x ≠ y ∧ (x != y) = true) := by
          by_cases h : x = y
          · exact .inl ⟨h, by simp [h]⟩
          · exact .inr ⟨h, by simp [h]⟩
        rcases hne with ⟨hxy, hb⟩ | ⟨hxy, hb⟩
        · have HE := Lib.hid hxy
          clear hxy
          go_wp2_with (fail)
          go_quiet (fail)
          go_wp2_with (fail)
          go_roundw
          case rel => exact ⟨k + 1, by omega, by go_num, take_eq_step heq.out HX.out (HE.out ▸ HY.out), drewN_more hw.out _⟩
          case measure => simp [intOf]; omega
        · have HE := Lib.hid hxy
          clear hxy
          go_wp2_with (fail)
          go_quiet (fail)
          go_wp2_with (fail)
          go_ret
          exact ⟨ret_bool (decide_eq_false (ne_of_at HX.out HY.out HE.out)).symm, drewN_more hw.out _⟩
      · have HE := Lib.hid (show xs = ys by
          have := heq.out
          rwa [List.take_of_length_le (by rw [H.out.len]; omega), List.take_of_length_le (by rw [H'.out.len]; omega)] at this)
        go_wp2_with (fail)
        go_ret
        exact ⟨ret_bool (decide_eq_true HE.out).symm, hw.out⟩
  · have hq := neInt hn
    have HE := Lib.hid (show xs ≠ ys by rintro rfl; exact hn (H.out.len.symm.trans H'.out.len))
    go_enter Try.func27, Try.ntmps27
    go_wp2_with (fail)
    go_ret
    exact ⟨ret_bool (decide_eq_false HE.out).symm, 0, rfl⟩
theorem quiet_bool {P : Program} {f : FuncId} {args : Array Value} {w : World} {n : Nat} {t : Bool} (h : Calls P f args (w.drewN n) (BoolPost t (w.drewN n))) :
    Calls P f args (w.drewN n) fun e w'' => e = .returned (.bool t) ∧ ∃ m, w'' = w.drewN m := h.mono fun _ _ ⟨he, m, hw⟩ => ⟨he, n + m, by rw [hw, World.drewN_drewN]⟩
theorem eqIntSS (A : Option Addr) (n c b o : Nat) (xs : List (List Int)) (A' : Option Addr) (n' c' b' o' : Nat) (ys : List (List Int)) (w : World) (h : RA w A n b o xs) (h' : RA w A' n' b' o' ys) :
    Calls Try.prog 56 #[.slice A n c, .slice A' n' c'] w (BoolPost (decide (xs = ys)) w) := by
  have hbig := h.big
  have hbig' := h'.big
  have H := Lib.hid h
  have H' := Lib.hid h'
  clear h h'
  by_cases hn : n = n'
  · subst hn
    have hq : ((n : Int) != (n : Int)) = false := by simp
    go_enter Try.func56, Try.ntmps56
    go_wp2_with (fail)
    go_loopw [5] (fun i wr => ∃ k : Nat, k ≤ n ∧ i = .int .i64 k ∧ Hid (xs.take k = ys.take k) ∧ Hid (∃ m, wr = w.drewN m)) (fun i _ => n - (intOf i).toNat)
    case atStart => exact ⟨0, by omega, rfl, rfl, 0, rfl⟩
    case round =>
      obtain ⟨k, hk, rfl, heq, hw⟩ := hrel
      by_cases hlt : k < n
      · obtain rfl := H.out.adr (by omega)
        obtain rfl := H'.out.adr (by omega)
        obtain ⟨x, A1, c1, b1, o1, hx, hc, hI⟩ := (H.out.drewN hw.out).row k hlt
        obtain ⟨y, A2, c2, b2, o2, hy, hc', hI'⟩ := (H'.out.drewN hw.out).row k hlt
        have HX := Lib.hid hx
        have HY := Lib.hid hy
        have HI := Lib.hid hI
        have HI' := Lib.hid hI'
        clear hx hy hI hI'
        have hcal := fun m => quiet_bool (n := m) (eqIntS A1 x.length c1 b1 o1 x A2 y.length c2 b2 o2 y (wr.drewN m) (HI.out.drewN ⟨m, rfl⟩) (HI'.out.drewN ⟨m, rfl⟩))
        by_cases hxy : x = y
        · rw [decide_eq_true hxy] at hcal
          have HC := Lib.hid hcal
          have HE := Lib.hid hxy
          clear hxy hcal
          go_wp2_with (fail)
          go_quiet ((go_at_call 27; exact HC.out _))
          go_wp2_with (fail)
          go_roundw
          case rel => exact ⟨k + 1, by omega, by go_num, take_eq_step heq.out HX.out (HE.out ▸ HY.out), drewN_more hw.out _⟩
          case measure => simp [intOf]; omega
        · rw [decide_eq_false hxy] at hcal
          have HC := Lib.hid hcal
          have HE := Lib.hid hxy
          clear hxy hcal
          go_wp2_with (fail)
          go_quiet ((go_at_call 27; exact HC.out _))
          go_wp2_with (fail)
          go_ret
          exact ⟨ret_bool (decide_eq_false (ne_of_at HX.out HY.out HE.out)).symm, drewN_more hw.out _⟩
      · have HE := Lib.hid (show xs = ys by
          have := heq.out
          rwa [List.take_of_length_le (by rw [H.out.len]; omega), List.take_of_length_le (by rw [H'.out.len]; omega)] at this)
        go_wp2_with (fail)
        go_ret
        exact ⟨ret_bool (decide_eq_true HE.out).symm, hw.out⟩
  · have hq := neInt hn
    have HE := Lib.hid (show xs ≠ ys by rintro rfl; exact hn (H.out.len.symm.trans H'.out.len))
    go_enter Try.func56, Try.ntmps56
    go_wp2_with (fail)
    go_ret
    exact ⟨ret_bool (decide_eq_false HE.out).symm, 0, rfl⟩
theorem below_drawn {B : Nat} {w w1 w2 : World} (h : Below B w w1) (hm : ∃ m, w2 = w1.drewN m) : Below B w w2 := by
  obtain ⟨m, rfl⟩ := hm; exact ⟨h.os, h.tape, h.output, h.size, h.block⟩
/-- 'Below' at the first world's size, one call more -/
theorem below_more {w w1 w2 : World} (h : Below w.heap.size w w1) (h2 : Below w1.heap.size w1 w2) : Below w.heap.size w w2 := h.trans (h2.mono h.size)
end Go.Proofs.Ytegkmolffemkpaa

/-
  The contracts of slices.Clone over numbers, RecTimes of the program.
-/
import Derived.Deep.RegionHeld3
import Derived.Test.YtllakclbgmingaaBxs
import Derived.Test.YtllakclbgmingaaSRPol
import Derived.Test.YtllakclbgmingaaElim
namespace Go.Proofs.Ytllakclbgmingaa
open Go.RowKit
theorem mixI_set {xs ys : List Int} {k : Nat} {y : Int} (hl : ys.length = xs.length) (hy : ys[k]? = some y) : (ys.take k ++ xs.drop k).set k y = ys.take (k + 1) ++ xs.drop (k + 1) := set_step ys xs k y hl hy
def RowPostI (B n c : Nat) (A : Option Addr) (ys : List Int) (w : World) (e : Ending) (w' : World) : Prop :=
  e = .returned (.tuple #[]) ∧ OI w' B A n c ys ∧ Keep (fun g => (Value.slice A n c).ownBlock = some g) w w'
theorem scaleI_get {p t : Int} {row : List Int} {k : Nat} {x : Int} (h : row[k]? = some x) : (scaleRow p t row)[k]? = some (x * t % p) := by simp [scaleRow, h]
theorem nilI1 (A : Addr) (n c : Nat) : ∀ w, (binOp BinOp.eql 23 (Value.slice (some A) n c) (Value.slice none 0 0)).run Try.prog w = .ok (.bool false) w := by
  intro w
  first | kernel_rfl | rfl
theorem nilI0 (n c : Nat) : ∀ w, (binOp BinOp.eql 23 (Value.slice none n c) (Value.slice none 0 0)).run Try.prog w = .ok (.bool true) w := by
  intro w
  first | kernel_rfl | rfl
theorem cloneI_any (A : Option Addr) (n c b o : Nat) (xs : List Int) (w : World) (h : IA w A n b o xs) (hn : n ≤ 1000000) :
    Calls Try.prog 42 #[.slice A n c] w (MadeI n xs w) := by
  have HL := Lib.hid h.len
  have H := Lib.hid h
  cases A with
  | none =>
    have h0 : n = 0 := by
      by_cases h0 : n = 0
      · exact h0
      · have := h.adr (by omega); cases this
    clear h
    subst h0
    have HX := Lib.hid (List.eq_nil_of_length_eq_zero HL.out)
    have hq := nilI0 0 c
    go_enter Try.func42, Try.ntmps42
    go_wp2_with (fail)
    go_ret
    rw [HX.out]
    exact ⟨none, 0, rfl, World.ownsRow_nil _ _ _ _, Below.refl _ _⟩
  | some a =>
    clear h
    have hq := nilI1 a n c
    go_enter Try.func42, Try.ntmps42
    go_wp2_with (at_builtin; refine wpList_app_row rfl (.tmp 5) (.tmp 6) rfl rfl w.heap.size w.heap.size 0 0 [] rfl (oi_empty w _ (Nat.le_refl _)) (some a) n c b o xs rfl (H.out.below ((Below.refl _ _).alloc (Nat.le_refl _) _)) (by simp) (by omega) (by simp) ?_)
    intro A' c' w' h2 h3
    have HO := Lib.hid h2
    have HB := Lib.hid (((Below.refl w.heap.size w).alloc (Nat.le_refl _) (.cells #[] 3)).grown h3 (by simp) (by intro k hk; simp at hk; omega))
    clear h2 h3
    go_wp2_with (fail)
    go_ret
    exact ⟨A', c', rfl, HO.out, HB.out⟩
def timesO (p : Int) (T F : List Int) (t : Int) : Int × List Int × List Int := if recB p T F = true ∧ numB p t = true then (p, T, scaleRow p t F) else (0, [], [])
theorem timesO_len (p : Int) (T F : List Int) (t : Int) : (timesO p T F t).2.1.length ≤ 1048576 ∧ (timesO p T F t).2.2.length ≤ 1048576 := by
  unfold timesO
  split
  · rename_i h
    obtain ⟨_, h6, hl, _, _⟩ := recB_true h.1
    simp only [scaleRow_len]
    omega
  · simp
end Go.Proofs.Ytllakclbgmingaa

/-
  The contract of slices.Clone over integers.
-/
import Derived.Test.YtegkmolffemkpaaApA
import Derived.Test.YtegkmolffemkpaaEx
namespace Go.Proofs.Ytegkmolffemkpaa
open Go.RowKit
theorem nilC1 (A : Addr) (n c : Nat) : ∀ w, (binOp BinOp.eql 23 (Value.slice (some A) n c) (Value.slice none 0 0)).run Try.prog w = .ok (.bool false) w := by
  intro w
  first | kernel_rfl | rfl
theorem nilC0 (n c : Nat) : ∀ w, (binOp BinOp.eql 23 (Value.slice none n c) (Value.slice none 0 0)).run Try.prog w = .ok (.bool true) w := by
  intro w
  first | kernel_rfl | rfl
theorem clone_any (A : Option Addr) (n c b o : Nat) (xs : List Int) (w : World) (h : IA w A n b o xs) (hn : n ≤ 1000000) :
    Calls Try.prog 64 #[.slice A n c] w (MadeI n xs w) := by
  have HL := Lib.hid h.len
  have H := Lib.hid h
  cases A with
  | none =>
    have h0 : n = 0 := by
      by_cases h0 : n = 0
      · exact h0
      · have := h.adr (by omega); cases this
    clear h
    subst h0
    have HX := Lib.hid (List.eq_nil_of_length_eq_zero HL.out)
    have hq := nilC0 0 c
    go_enter Try.func64, Try.ntmps64
    go_wp2_with (fail)
    go_ret
    rw [HX.out]
    exact ⟨none, 0, rfl, World.ownsRow_nil _ _ _ _, Below.refl _ _⟩
  | some a =>
    clear h
    have hq := nilC1 a n c
    go_enter Try.func64, Try.ntmps64
    go_wp2_with (at_builtin; refine wpList_app_any rfl (.tmp 5) (.tmp 6) rfl rfl (some a) n c b o xs rfl H.out (by omega) ?_)
    intro A' c' w' h2 h3
    have HO := Lib.hid h2
    have HB := Lib.hid h3
    clear h2 h3
    go_wp2_with (fail)
    go_ret
    exact ⟨A', c', rfl, HO.out, HB.out⟩
end Go.Proofs.Ytegkmolffemkpaa

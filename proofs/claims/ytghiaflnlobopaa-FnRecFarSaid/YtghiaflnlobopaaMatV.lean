/-
  The contracts of allValid and of MatValid, of the program and of its model.
-/
import Derived.Test.YtghiaflnlobopaaMem
import Derived.Test.YtghiaflnlobopaaNum
import Derived.BigQuiet
import Derived.Deep.QuietTactic
import Derived.Outline
import Derived.WalkLawsBesides
namespace Go.Proofs.Ytghiaflnlobopaa
open Go.RowKit
def rowB (p : Int) (row : List Int) : Bool := row.all (numB p)
theorem allValid_any (p : Int) (A : Option Addr) (n c b o : Nat) (xs : List Int) (w : World) (h : IA w A n b o xs) :
    Calls Try.prog 28 #[.int .i64 p, .slice A n c] w fun e w' => e = .returned (.bool (rowB p xs)) ∧ w = w' := by
  have hbig := h.big
  have H := Lib.hid h
  clear h
  go_enter Try.func28, Try.ntmps28
  go_wp2_with (fail)
  go_loop [9] (fun i => ∃ k : Nat, k ≤ n ∧ i = .int .i64 k ∧ Hid ((xs.take k).all (numB p) = true)) (fun i => n - (intOf i).toNat)
  case atStart => exact ⟨0, by omega, rfl, by simp [Hid]⟩
  case round =>
    obtain ⟨k, hk, rfl, hall⟩ := hrel
    by_cases hlt : k < n
    · obtain rfl := H.out.adr (by omega)
      obtain ⟨x, hx, hc⟩ := H.out.cell k hlt
      have HX := Lib.hid hx
      clear hx
      rcases hv : numB p x
      · have HV := Lib.hid hv
        clear hv
        go_wp2_with (go_at_call 41; refine (implNumValid _ _ _).mono ?_; rintro e w' ⟨rfl, rfl⟩; rw [HV.out])
        go_ret
        exact ⟨ret_bool (all_fail _ _ _ _ HX.out HV.out).symm, rfl⟩
      · have HV := Lib.hid hv
        clear hv
        go_wp2_with (go_at_call 41; refine (implNumValid _ _ _).mono ?_; rintro e w' ⟨rfl, rfl⟩; rw [HV.out])
        go_round
        case rel => exact ⟨k + 1, by omega, by go_num, by unfold Hid; rw [all_take _ _ _ _ HX.out, HV.out, hall.out]; rfl⟩
        case measure => simp [intOf]; omega
    · go_wp2_with (fail)
      go_ret
      exact ⟨ret_bool (all_done _ _ k (by rw [H.out.len]; omega) hall.out).symm, rfl⟩
def rowOk (p : Int) (l : Nat) (row : List Int) : Bool := decide (row.length = l) && rowB p row
def matB (p : Int) (M : List (List Int)) : Bool :=
  decide (1 ≤ M.length ∧ M.length ≤ 8 ∧ 1 ≤ (M.headD []).length ∧ (M.headD []).length ≤ 8) && M.all (rowOk p (M.headD []).length)
theorem matB_true {p : Int} {M : List (List Int)} (h : matB p M = true) : 1 ≤ M.length ∧ M.length ≤ 8 ∧ 1 ≤ (M.headD []).length ∧ (M.headD []).length ≤ 8 ∧ ∀ row ∈ M, row.length = (M.headD []).length ∧ ∀ x ∈ row, numB p x = true := by
  simp only [matB, Bool.and_eq_true, decide_eq_true_eq, List.all_eq_true, rowOk, rowB] at h
  obtain ⟨⟨h1, h2, h3, h4⟩, h5⟩ := h
  exact ⟨h1, h2, h3, h4, h5⟩
theorem headD_of {M : List (List Int)} {row : List Int} (h : M[0]? = some row) : M.headD [] = row := by
  cases M with
  | nil => simp at h
  | cons a l => simpa using h
theorem matB_size {p : Int} {M : List (List Int)} (h : ¬ (1 ≤ M.length ∧ M.length ≤ 8 ∧ 1 ≤ (M.headD []).length ∧ (M.headD []).length ≤ 8)) : matB p M = false := by
  simp only [matB, h, decide_false, Bool.false_and]
theorem matB_of {p : Int} {M : List (List Int)} (h : 1 ≤ M.length ∧ M.length ≤ 8 ∧ 1 ≤ (M.headD []).length ∧ (M.headD []).length ≤ 8) : matB p M = M.all (rowOk p (M.headD []).length) := by
  simp only [matB, h, decide_true, Bool.true_and, and_self]
theorem neInt {a b : Nat} (h : a ≠ b) : ((a : Int) != (b : Int)) = true := by simp [bne_iff_ne]; omega
theorem eqInt {a b : Nat} (h : a = b) : ((a : Int) != (b : Int)) = false := by subst h; simp
end Go.Proofs.Ytghiaflnlobopaa

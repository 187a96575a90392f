/-
  The contracts of allValid and of MatValid, of the program and of its model.
-/
import Derived.Test.YtegkmolffemkpaaMem
import Derived.Test.YtegkmolffemkpaaNum
import Derived.BigQuiet
import Derived.Deep.QuietTactic
import Derived.Outline
import Derived.WalkLawsBesides
namespace Go.Proofs.Ytegkmolffemkpaa
open Go.RowKit
def rowB (p : Int) (row : List Int) : Bool := row.all (numB p)
theorem allValid_any (p : Int) (A : Option Addr) (n c b o : Nat) (xs : List Int) (w : World) (h : IA w A n b o xs) :
    Calls Try.prog 49 #[.int .i64 p, .slice A n c] w fun e w' => e = .returned (.bool (rowB p xs)) ∧ w = w' := by
  have hbig := h.big
  have H := Lib.hid h
  clear h
  go_enter Try.func49, Try.ntmps49
  go_wp2_with (fail)
  go_loop [9] (fun i => ∃ k : Nat, k ≤ n ∧ i = .int .i64 k ∧ Hid ((xs.take k).all (numB p) = true)) (fun i => n - (intOf i).toNat)
  case atStart => exact ⟨0, by omega, rfl, by simp [Hid]⟩
  case round =>
    obtain ⟨k, hk, rfl, hall⟩ := hrel
    by_cases hlt : k < n
    · obtain rfl := H.out.adr (by omega)
      obtain ⟨x, hx, hc⟩ := H.out.cell k hlt
      have HX := Lib.hid hx
      clear hx
      rcases hv : numB p x
      · have HV := Lib.hid hv
        clear hv
        go_wp2_with (go_at_call 31; refine (implNumValid _ _ _).mono ?_; rintro e w' ⟨rfl, rfl⟩; rw [HV.out])
        go_ret
        exact ⟨ret_bool (all_fail _ _ _ _ HX.out HV.out).symm, rfl⟩
      · have HV := Lib.hid hv
        clear hv
        go_wp2_with (go_at_call 31; refine (implNumValid _ _ _).mono ?_; rintro e w' ⟨rfl, rfl⟩; rw [HV.out])
        go_round
        case rel => exact ⟨k + 1, by omega, by go_num, by unfold Hid; rw [all_take _ _ _ _ HX.out, HV.out, hall.out]; rfl⟩
        case measure => simp [intOf]; omega
    · go_wp2_with (fail)
      go_ret
      exact ⟨ret_bool (all_done _ _ k (by rw [H.out.len]; omega) hall.out).symm, rfl⟩
def rowOk (p : Int) (l : Nat) (row : List Int) : Bool := decide (row.length = l) && rowB p row
def matB (p : Int) (M : List (List Int)) : Bool :=
  decide (1 ≤ M.length ∧ M.length ≤ 8 ∧ 1 ≤ (M.headD []).length ∧ (M.headD []).length ≤ 8) && M.all (rowOk p (M.headD []).length)
theorem matB_true {p : Int} {M : List (List Int)} (h : matB p M = true) : 1 ≤ M.length ∧ M.length ≤ 8 ∧ 1 ≤ (M.headD []).length ∧ (M.headD []).length ≤ 8 ∧ ∀ row ∈ M, row.length = (M.headD []).length ∧ ∀ x ∈ row, numB p x = true := by
  simp only [matB, Bool.and_eq_true, decide_eq_true_eq, List.all_eq_true, rowOk, rowB] at h
  obtain ⟨⟨h1, h2, h3, h4⟩, h5⟩ := h
  exact ⟨h1, h2, h3, h4, h5⟩
theorem headD_of {M : List (List Int)} {row : List Int} (h : M[0]? = some row) : M.headD [] = row := by
  cases M with
  | nil => simp at h
  | cons a l => simpa using h
theorem matB_size {p : Int} {M : List (List Int)} (h : ¬ (1 ≤ M.length ∧ M.length ≤ 8 ∧ 1 ≤ (M.headD []).length ∧ (M.headD []).length ≤ 8)) : matB p M = false := by
  simp only [matB, h, decide_false, Bool.false_and]
theorem matB_of {p : Int} {M : List (List Int)} (h : 1 ≤ M.length ∧ M.length ≤ 8 ∧ 1 ≤ (M.headD []).length ∧ (M.headD []).length ≤ 8) : matB p M = M.all (rowOk p (M.headD []).length) := by
  simp only [matB, h, decide_true, Bool.true_and, and_self]
theorem neInt {a b : Nat} (h : a ≠ b) : ((a : Int) != (b : Int)) = true := by simp [bne_iff_ne]; omega
theorem eqInt {a b : Nat} (h : a = b) : ((a : Int) != (b : Int)) = false := by subst h; simp
theorem implMatValid (p : Int) (A : Option Addr) (n c b o : Nat) (M : List (List Int)) (w : World) (h : RA w A n b o M) :
    Calls Try.prog 88 #[.int .i64 p, .slice A n c] w fun e w' => e = .returned (.bool (matB p M)) ∧ w = w' := by
  have hbig := h.big
  have hlen := h.len
  by_cases h1 : n < 1
  · have hf : matB p M = false := matB_size (by omega)
    have HF := Lib.hid hf
    clear h hf hlen
    go_enter Try.func88, Try.ntmps88
    go_wp2_with (fail)
    go_ret
    exact ⟨ret_bool HF.out.symm, rfl⟩
  obtain ⟨row0, A0, c0, b0, o0, hr0, hc0, hI0⟩ := h.row 0 (by omega)
  obtain rfl := h.adr (by omega)
  have hh := headD_of hr0
  have hbig0 := hI0.big
  simp only [Nat.add_zero] at hc0
  by_cases h8 : 8 < n
  · have hf : matB p M = false := matB_size (by omega)
    have HF := Lib.hid hf
    clear h hf hlen hr0 hh hI0
    go_enter Try.func88, Try.ntmps88
    go_wp2_with (fail)
    go_ret
    exact ⟨ret_bool HF.out.symm, rfl⟩
  by_cases hl1 : row0.length < 1
  · have hf : matB p M = false := matB_size (by rw [hh]; omega)
    have HF := Lib.hid hf
    clear h hf hlen hr0 hh hI0
    go_enter Try.func88, Try.ntmps88
    go_wp2_with (fail)
    go_ret
    exact ⟨ret_bool HF.out.symm, rfl⟩
  by_cases hl8 : 8 < row0.length
  · have hf : matB p M = false := matB_size (by rw [hh]; omega)
    have HF := Lib.hid hf
    clear h hf hlen hr0 hh hI0
    go_enter Try.func88, Try.ntmps88
    go_wp2_with (fail)
    go_ret
    exact ⟨ret_bool HF.out.symm, rfl⟩
  have hM : matB p M = M.all (rowOk p row0.length) := by rw [matB_of (by rw [hh]; omega), hh]
  have HM := Lib.hid hM
  have HL := Lib.hid hlen
  have H := Lib.hid h
  clear h hM hlen hr0 hh hI0
  go_enter Try.func88, Try.ntmps88
  go_wp2_with (fail)
  go_loop [31] (fun i => ∃ k : Nat, k ≤ n ∧ i = .int .i64 k ∧ Hid ((M.take k).all (rowOk p row0.length) = true)) (fun i => n - (intOf i).toNat)
  case atStart => exact ⟨0, by omega, rfl, by simp [Hid]⟩
  case round =>
    obtain ⟨k, hk, rfl, hall⟩ := hrel
    by_cases hlt : k < n
    · obtain ⟨row, A1, c1, b1, o1, hr, hc, hI⟩ := H.out.row k hlt
      have hbig1 := hI.big
      have HI := Lib.hid hI
      have HR := Lib.hid hr
      clear hI hr
      by_cases hl : row.length = row0.length
      · have hq := eqInt hl
        rcases hv : rowB p row
        · have HV := Lib.hid hv
          have HQ := Lib.hid hl
          clear hv hl
          go_wp2_with (go_at_call 49; refine (allValid_any p A1 _ c1 b1 o1 row _ HI.out).mono ?_; rintro e w' ⟨rfl, rfl⟩; rw [HV.out])
          go_ret
          exact ⟨ret_bool (by rw [HM.out]; exact (all_fail _ _ _ _ HR.out (by simp [rowOk, HV.out])).symm), rfl⟩
        · have HV := Lib.hid hv
          have HQ := Lib.hid hl
          clear hv hl
          go_wp2_with (go_at_call 49; refine (allValid_any p A1 _ c1 b1 o1 row _ HI.out).mono ?_; rintro e w' ⟨rfl, rfl⟩; rw [HV.out])
          go_round
          case rel => exact ⟨k + 1, by omega, by go_num, by unfold Hid; rw [all_take _ _ _ _ HR.out, hall.out]; simp [rowOk, HV.out, HQ.out]⟩
          case measure => simp [intOf]; omega
      · have hq := neInt hl
        go_wp2_with (fail)
        go_ret
        exact ⟨ret_bool (by rw [HM.out]; exact (all_fail _ _ _ _ HR.out (by simp [rowOk, hl])).symm), rfl⟩
    · go_wp2_with (fail)
      go_ret
      exact ⟨ret_bool (by rw [HM.out]; exact (all_done _ _ k (by rw [HL.out]; omega) hall.out).symm), rfl⟩
end Go.Proofs.Ytegkmolffemkpaa

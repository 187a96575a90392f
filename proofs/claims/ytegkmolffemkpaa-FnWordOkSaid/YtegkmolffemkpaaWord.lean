/-
  Words: the contracts of WordOk, of the program and of its model.
-/
import Derived.Test.YtegkmolffemkpaaRowV
import Derived.Test.YtegkmolffemkpaaEq
namespace Go.Proofs.Ytegkmolffemkpaa
open Go.RowKit
def letB (x : Int) : Bool := inB x 0 1
def wordB (xs : List Int) : Bool := xs.all letB && decide (xs.length ≤ 12)
theorem letB_ne {x : Int} (h : letB x = false) : (x != 0) = true ∧ (x != 1) = true := by
  simp only [letB, inB, Bool.and_eq_false_imp, decide_eq_true_eq, decide_eq_false_iff_not] at h
  constructor
  · simp only [bne_iff_ne]; rintro rfl; exact absurd (h (by omega)) (by omega)
  · simp only [bne_iff_ne]; rintro rfl; exact absurd (h (by omega)) (by omega)
theorem letB_is {x : Int} (h : letB x = true) : x = 0 ∨ x = 1 := by
  simp only [letB, inB, Bool.and_eq_true, decide_eq_true_eq] at h
  omega
theorem specWord (A : Option Addr) (n c b o : Nat) (xs : List Int) (w : World) (h : IA w A n b o xs) :
    Calls Try.prog 25 #[.slice A n c] w fun e w' => e = .returned (.bool (wordB xs)) ∧ w = w' := by
  have hbig := h.big
  have hlen := h.len
  have H := Lib.hid h
  have HL := Lib.hid hlen
  clear h hlen
  go_enter Try.func25, Try.ntmps25
  go_wp2_with (fail)
  go_loop [3] (fun i => ∃ q : Nat, q ≤ n ∧ i = .int .i64 q ∧ Hid ((xs.take q).all letB = true)) (fun i => n - (intOf i).toNat)
  case atStart => exact ⟨0, by omega, rfl, by simp [Hid]⟩
  case round =>
    obtain ⟨q, hq, rfl, hin⟩ := hrel
    by_cases hlq : q < n
    · obtain rfl := H.out.adr (by omega)
      obtain ⟨x, hx, hxc⟩ := H.out.cell q hlq
      have HX := Lib.hid hx
      clear hx
      rcases hnv : letB x
      · have HNV := Lib.hid (show inB x 0 1 = false from hnv)
        have HF := Lib.hid (show wordB xs = false by unfold wordB; rw [all_fail _ _ _ _ HX.out hnv]; rfl)
        clear hnv
        go_wp2_with (go_at_call 58; refine (specIn _ _ _ _).mono ?_; rintro e w' ⟨rfl, rfl⟩; rw [HNV.out])
        go_ret
        exact ⟨ret_bool HF.out.symm, rfl⟩
      · have HNV := Lib.hid (show inB x 0 1 = true from hnv)
        clear hnv
        go_wp2_with (go_at_call 58; refine (specIn _ _ _ _).mono ?_; rintro e w' ⟨rfl, rfl⟩; rw [HNV.out])
        go_round
        case rel => exact ⟨q + 1, by omega, by go_num, by unfold Hid; rw [all_take _ _ _ _ HX.out, hin.out]; show (true && inB x 0 1) = true; rw [HNV.out]; rfl⟩
        case measure => simp [intOf]; omega
    · have HRB := Lib.hid (show wordB xs = decide ((n : Int) ≤ 12) by unfold wordB; rw [all_done _ _ q (by rw [HL.out]; omega) hin.out, HL.out, Bool.true_and]; exact decide_eq_decide.2 (by omega))
      go_wp2_with (fail)
      all_goals (go_ret; exact ⟨ret_bool (by rw [HRB.out]; try simp_all), rfl⟩)
theorem implWord (A : Option Addr) (n c b o : Nat) (xs : List Int) (w : World) (h : IA w A n b o xs) :
    Calls Try.prog 24 #[.slice A n c] w fun e w' => e = .returned (.bool (wordB xs)) ∧ w = w' := by
  have hbig := h.big
  have hlen := h.len
  by_cases h12 : 12 < n
  · have HF := Lib.hid (show wordB xs = false by unfold wordB; rw [hlen, Bool.and_eq_false_imp]; intro _; exact decide_eq_false (by omega))
    clear h hlen
    go_enter Try.func24, Try.ntmps24
    go_wp2_with (fail)
    go_ret
    exact ⟨ret_bool HF.out.symm, rfl⟩
  · have H := Lib.hid h
    have HL := Lib.hid hlen
    clear h hlen
    go_enter Try.func24, Try.ntmps24
    go_wp2_with (fail)
    go_loop [10] (fun i => ∃ q : Nat, q ≤ n ∧ i = .int .i64 q ∧ Hid ((xs.take q).all letB = true)) (fun i => n - (intOf i).toNat)
    case atStart => exact ⟨0, by omega, rfl, by simp [Hid]⟩
    case round =>
      obtain ⟨q, hq, rfl, hin⟩ := hrel
      by_cases hlq : q < n
      · obtain rfl := H.out.adr (by omega)
        obtain ⟨x, hx, hxc⟩ := H.out.cell q hlq
        have HX := Lib.hid hx
        clear hx
        rcases hnv : letB x
        · have HF := Lib.hid (show wordB xs = false by unfold wordB; rw [all_fail _ _ _ _ HX.out hnv]; rfl)
          obtain ⟨hx0, hx1⟩ := letB_ne hnv
          clear hnv
          go_wp2_with (fail)
          go_ret
          exact ⟨ret_bool HF.out.symm, rfl⟩
        · have HNV := Lib.hid hnv
          rcases letB_is hnv with rfl | rfl
          all_goals
            clear hnv
            go_wp2_with (fail)
            go_round
            case rel => exact ⟨q + 1, by omega, by go_num, by unfold Hid; rw [all_take _ _ _ _ HX.out, HNV.out, hin.out]; rfl⟩
            case measure => simp [intOf]; omega
      · have HRB := Lib.hid (show wordB xs = true by unfold wordB; rw [all_done _ _ q (by rw [HL.out]; omega) hin.out, HL.out, Bool.true_and]; exact decide_eq_true (by omega))
        go_wp2_with (fail)
        go_ret
        exact ⟨ret_bool HRB.out.symm, rfl⟩
theorem specWordOk (A : Option Addr) (n c b o : Nat) (xs : List Int) (w : World) (h : IA w A n b o xs) :
    Calls Try.prog 25 #[.slice A n c] w fun e w' => e = .returned (.bool (wordB xs)) ∧ Below w.heap.size w w' := by
  refine (specWord A n c b o xs w h).mono ?_
  rintro e w' ⟨rfl, rfl⟩
  exact ⟨rfl, Below.refl _ _⟩
theorem implWordOk (A : Option Addr) (n c b o : Nat) (xs : List Int) (w : World) (h : IA w A n b o xs) :
    Calls Try.prog 24 #[.slice A n c] w fun e w' => e = .returned (.bool (wordB xs)) ∧ Below w.heap.size w w' := by
  refine (implWord A n c b o xs w h).mono ?_
  rintro e w' ⟨rfl, rfl⟩
  exact ⟨rfl, Below.refl _ _⟩
end Go.Proofs.Ytegkmolffemkpaa

/-
  Polynomials and beginnings of series: what they are; the contracts of the model's SeriesValid and PolyValid.
-/
import Derived.Test.YtegkmolffemkpaaRowV
import Derived.Test.YtegkmolffemkpaaEq
namespace Go.Proofs.Ytegkmolffemkpaa
open Go.RowKit
def serB (p : Int) (s : List Int) : Bool := rowB p s && (primeB p && decide (s.length ≤ 24))
def polB (p : Int) (f : List Int) : Bool := serB p f && (decide (f.length = 0) || (f.getD (f.length - 1) 0 != 0))
theorem serB_true {p : Int} {s : List Int} (h : serB p s = true) : primeB p = true ∧ s.length ≤ 24 ∧ ∀ x ∈ s, numB p x = true := by
  simp only [serB, Bool.and_eq_true, decide_eq_true_eq] at h
  exact ⟨h.2.1, h.2.2, rowB_mem h.1⟩
theorem serB_mk {p : Int} {s : List Int} (hp : primeB p = true) (hl : s.length ≤ 24) (h : ∀ x ∈ s, numB p x = true) : serB p s = true := by
  simp only [serB, Bool.and_eq_true, decide_eq_true_eq]
  exact ⟨List.all_eq_true.2 h, hp, hl⟩
theorem polB_ser {p : Int} {f : List Int} (h : polB p f = true) : serB p f = true := by
  simp only [polB, Bool.and_eq_true] at h; exact h.1
theorem polB_last {p : Int} {f : List Int} (h : polB p f = true) : f.length = 0 ∨ f.getD (f.length - 1) 0 ≠ 0 := by
  simp only [polB, Bool.and_eq_true, Bool.or_eq_true, decide_eq_true_eq, bne_iff_ne] at h; exact h.2
theorem specSeriesValid (p : Int) (A : Option Addr) (n c b o : Nat) (xs : List Int) (w : World) (h : IA w A n b o xs) :
    Calls Try.prog 51 #[.int .i64 p, .slice A n c] w fun e w' => e = .returned (.bool (serB p xs)) ∧ w = w' := by
  have hbig := h.big
  have hlen := h.len
  have H := Lib.hid h
  have HL := Lib.hid hlen
  clear h hlen
  go_enter Try.func51, Try.ntmps51
  go_wp2_with (fail)
  go_loop [5] (fun i => ∃ q : Nat, q ≤ n ∧ i = .int .i64 q ∧ Hid ((xs.take q).all (numB p) = true)) (fun i => n - (intOf i).toNat)
  case atStart => exact ⟨0, by omega, rfl, by simp [Hid]⟩
  case round =>
    obtain ⟨q, hq, rfl, hin⟩ := hrel
    by_cases hlq : q < n
    · obtain rfl := H.out.adr (by omega)
      obtain ⟨x, hx, hxc⟩ := H.out.cell q hlq
      have HX := Lib.hid hx
      clear hx
      rcases hnv : numB p x
      · have HNV := Lib.hid hnv
        have HF := Lib.hid (show serB p xs = false by unfold serB rowB; rw [all_fail _ _ _ _ HX.out hnv]; rfl)
        clear hnv
        go_wp2_with (go_at_call 83; refine (specNumValid _ _ _).mono ?_; rintro e w' ⟨rfl, rfl⟩; rw [HNV.out])
        go_ret
        exact ⟨ret_bool HF.out.symm, rfl⟩
      · have HNV := Lib.hid hnv
        clear hnv
        go_wp2_with (go_at_call 83; refine (specNumValid _ _ _).mono ?_; rintro e w' ⟨rfl, rfl⟩; rw [HNV.out])
        go_round
        case rel => exact ⟨q + 1, by omega, by go_num, by unfold Hid; rw [all_take _ _ _ _ HX.out, HNV.out, hin.out]; rfl⟩
        case measure => simp [intOf]; omega
    · have HRB := Lib.hid (show rowB p xs = true from all_done _ _ q (by rw [HL.out]; omega) hin.out)
      rcases hp : primeB p
      · have HP := Lib.hid hp
        have HF := Lib.hid (show serB p xs = false by unfold serB; rw [hp]; simp)
        clear hp
        go_wp2_with (go_at_call 84; refine (specPrimeOk _ _).mono ?_; rintro e w' ⟨rfl, rfl⟩; rw [HP.out])
        go_ret
        exact ⟨ret_bool HF.out.symm, rfl⟩
      · have HP := Lib.hid hp
        have HF := Lib.hid (show serB p xs = decide ((n : Int) ≤ 24) by unfold serB; rw [hp, HRB.out, HL.out]; simp; omega)
        clear hp
        go_wp2_with (go_at_call 84; refine (specPrimeOk _ _).mono ?_; rintro e w' ⟨rfl, rfl⟩; rw [HP.out])
        go_ret
        exact ⟨ret_bool HF.out.symm, rfl⟩
/-- how many numbers are left without zeros at the end -/
def trimN (f : List Int) : Nat → Nat
  | 0 => 0
  | n + 1 => if f.getD n 0 = 0 then trimN f n else n + 1
def trimL (f : List Int) : List Int := f.take (trimN f f.length)
theorem trimN_le (f : List Int) : ∀ n, trimN f n ≤ n
  | 0 => Nat.le_refl _
  | n + 1 => by
    unfold trimN
    split
    · have := trimN_le f n; omega
    · exact Nat.le_refl _
theorem trimL_len (f : List Int) : (trimL f).length = trimN f f.length := by
  unfold trimL; rw [List.length_take]; have := trimN_le f f.length; omega
theorem trimN_last (f : List Int) : ∀ n, trimN f n = 0 ∨ f.getD (trimN f n - 1) 0 ≠ 0
  | 0 => .inl rfl
  | n + 1 => by
    unfold trimN
    split
    · exact trimN_last f n
    · rename_i h; exact .inr h
end Go.Proofs.Ytegkmolffemkpaa

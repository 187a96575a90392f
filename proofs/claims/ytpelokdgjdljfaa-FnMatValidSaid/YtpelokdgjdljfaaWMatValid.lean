/-
  The walk of the law of MatValid.
-/
import Derived.Test.YtpelokdgjdljfaaDrawMM
namespace Go.Proofs.Ytpelokdgjdljfaa
open Go.RowKit
theorem RA.take {w : World} {A : Option Addr} {n b o : Nat} {M : List (List Int)} (h : RA w A n b o M) {k : Nat} (hk : k ≤ n) : RA w A k b o (M.take k) :=
  ⟨by rw [List.length_take, h.len]; omega, fun h0 => h.adr (by omega), by have := h.big; omega, fun i hi => by
    obtain ⟨row, A', c', b', o', h1, h2, h3⟩ := h.row i (by omega)
    exact ⟨row, A', c', b', o', by rw [List.getElem?_take, if_pos hi]; exact h1, h2, h3⟩⟩
theorem matB_nil (p : Int) : matB p [] = false := by simp [matB]
theorem matB_take {p : Int} {M : List (List Int)} (h : matB p M = true) {k : Nat} (hk1 : 1 ≤ k) (hk : k ≤ M.length) : matB p (M.take k) = true := by
  obtain ⟨h1, h2, h3, h4, h5⟩ := matB_true h
  have hd : (M.take k).headD [] = M.headD [] := by
    cases M with
    | nil => simp at h1
    | cons r M => cases k with
      | zero => omega
      | succ k => rfl
  simp only [matB, hd, Bool.and_eq_true, decide_eq_true_eq, List.all_eq_true, rowOk, rowB]
  refine ⟨⟨by rw [List.length_take]; omega, by rw [List.length_take]; omega, h3, h4⟩, fun row hr => ?_⟩
  obtain ⟨g1, g2⟩ := h5 row (List.mem_of_mem_take hr)
  exact ⟨g1, g2⟩
set_option maxRecDepth 100000 in
theorem walkFnMatValid (a : Option Addr) (len cap : Nat) (zs : List Int) (w : World) (h : IsRow .u8 w a len cap zs) :
    Calls Try.prog 13 #[.slice a len cap] w fun e w' => e = .returned (.bool true) ∧ Below w.heap.size w w' := by
  have hm : len ≤ 9223372036854775807 := by have := rowBytes h; unfold maxLen at this; omega
  by_cases hb : 1048576 < len
  · go_enter Try.func13, Try.ntmps13
    go_wp2_with (fail)
    go_ret
    exact ⟨rfl, Below.refl _ _⟩
  · go_enter Try.func13, Try.ntmps13
    go_wp2_with (fail)
    refine (drawMatValid a len cap zs w h).mono ?_
    rintro e w1 ⟨p, Ao, co, M, rfl, hp, hD, hB⟩
    obtain ⟨b, hRA⟩ := hD.ra
    have hML := hD.few
    have hcap := hD.cap
    have HB := Lib.hid hB
    obtain ⟨n, hn⟩ : ∃ n, M.length = n := ⟨_, rfl⟩
    rw [hn] at hRA hML hcap ⊢
    have HRA := Lib.hid hRA
    clear hD hB h hRA
    rcases hv : matB p M
    · have HV := Lib.hid hv
      clear hv
      go_wp2_with (fail)
      refine (implMatValid p Ao n co b 0 M _ HRA.out).mono ?_
      rintro e w' ⟨rfl, rfl⟩
      rw [HV.out]
      go_wp2_with (fail)
      refine (specMatValid p Ao n co b 0 M _ HRA.out).mono ?_
      rintro e w2 ⟨rfl, mm, rfl⟩
      rw [HV.out]
      have HN := Lib.hid (matB_nil p)
      go_wp2_with (first | (go_at_call 18; refine (alive _).mono ?_; rintro e w' ⟨rfl, rfl⟩) | (go_at_call 32; refine (implMatValid p none 0 0 0 0 [] _ (RA.nil _ _)).mono ?_; rintro e w' ⟨rfl, rfl⟩; rw [HN.out]))
      go_ret
      exact ⟨rfl, below_drawn HB.out ⟨mm, rfl⟩⟩
    · have HV := Lib.hid hv
      have HN := Lib.hid (matB_nil p)
      have hn1 := (matB_true hv).1
      rw [hn] at hn1
      by_cases hn2 : n < 2
      · clear hv
        go_wp2_with (fail)
        refine (implMatValid p Ao n co b 0 M _ HRA.out).mono ?_
        rintro e w' ⟨rfl, rfl⟩
        rw [HV.out]
        go_wp2_with (fail)
        refine (specMatValid p Ao n co b 0 M _ HRA.out).mono ?_
        rintro e w2 ⟨rfl, mm, rfl⟩
        rw [HV.out]
        go_wp2_with (first | (go_at_call 18; refine (alive _).mono ?_; rintro e w' ⟨rfl, rfl⟩) | (go_at_call 32; refine (implMatValid p none 0 0 0 0 [] _ (RA.nil _ _)).mono ?_; rintro e w' ⟨rfl, rfl⟩; rw [HN.out]))
        go_ret
        exact ⟨rfl, below_drawn HB.out ⟨mm, rfl⟩⟩
      · have HT := Lib.hid (matB_take (k := n - 1) hv (by omega) (by omega))
        obtain rfl := HRA.out.adr (by omega)
        clear hv
        go_wp2_with (fail)
        refine (implMatValid p _ n co b 0 M _ HRA.out).mono ?_
        rintro e w' ⟨rfl, rfl⟩
        rw [HV.out]
        go_wp2_with (fail)
        refine (specMatValid p _ n co b 0 M _ HRA.out).mono ?_
        rintro e w2 ⟨rfl, mm, rfl⟩
        rw [HV.out]
        go_wp2_with (fail)
        refine (implMatValid p _ (n - 1) co b 0 (M.take (n - 1)) _ ((HRA.out.drewN ⟨mm, rfl⟩).take (by omega))).mono ?_
        rintro e w' ⟨rfl, rfl⟩
        rw [HT.out]
        go_wp2_with (fail)
        refine (implMatValid p none 0 0 0 0 [] _ (RA.nil _ _)).mono ?_
        rintro e w' ⟨rfl, rfl⟩
        rw [HN.out]
        go_wp2_with (fail)
        refine (alive _).mono ?_
        rintro e w' ⟨rfl, rfl⟩
        go_wp2_with (fail)
        go_ret
        exact ⟨rfl, below_drawn HB.out ⟨mm, rfl⟩⟩
end Go.Proofs.Ytpelokdgjdljfaa

/-
  The walk of the exact law of MatDet.
-/
import Derived.Test.YtpelokdgjdljfacDetS
namespace Go.Proofs.Ytpelokdgjdljfac
open Go.RowKit
theorem detR_bd (p : Int) (M : List (List Int)) : -1 ≤ detR p M ∧ detR p M ≤ 13 := by
  unfold detR
  split
  · rename_i h
    split
    · unfold detV
      split
      · omega
      · rename_i x hx
        obtain ⟨N, d⟩ := x
        obtain ⟨_, _, h3⟩ := detE_inv (prime_of_mat h) (VM_of_mat h) M.length (Nat.le_refl _) N d hx
        have := numB_bd h3
        simp only
        omega
    · omega
  · omega
set_option linter.unusedVariables false in
theorem walkFnExactMatDet (a0 : Int) (a1 : Option Addr) (len1 cap1 : Nat) (w : World) (w0 : (Lit.int .i64 a0).wf = true) (h1 : IsRows w a1 len1 cap1) :
    Calls Try.prog 4 #[.int .i64 a0, .slice a1 len1 cap1] w fun e w' => e = .returned (.bool true) ∧ Below w.heap.size w w' := by
  obtain ⟨b, o, M, hR⟩ := h1.ra
  have H := Lib.hid hR
  clear h1 w0 hR
  go_enter Try.func4, Try.ntmps4
  go_wp2_with (fail)
  refine (szIntSS a1 len1 cap1 b o M _ _ H.out (by decide) (by decide)).mono ?_
  rintro e w' ⟨r, rfl, hr, rfl⟩
  rcases hr with hr | ⟨hr0, _, hrn, hrr⟩
  · go_wp2_with (fail)
    go_ret
    exact ⟨rfl, Below.refl _ _⟩
  · have hn : len1 ≤ 1048576 := by omega
    have HRR := Lib.hid (show ∀ row ∈ M, row.length ≤ 1048576 from fun row h => by have := hrr row h; omega)
    obtain ⟨hr1, hr2⟩ := detR_bd a0 M
    clear hrr
    obtain ⟨R, hRd⟩ : ∃ R, detR a0 M = R := ⟨_, rfl⟩
    rw [hRd] at hr1 hr2
    have HRD := Lib.hid hRd
    clear hRd
    have hq : (R != R) = false := by simp
    go_wp2_with (fail)
    refine (toIntSS a1 len1 cap1 b o M _ H.out hn HRR.out).mono ?_
    rintro e wa ⟨Aa, ca, va, rfl, hOa, hBa⟩
    obtain ⟨ba, hRa⟩ := hOa.ra
    have HRa := Lib.hid hRa
    clear hOa hRa
    go_wp2_with (fail)
    refine (specMatDet a0 Aa len1 ca ba 0 M _ HRa.out).mono ?_
    rw [HRD.out]
    rintro e wb ⟨rfl, hBb⟩
    have hB1 := below_more hBa hBb
    clear HRa hBa hBb
    go_wp2_with (fail)
    refine (toIntSS a1 len1 cap1 b o M _ (H.out.below hB1) hn HRR.out).mono ?_
    rintro e wc ⟨Ac, cc, vc, rfl, hOc, hBc⟩
    have hB2 := below_more hB1 hBc
    obtain ⟨bc, hRc⟩ := hOc.ra
    have HRc := Lib.hid hRc
    clear hOc hRc
    go_wp2_with (fail)
    refine (implMatDet a0 Ac len1 cc bc 0 M _ HRc.out).mono ?_
    rw [HRD.out]
    rintro e wd ⟨rfl, hBd⟩
    have hB3 := below_more hB2 hBd
    go_wp2_with (fail)
    refine (toIntSS a1 len1 cap1 b o M _ (H.out.below hB3) hn HRR.out).mono ?_
    rintro e wf ⟨Af, cf, vf, rfl, hOf, hBf⟩
    have hB5 := below_more hB3 hBf
    obtain ⟨bf, hRf⟩ := hOf.ra
    have HRf := Lib.hid hRf
    clear hOf hRf
    go_wp2_with (fail)
    refine (eqIntSS Ac len1 cc bc 0 M Af len1 cf bf 0 M _ (HRc.out.below (below_more hBd hBf)) HRf.out).mono ?_
    rintro e wg ⟨rfl, hmg⟩
    rw [decide_eq_true (rfl : M = M)]
    have hB6 := below_drawn hB5 hmg
    go_wp2_with (fail)
    go_ret
    exact ⟨rfl, hB6⟩
end Go.Proofs.Ytpelokdgjdljfac

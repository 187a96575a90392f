/-
  The walk of the exact law of MatValid.
-/
import Derived.Test.YtpelokdgjdljfaaEq
namespace Go.Proofs.Ytpelokdgjdljfaa
open Go.RowKit
theorem below_drawn {B : Nat} {w w1 w2 : World} (h : Below B w w1) (hm : ∃ m, w2 = w1.drewN m) : Below B w w2 := by
  obtain ⟨m, rfl⟩ := hm; exact ⟨h.os, h.tape, h.output, h.size, h.block⟩
/-- 'Below' at the first world's size, one call more -/
theorem below_more {w w1 w2 : World} (h : Below w.heap.size w w1) (h2 : Below w1.heap.size w1 w2) : Below w.heap.size w w2 := h.trans (h2.mono h.size)
set_option linter.unusedVariables false in
theorem walkFnExactMatValid (a0 : Int) (a1 : Option Addr) (len1 cap1 : Nat) (w : World) (w0 : (Lit.int .i64 a0).wf = true) (h1 : IsRows w a1 len1 cap1) :
    Calls Try.prog 14 #[.int .i64 a0, .slice a1 len1 cap1] w fun e w' => e = .returned (.bool true) ∧ Below w.heap.size w w' := by
  obtain ⟨b, o, M, hR⟩ := h1.ra
  have H := Lib.hid hR
  clear h1 w0 hR
  go_enter Try.func14, Try.ntmps14
  go_wp2_with (fail)
  refine (szIntSS a1 len1 cap1 b o M _ _ H.out (by decide) (by decide)).mono ?_
  rintro e w' ⟨r, rfl, hr, rfl⟩
  rcases hr with hr | ⟨hr0, _, hrn, hrr⟩
  · go_wp2_with (fail)
    go_ret
    exact ⟨rfl, Below.refl _ _⟩
  · have hn : len1 ≤ 1048576 := by omega
    have HRR := Lib.hid (show ∀ row ∈ M, row.length ≤ 1048576 from fun row h => by have := hrr row h; omega)
    clear hrr
    go_wp2_with (fail)
    refine (toIntSS a1 len1 cap1 b o M _ H.out hn HRR.out).mono ?_
    rintro e wa ⟨Aa, ca, va, rfl, hOa, hBa⟩
    obtain ⟨ba, hRa⟩ := hOa.ra
    have HRa := Lib.hid hRa
    clear hOa hRa
    obtain ⟨t, ht⟩ : ∃ t, matB a0 M = t := ⟨_, rfl⟩
    have HT := Lib.hid ht
    clear ht
    go_wp2_with (fail)
    refine (specMatValid a0 Aa len1 ca ba 0 M _ HRa.out).mono ?_
    rintro e wb ⟨rfl, hmb⟩
    rw [HT.out]
    have hBb := below_drawn hBa hmb
    go_wp2_with (fail)
    refine (toIntSS a1 len1 cap1 b o M _ (H.out.below hBb) hn HRR.out).mono ?_
    rintro e wc ⟨Ac, cc, vc, rfl, hOc, hBc⟩
    have hB2 := below_more hBb hBc
    obtain ⟨bc, hRc⟩ := hOc.ra
    have HRc := Lib.hid hRc
    clear hOc hRc
    go_wp2_with (fail)
    refine (implMatValid a0 Ac len1 cc bc 0 M _ HRc.out).mono ?_
    rintro e w' ⟨rfl, rfl⟩
    rw [HT.out]
    go_wp2_with (fail)
    refine (toIntSS a1 len1 cap1 b o M _ (H.out.below hB2) hn HRR.out).mono ?_
    rintro e wd ⟨Ad, cd, vd, rfl, hOd, hBd⟩
    have hB3 := below_more hB2 hBd
    obtain ⟨bd, hRd⟩ := hOd.ra
    have HRd := Lib.hid hRd
    clear hOd hRd
    go_wp2_with (fail)
    refine (eqIntSS Ac len1 cc bc 0 M Ad len1 cd bd 0 M _ (HRc.out.below hBd) HRd.out).mono ?_
    rintro e we ⟨rfl, hme⟩
    rw [decide_eq_true (rfl : M = M)]
    have hB4 := below_drawn hB3 hme
    go_wp2_with (fail)
    go_ret
    exact ⟨rfl, hB4⟩
end Go.Proofs.Ytpelokdgjdljfaa

/-
  The walk of the exact law of MatKernel.
-/
import Derived.Test.YtpelokdgjdljfabKerS
namespace Go.Proofs.Ytpelokdgjdljfab
open Go.RowKit
set_option linter.unusedVariables false in
theorem walkFnExactMatKernel (a0 : Int) (a1 : Option Addr) (len1 cap1 : Nat) (w : World) (w0 : (Lit.int .i64 a0).wf = true) (h1 : IsRows w a1 len1 cap1) :
    Calls Try.prog 12 #[.int .i64 a0, .slice a1 len1 cap1] w fun e w' => e = .returned (.bool true) ∧ Below w.heap.size w w' := by
  obtain ⟨b, o, M, hR⟩ := h1.ra
  have H := Lib.hid hR
  clear h1 w0 hR
  go_enter Try.func12, Try.ntmps12
  go_wp2_with (fail)
  refine (szIntSS a1 len1 cap1 b o M _ _ H.out (by decide) (by decide)).mono ?_
  rintro e w' ⟨r, rfl, hr, rfl⟩
  rcases hr with hr | ⟨hr0, _, hrn, hrr⟩
  · go_wp2_with (fail)
    go_ret
    exact ⟨rfl, Below.refl _ _⟩
  · have hn : len1 ≤ 1048576 := by omega
    have hrr' : ∀ row ∈ M, row.length ≤ 1048576 := fun row h => by have := hrr row h; omega
    have htm : tot M ≤ 1099511627776 := by
      have h1 := tot_rows M 1048576 hrr'
      have h2 := H.out.len
      have h3 : M.length * 1048576 ≤ 1048576 * 1048576 := Nat.mul_le_mul_right _ (by omega)
      omega
    have htr := kernelR_tot a0 M
    have HRR := Lib.hid hrr'
    clear hrr hrr'
    obtain ⟨R, hRd⟩ : ∃ R, kernelR a0 M = R := ⟨_, rfl⟩
    rw [hRd] at htr
    have HRD := Lib.hid hRd
    clear hRd
    -- the model's answer, of a copy
    go_wp2_with (fail)
    refine (toIntSS a1 len1 cap1 b o M _ H.out hn HRR.out).mono ?_
    rintro e wa ⟨Aa, ca, va, rfl, hOa, hBa⟩
    obtain ⟨ba, hRa⟩ := hOa.ra
    have HRa := Lib.hid hRa
    clear hOa hRa
    go_wp2_with (fail)
    refine (specMatKernel a0 Aa len1 ca ba 0 M _ HRa.out).mono ?_
    rw [HRD.out]
    rintro e wb ⟨As, cs, bs, os, rfl, hS, hBb⟩
    have hB1 := below_more hBa hBb
    have HS := Lib.hid hS
    clear hS HRa hBa hBb
    -- the program's answer, of another one
    go_wp2_with (fail)
    refine (toIntSS a1 len1 cap1 b o M _ (H.out.below hB1) hn HRR.out).mono ?_
    rintro e wc ⟨Ac, cc, vc, rfl, hOc, hBc⟩
    have hB2 := below_more hB1 hBc
    have hfc := hOc.foot
    obtain ⟨bc, hRc⟩ := hOc.ra
    have HRc := Lib.hid hRc
    have HOc := Lib.hid hOc
    clear hOc hRc
    go_wp2_with (fail)
    refine (implMatKernel a0 Ac len1 cc bc 0 M _ HRc.out).mono ?_
    rw [HRD.out]
    rintro e wd ⟨Ag, cg, vg, rfl, hOg, hBd⟩
    have hB3 := below_more hB2 hBd
    have hS3 := below_more hBc hBd
    have hsz1 := hBc.size
    have hsz2 := hBd.size
    obtain ⟨bg, hRg⟩ := hOg.ra
    have HRg := Lib.hid hRg
    have HOg := Lib.hid hOg
    have hfg := hOg.foot
    clear hOg hRg
    go_wp2_with (fail)
    refine (eqIntSS Ag R.length cg bg 0 R As R.length cs bs os R _ HRg.out (HS.out.below hS3)).mono ?_
    rintro e we ⟨rfl, hme⟩
    rw [decide_eq_true (rfl : R = R)]
    have hB4 := below_drawn hB3 hme
    have hS4 := below_drawn hS3 hme
    have hC4 := below_drawn hBd hme
    have hG4 := below_drawn (Below.refl wd.heap.size wd) hme
    go_wp2_with (fail)
    refine (toIntSS a1 len1 cap1 b o M _ (H.out.below hB4) hn HRR.out).mono ?_
    rintro e wf ⟨Af, cf, vf, rfl, hOf, hBf⟩
    have hB5 := below_more hB4 hBf
    have hS5 := below_more hS4 hBf
    have hC5 := below_more hC4 hBf
    have hG5 := below_more hG4 hBf
    obtain ⟨bf, hRf⟩ := hOf.ra
    have HRf := Lib.hid hRf
    clear hOf hRf hme
    go_wp2_with (fail)
    refine (eqIntSS Ac len1 cc bc 0 M Af len1 cf bf 0 M _ (HRc.out.below hC5) HRf.out).mono ?_
    rintro e wg ⟨rfl, hmg⟩
    rw [decide_eq_true (rfl : M = M)]
    have hB6 := below_drawn hB5 hmg
    have hS6 := below_drawn hS5 hmg
    have hC6 := below_drawn hC5 hmg
    have hG6 := below_drawn hG5 hmg
    clear hmg
    -- the arguments are written into: the answers stay
    go_wp2_with (fail)
    refine (markIntSS wb.heap.size wc.heap.size Ac len1 cc M vc 1 _ (HOc.out.below hC6) hfc (by decide) (by omega)).mono ?_
    rintro e wh ⟨rfl, _, hKh⟩
    have hX7 := hKh.below (B := wb.heap.size) (Nat.le_trans (Nat.le_trans hsz1 hsz2) hG6.size) (fun k hk => hk.1)
    have hS7 := hS6.trans hX7
    have hB7 := hB6.trans (hX7.mono hB1.size)
    have hOg7 := (HOg.out.below hG6).keep hKh (fun g hg _ hs => by omega)
    have hsz3 := hKh.size
    have hfg7 := hfg
    obtain ⟨bg7, hRg7⟩ := hOg7.ra
    have HRg7 := Lib.hid hRg7
    have HOg7 := Lib.hid hOg7
    have hg6 := hG6.size
    have hpos : 0 ≤ 1 + (tot M : Int) := by omega
    clear hRg7 hOg7 hKh hX7
    go_wp2_with (fail)
    refine (eqIntSS Ag R.length cg bg7 0 R As R.length cs bs os R _ HRg7.out (HS.out.below hS7)).mono ?_
    rintro e wi ⟨rfl, hmi⟩
    rw [decide_eq_true (rfl : R = R)]
    have hB8 := below_drawn hB7 hmi
    have hS8 := below_drawn hS7 hmi
    have hG8 := below_drawn (Below.refl wh.heap.size wh) hmi
    have hsz4 := hG8.size
    clear hmi
    -- the answer is written into: it holds what is written
    go_wp2_with (fail)
    refine (markIntSS wc.heap.size wd.heap.size Ag R.length cg R vg 1 _ (HOg7.out.below hG8) hfg7 (by decide) (by omega)).mono ?_
    rintro e wj ⟨rfl, hOj, hKj⟩
    have hX9 := hKj.below (B := wb.heap.size) (by omega) (fun k hk => Nat.le_trans hsz1 hk.1)
    have hS9 := hS8.trans hX9
    have hB9 := hB8.trans (hX9.mono hB1.size)
    have hsz5 := hKj.size
    obtain ⟨bj, hRj⟩ := hOj.ra
    have HRj := Lib.hid hRj
    clear hRj hKj hX9 hOj
    go_wp2_with (fail)
    refine (heldIntSS Ag R.length cg bj 0 1 R _ HRj.out (by decide) (by omega)).mono ?_
    rintro e w' ⟨rfl, rfl⟩
    have hq : ((1 + (tot R : Int)) != (1 + (tot R : Int))) = false := by simp
    have hpos2 : 0 ≤ 1 + (tot R : Int) := by omega
    go_wp2_with (fail)
    refine (toIntSS a1 len1 cap1 b o M _ (H.out.below hB9) hn HRR.out).mono ?_
    rintro e wk ⟨Ak, ck, vk, rfl, hOk, hBk⟩
    have hB10 := below_more hB9 hBk
    have hS10 := below_more hS9 hBk
    obtain ⟨bk, hRk⟩ := hOk.ra
    have HRk := Lib.hid hRk
    clear hOk hRk
    go_wp2_with (fail)
    refine (implMatKernel a0 Ak len1 ck bk 0 M _ HRk.out).mono ?_
    rw [HRD.out]
    rintro e wl ⟨Al, cl, vl, rfl, hOl, hBl⟩
    have hB11 := below_more hB10 hBl
    have hS11 := below_more hS10 hBl
    have hJ := below_more hBk hBl
    obtain ⟨bl, hRl⟩ := hOl.ra
    have HRl := Lib.hid hRl
    clear hOl hRl
    go_wp2_with (fail)
    refine (eqIntSS Al R.length cl bl 0 R As R.length cs bs os R _ HRl.out (HS.out.below hS11)).mono ?_
    rintro e wm ⟨rfl, hmm⟩
    rw [decide_eq_true (rfl : R = R)]
    have hB12 := below_drawn hB11 hmm
    have hJ2 := below_drawn hJ hmm
    clear hmm
    go_wp2_with (fail)
    refine (heldIntSS Ag R.length cg bj 0 1 R _ (HRj.out.below hJ2) (by decide) (by omega)).mono ?_
    rintro e w' ⟨rfl, rfl⟩
    go_wp2_with (fail)
    go_ret
    exact ⟨rfl, hB12⟩
end Go.Proofs.Ytpelokdgjdljfab

/-
  The walk of the exact law of MatTimes.
-/
import Derived.Test.YtpelokdgjdljfabTimesT
namespace Go.Proofs.Ytpelokdgjdljfab
open Go.RowKit
theorem tot_le {M : List (List Int)} {n : Nat} (hl : M.length = n) (hn : n ≤ 1048576) (h : ∀ row ∈ M, row.length ≤ 1048576) : tot M ≤ 1099511627776 := by
  have h1 := tot_rows M 1048576 h
  have h3 : M.length * 1048576 ≤ 1048576 * 1048576 := Nat.mul_le_mul_right _ (by omega)
  omega
set_option maxHeartbeats 800000 in
set_option linter.unusedVariables false in
theorem walkFnExactMatTimes (a0 : Int) (a1 : Option Addr) (len1 cap1 : Nat) (a2 : Option Addr) (len2 cap2 : Nat) (w : World) (w0 : (Lit.int .i64 a0).wf = true) (h1 : IsRows w a1 len1 cap1) (h2 : IsRows w a2 len2 cap2) :
    Calls Try.prog 4 #[.int .i64 a0, .slice a1 len1 cap1, .slice a2 len2 cap2] w fun e w' => e = .returned (.bool true) ∧ Below w.heap.size w w' := by
  obtain ⟨b, o, M, hR⟩ := h1.ra
  obtain ⟨b', o', M', hR'⟩ := h2.ra
  have H := Lib.hid hR
  have H' := Lib.hid hR'
  clear h1 h2 w0 hR hR'
  go_enter Try.func4, Try.ntmps4
  go_wp2_with (fail)
  refine (szIntSS a1 len1 cap1 b o M _ _ H.out (by decide) (by decide)).mono ?_
  rintro e w' ⟨r, rfl, hr, rfl⟩
  rcases hr with hr | ⟨hr0, hr1, hrn, hrr⟩
  · go_wp2_with (fail)
    go_ret
    exact ⟨rfl, Below.refl _ _⟩
  have hn : len1 ≤ 1048576 := by omega
  have hrr' : ∀ row ∈ M, row.length ≤ 1048576 := fun row h => by have := hrr row h; omega
  have htm := tot_le H.out.len hn hrr'
  have HRR := Lib.hid hrr'
  clear hrr hrr'
  go_wp2_with (fail)
  refine (szIntSS a2 len2 cap2 b' o' M' _ _ H'.out hr0 (by omega)).mono ?_
  rintro e w' ⟨r2, rfl, hr2, rfl⟩
  rcases hr2 with hr2 | ⟨hr20, _, hrn2, hrr2⟩
  · go_wp2_with (fail)
    go_ret
    exact ⟨rfl, Below.refl _ _⟩
  have hn2 : len2 ≤ 1048576 := by omega
  have hrr2' : ∀ row ∈ M', row.length ≤ 1048576 := fun row h => by have := hrr2 row h; omega
  have htm2 := tot_le H'.out.len hn2 hrr2'
  have HRR2 := Lib.hid hrr2'
  clear hrr2 hrr2'
  have htr := timesR_tot a0 M M'
  obtain ⟨R, hRd⟩ : ∃ R, timesR a0 M M' = R := ⟨_, rfl⟩
  rw [hRd] at htr
  have HRD := Lib.hid hRd
  clear hRd
  -- the model's answer, of copies
  go_wp2_with (fail)
  refine (toIntSS a1 len1 cap1 b o M _ H.out hn HRR.out).mono ?_
  rintro e wa ⟨Aa, ca, va, rfl, hOa, hBa⟩
  obtain ⟨ba, hRa⟩ := hOa.ra
  have HRa := Lib.hid hRa
  clear hOa hRa
  go_wp2_with (fail)
  refine (toIntSS a2 len2 cap2 b' o' M' _ (H'.out.below hBa) hn2 HRR2.out).mono ?_
  rintro e wa2 ⟨Aa2, ca2, va2, rfl, hOa2, hBa2⟩
  have hB0 := below_more hBa hBa2
  obtain ⟨ba2, hRa2⟩ := hOa2.ra
  have HRa1 := Lib.hid (HRa.out.below hBa2)
  have HRa2 := Lib.hid hRa2
  clear hOa2 hRa2 HRa hBa hBa2
  go_wp2_with (fail)
  refine (specMatTimes a0 Aa len1 ca ba 0 M Aa2 len2 ca2 ba2 0 M' _ HRa1.out HRa2.out).mono ?_
  rw [HRD.out]
  rintro e wb ⟨As, cs, bs, os, rfl, hS, hBb⟩
  have hB1 := below_more hB0 hBb
  have HS := Lib.hid hS
  clear hS HRa1 HRa2 hB0 hBb
  -- the program's answer, of others
  go_wp2_with (fail)
  refine (toIntSS a1 len1 cap1 b o M _ (H.out.below hB1) hn HRR.out).mono ?_
  rintro e wc1 ⟨Ac, cc, vc, rfl, hOc, hBc1⟩
  have hB21 := below_more hB1 hBc1
  have hfc := hOc.foot
  obtain ⟨bc, hRc⟩ := hOc.ra
  have HRc1 := Lib.hid hRc
  have HOc1 := Lib.hid hOc
  clear hOc hRc
  go_wp2_with (fail)
  refine (toIntSS a2 len2 cap2 b' o' M' _ (H'.out.below hB21) hn2 HRR2.out).mono ?_
  rintro e wc ⟨Ac2, cc2, vc2, rfl, hOc2, hBc2⟩
  have hB2 := below_more hB21 hBc2
  have hBc := below_more hBc1 hBc2
  have hfc2 := hOc2.foot
  obtain ⟨bc2, hRc2⟩ := hOc2.ra
  have HRc := Lib.hid (HRc1.out.below hBc2)
  have HOc := Lib.hid (HOc1.out.below hBc2)
  have HRc2 := Lib.hid hRc2
  have HOc2 := Lib.hid hOc2
  have hz1 := hBc1.size
  have hz2 := hBc2.size
  clear hOc2 hRc2 HRc1 HOc1 hBc1 hBc2 hB21
  go_wp2_with (fail)
  refine (implMatTimes a0 Ac len1 cc bc 0 M Ac2 len2 cc2 bc2 0 M' _ HRc.out HRc2.out).mono ?_
  rw [HRD.out]
  rintro e wd ⟨Ag, cg, vg, rfl, hOg, hBd⟩
  have hB3 := below_more hB2 hBd
  have hS3 := below_more hBc hBd
  have hsz1 := hBc.size
  have hsz2 := hBd.size
  obtain ⟨bg, hRg⟩ := hOg.ra
  have HRg := Lib.hid hRg
  have HOg := Lib.hid hOg
  have hfg := hOg.foot
  clear hOg hRg
  go_wp2_with (fail)
  refine (eqIntSS Ag R.length cg bg 0 R As R.length cs bs os R _ HRg.out (HS.out.below hS3)).mono ?_
  rintro e we ⟨rfl, hme⟩
  rw [decide_eq_true (rfl : R = R)]
  have hB4 := below_drawn hB3 hme
  have hS4 := below_drawn hS3 hme
  have hC4 := below_drawn hBd hme
  have hG4 := below_drawn (Below.refl wd.heap.size wd) hme
  clear hme hB3 hS3 hBd
  go_wp2_with (fail)
  refine (toIntSS a1 len1 cap1 b o M _ (H.out.below hB4) hn HRR.out).mono ?_
  rintro e wf ⟨Af, cf, vf, rfl, hOf, hBf⟩
  have hB5 := below_more hB4 hBf
  have hS5 := below_more hS4 hBf
  have hC5 := below_more hC4 hBf
  have hG5 := below_more hG4 hBf
  obtain ⟨bf, hRf⟩ := hOf.ra
  have HRf := Lib.hid hRf
  clear hOf hRf hB4 hS4 hC4 hG4 hBf
  go_wp2_with (fail)
  refine (eqIntSS Ac len1 cc bc 0 M Af len1 cf bf 0 M _ (HRc.out.below hC5) HRf.out).mono ?_
  rintro e wg ⟨rfl, hmg⟩
  rw [decide_eq_true (rfl : M = M)]
  have hB6 := below_drawn hB5 hmg
  have hS6 := below_drawn hS5 hmg
  have hC6 := below_drawn hC5 hmg
  have hG6 := below_drawn hG5 hmg
  clear hmg hB5 hS5 hC5 hG5 HRf
  go_wp2_with (fail)
  refine (toIntSS a2 len2 cap2 b' o' M' _ (H'.out.below hB6) hn2 HRR2.out).mono ?_
  rintro e wf2 ⟨Af2, cf2, vf2, rfl, hOf2, hBf2⟩
  have hB7 := below_more hB6 hBf2
  have hS7 := below_more hS6 hBf2
  have hC7 := below_more hC6 hBf2
  have hG7 := below_more hG6 hBf2
  obtain ⟨bf2, hRf2⟩ := hOf2.ra
  have HRf2 := Lib.hid hRf2
  clear hOf2 hRf2 hB6 hS6 hC6 hG6 hBf2
  go_wp2_with (fail)
  refine (eqIntSS Ac2 len2 cc2 bc2 0 M' Af2 len2 cf2 bf2 0 M' _ (HRc2.out.below hC7) HRf2.out).mono ?_
  rintro e wg2 ⟨rfl, hmg2⟩
  rw [decide_eq_true (rfl : M' = M')]
  have hB8 := below_drawn hB7 hmg2
  have hS8 := below_drawn hS7 hmg2
  have hC8 := below_drawn hC7 hmg2
  have hG8 := below_drawn hG7 hmg2
  clear hmg2 hB7 hS7 hC7 hG7 HRf2
  -- the arguments are written into: the answers stay
  go_wp2_with (fail)
  refine (markIntSS wb.heap.size wc1.heap.size Ac len1 cc M vc 1 _ (HOc.out.below hC8) hfc (by decide) (by omega)).mono ?_
  rintro e wh1 ⟨rfl, _, hKh1⟩
  have hX1 := hKh1.below (B := wb.heap.size) (Nat.le_trans (Nat.le_trans hsz1 hsz2) hG8.size) (fun k hk => hk.1)
  have hS9 := hS8.trans hX1
  have hB9 := hB8.trans (hX1.mono hB1.size)
  have HOc2a := Lib.hid ((HOc2.out.below hC8).keep hKh1 (fun g hg _ hs => by omega))
  have HOga := Lib.hid ((HOg.out.below hG8).keep hKh1 (fun g hg _ hs => by omega))
  have hsz3 := hKh1.size
  have hg8 := hG8.size
  clear hKh1 hX1 hS8 hB8 hC8 hG8
  go_wp2_with (fail)
  refine (markIntSS wc1.heap.size wc.heap.size Ac2 len2 cc2 M' vc2 _ _ HOc2a.out hfc2 (by omega) (by omega)).mono ?_
  rintro e wh ⟨rfl, _, hKh⟩
  have hX7 := hKh.below (B := wb.heap.size) (by omega) (fun k hk => Nat.le_trans hz1 hk.1)
  have hS10 := hS9.trans hX7
  have hB10 := hB9.trans (hX7.mono hB1.size)
  have hOg7 := HOga.out.keep hKh (fun g hg _ hs => by omega)
  have hsz5 := hKh.size
  obtain ⟨bg7, hRg7⟩ := hOg7.ra
  have HRg7 := Lib.hid hRg7
  have HOg7 := Lib.hid hOg7
  have hpos : 0 ≤ 1 + (tot M : Int) + (tot M' : Int) := by omega
  clear hRg7 hOg7 hKh hX7 hS9 hB9
  go_wp2_with (fail)
  refine (eqIntSS Ag R.length cg bg7 0 R As R.length cs bs os R _ HRg7.out (HS.out.below hS10)).mono ?_
  rintro e wi ⟨rfl, hmi⟩
  rw [decide_eq_true (rfl : R = R)]
  have hB11 := below_drawn hB10 hmi
  have hS11 := below_drawn hS10 hmi
  have hG11 := below_drawn (Below.refl wh.heap.size wh) hmi
  have hsz6 := hG11.size
  clear hmi hB10 hS10
  -- the answer is written into: it holds what is written
  go_wp2_with (fail)
  refine (markIntSS wc.heap.size wd.heap.size Ag R.length cg R vg 1 _ (HOg7.out.below hG11) hfg (by decide) (by omega)).mono ?_
  rintro e wj ⟨rfl, hOj, hKj⟩
  have hX9 := hKj.below (B := wb.heap.size) (by omega) (fun k hk => Nat.le_trans hsz1 hk.1)
  have hS12 := hS11.trans hX9
  have hB12 := hB11.trans (hX9.mono hB1.size)
  obtain ⟨bj, hRj⟩ := hOj.ra
  have HRj := Lib.hid hRj
  clear hRj hKj hX9 hOj hS11 hB11
  go_wp2_with (fail)
  refine (heldIntSS Ag R.length cg bj 0 1 R _ HRj.out (by decide) (by omega)).mono ?_
  rintro e w' ⟨rfl, rfl⟩
  have hq : ((1 + (tot R : Int)) != (1 + (tot R : Int))) = false := by simp
  have hpos2 : 0 ≤ 1 + (tot R : Int) := by omega
  go_wp2_with (fail)
  refine (toIntSS a1 len1 cap1 b o M _ (H.out.below hB12) hn HRR.out).mono ?_
  rintro e wk ⟨Ak, ck, vk, rfl, hOk, hBk⟩
  have hB13 := below_more hB12 hBk
  have hS13 := below_more hS12 hBk
  obtain ⟨bk, hRk⟩ := hOk.ra
  have HRk := Lib.hid hRk
  clear hOk hRk hB12 hS12
  go_wp2_with (fail)
  refine (toIntSS a2 len2 cap2 b' o' M' _ (H'.out.below hB13) hn2 HRR2.out).mono ?_
  rintro e wk2 ⟨Ak2, ck2, vk2, rfl, hOk2, hBk2⟩
  have hB14 := below_more hB13 hBk2
  have hS14 := below_more hS13 hBk2
  have hJ0 := below_more hBk hBk2
  obtain ⟨bk2, hRk2⟩ := hOk2.ra
  have HRk2 := Lib.hid hRk2
  clear hOk2 hRk2 hB13 hS13
  go_wp2_with (fail)
  refine (implMatTimes a0 Ak len1 ck bk 0 M Ak2 len2 ck2 bk2 0 M' _ (HRk.out.below hBk2) HRk2.out).mono ?_
  rw [HRD.out]
  rintro e wl ⟨Al, cl, vl, rfl, hOl, hBl⟩
  have hB15 := below_more hB14 hBl
  have hS15 := below_more hS14 hBl
  have hJ := below_more hJ0 hBl
  obtain ⟨bl, hRl⟩ := hOl.ra
  have HRl := Lib.hid hRl
  clear hOl hRl hB14 hS14
  go_wp2_with (fail)
  refine (eqIntSS Al R.length cl bl 0 R As R.length cs bs os R _ HRl.out (HS.out.below hS15)).mono ?_
  rintro e wm ⟨rfl, hmm⟩
  rw [decide_eq_true (rfl : R = R)]
  have hB16 := below_drawn hB15 hmm
  have hJ2 := below_drawn hJ hmm
  clear hmm
  go_wp2_with (fail)
  refine (heldIntSS Ag R.length cg bj 0 1 R _ (HRj.out.below hJ2) (by decide) (by omega)).mono ?_
  rintro e w' ⟨rfl, rfl⟩
  go_wp2_with (fail)
  go_ret
  exact ⟨rfl, hB16⟩
end Go.Proofs.Ytpelokdgjdljfab

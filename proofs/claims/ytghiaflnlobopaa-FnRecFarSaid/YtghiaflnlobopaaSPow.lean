/-
  The contracts of the model's l2Power and PowerRest.
-/
import Derived.Test.YtghiaflnlobopaaIPow
import Derived.Test.YtghiaflnlobopaaDvS
import Derived.Test.YtghiaflnlobopaaPTimes
import Derived.Test.YtghiaflnlobopaaTrim
namespace Go.Proofs.Ytghiaflnlobopaa
open Go.RowKit
set_option maxRecDepth 100000 in
set_option maxHeartbeats 3000000 in
theorem specPower (p : Int) (A : Option Addr) (n c b o : Nat) (g : List Int) (N : Nat) (w : World) (h : IA w A n b o g) (hg : polB p g = true) (h2 : 2 ≤ g.length) (h12 : g.length ≤ 12) (hN : N ≤ 1000000) :
    Calls Try.prog 19 #[.int .i64 p, .slice A n c, .int .i64 (N : Int)] w (MadeI (powR p g N).length (powR p g N) w) := by
  have hl := h.len
  have H := Lib.hid h
  obtain ⟨hp, _, hgv⟩ := serB_true (polB_ser hg)
  obtain ⟨hs1, hs2⟩ := serB_one hp
  obtain ⟨_, a2, _, a4, _⟩ := div_law hs1 hg (by omega)
  obtain ⟨_, b2, _, b4, _⟩ := div_law hs2 hg (by omega)
  obtain ⟨r1, r2, _⟩ := powR_law hg (by omega) h12 N
  have HG := Lib.hid hg
  have HP := Lib.hid hp
  have HGV := Lib.hid hgv
  have H1V := Lib.hid (serB_true hs1).2.2
  have H2V := Lib.hid (serB_true hs2).2.2
  have HPW := Lib.hid (show powL p g N (remL p [1] g) (remL p [0, 1] g) = powR p g N from rfl)
  obtain ⟨O0, hO0⟩ : ∃ O, remL p [1] g = O := ⟨_, rfl⟩
  obtain ⟨S0, hS0⟩ : ∃ S, remL p [0, 1] g = S := ⟨_, rfl⟩
  rw [hO0] at a2 a4 HPW
  rw [hS0] at b2 b4 HPW
  obtain ⟨Z, hZ⟩ : ∃ Z, powR p g N = Z := ⟨_, rfl⟩
  rw [hZ] at HPW r2 ⊢
  have HA2 := Lib.hid a2
  have HB2 := Lib.hid b2
  have HO0 := Lib.hid hO0
  have HS0 := Lib.hid hS0
  have HH2 := Lib.hid h2
  have HH12 := Lib.hid h12
  clear h hp hgv hs1 hs2 a2 b2 hO0 hS0 hg r1 hZ
  go_enter Try.func19, Try.ntmps19
  go_wp2_with (fail)
  refine (specDivide p _ 1 1 _ 0 [1] A n c b o g _ (IA.fresh1 1) (H.out.below ((Below.refl _ _).alloc (Nat.le_refl _) _)) HP.out H1V.out HGV.out (by omega) (by omega) (by omega)).mono ?_
  rw [HO0.out]
  rintro e w1 ⟨A1, c1, A2, c2, rfl, hO1, hO2, _, hB1⟩
  have HO2 := Lib.hid (owns_mono hO2 (show w.heap.size ≤ _ by simp))
  have HB1 := Lib.hid (((Below.refl w.heap.size w).alloc (Nat.le_refl _) (.cells #[.int .i64 1] 3)).trans (hB1.mono (by simp)))
  clear hO1 hO2 hB1
  go_wp2_with (fail)
  refine (specDivide p _ 2 2 _ 0 [0, 1] A n c b o g _ (IA.fresh2' 0 1) (H.out.below (HB1.out.alloc HB1.out.size _)) HP.out H2V.out HGV.out (by omega) (by omega) (by omega)).mono ?_
  rw [HS0.out]
  rintro e w2 ⟨A3, c3, A4, c4, rfl, hO3, hO4, _, hB2⟩
  have hs1 := HB1.out.size
  have HO4 := Lib.hid (owns_mono hO4 (show w.heap.size ≤ _ by simp; omega))
  have hB2 := ((Below.refl w1.heap.size w1).alloc (Nat.le_refl _) (.cells #[.int .i64 0, .int .i64 1] 3)).trans (hB2.mono (by simp))
  have HO2 := Lib.hid (owns_below HO2.out hB2)
  have HB2' := Lib.hid (below_more HB1.out hB2)
  clear hO3 hO4 hB2
  go_wp2_with (fail)
  go_loopw [2, 8, 10] (fun i v s wr => ∃ (k : Nat) (O S : List Int) (AO : Option Addr) (cO : Nat) (AS : Option Addr) (cS : Nat), k ≤ N ∧ i = .int .i64 (k : Int) ∧ v = .slice AO O.length cO ∧ s = .slice AS S.length cS ∧ Hid (powL p g k O S = Z) ∧ Hid (polB p O = true) ∧ O.length < g.length ∧ Hid (polB p S = true) ∧ S.length < g.length ∧ OI wr w.heap.size AO O.length cO O ∧ OI wr w.heap.size AS S.length cS S ∧ Below w.heap.size w wr) (fun i _ _ _ => (intOf i).toNat)
  case atStart => exact ⟨N, O0, S0, A2, c2, A4, c4, Nat.le_refl _, rfl, rfl, rfl, HPW.out, HA2.out, a4, HB2.out, b4, HO2.out, HO4.out, HB2'.out⟩
  case round =>
    obtain ⟨k, O, S, AO, cO, AS, cS, hk, rfl, rfl, rfl, hpw, hpo, hol, hps, hsl, hOO, hOS, hBr⟩ := hrel
    have HOO := Lib.hid hOO
    have HOS := Lib.hid hOS
    have HBR := Lib.hid hBr
    clear hOO hOS hBr
    by_cases hk0 : k = 0
    · subst hk0
      have HE := Lib.hid (show O = Z by rw [← hpw.out, powL_zero])
      go_wp2_with (fail)
      go_ret
      rw [← HE.out]
      exact ⟨AO, cO, rfl, HOO.out, HBR.out⟩
    have hst := hpw.out
    rw [powL_step hk0] at hst
    have HHF := Lib.hid (show (k : Int) / 2 = ((k / 2 : Nat) : Int) by omega)
    obtain ⟨b9, hI9⟩ := (OI.ia HOS.out)
    obtain ⟨b8, hI8⟩ := (OI.ia HOO.out)
    have HI9 := Lib.hid hI9
    have HI8 := Lib.hid hI8
    clear hI9 hI8
    obtain ⟨f1, _, f3, f4, _⟩ := step_facts HG.out HH2.out HH12.out hps.out hps.out hsl (by omega)
    obtain ⟨f2, _, f6, f7, _⟩ := step_facts HG.out HH2.out HH12.out hpo.out hps.out hol (by omega)
    obtain ⟨q1, q2, _, q4, q5⟩ := mulR_law' HG.out (by omega) HH12.out hps.out hps.out hsl (by omega)
    obtain ⟨u1, u2, _, u4, u5⟩ := mulR_law' HG.out (by omega) HH12.out hpo.out hps.out hol (by omega)
    have hl1 := (serB_true (polB_ser q5)).2.1
    have hl2 := (serB_true (polB_ser u5)).2.1
    obtain ⟨TS, hTS⟩ : ∃ T, tmsL p S S = T := ⟨_, rfl⟩
    obtain ⟨TO, hTO⟩ : ∃ T, tmsL p O S = T := ⟨_, rfl⟩
    obtain ⟨RS, hRS⟩ : ∃ R, mulR p g S S = R := ⟨_, rfl⟩
    obtain ⟨RO, hRO⟩ : ∃ R, mulR p g O S = R := ⟨_, rfl⟩
    have HRS := Lib.hid (show remL p TS g = RS by rw [← hRS]; unfold mulR; rw [q4, hTS])
    have HRO := Lib.hid (show remL p TO g = RO by rw [← hRO]; unfold mulR; rw [u4, hTO])
    have HTS := Lib.hid (show convR p S S (tmsN S S) = TS from hTS)
    have HTO := Lib.hid (show convR p O S (tmsN O S) = TO from hTO)
    rw [q4, hTS] at f3 f4
    rw [u4, hTO] at f6 f7
    rw [hTS] at q4 hl1
    rw [hTO] at u4 hl2
    rw [hRS] at q1 q2 hst
    rw [hRO] at u1 u2 hst
    have HQ4 := Lib.hid q4
    have HU4 := Lib.hid u4
    have HQ1 := Lib.hid q1
    have HU1 := Lib.hid u1
    have HF1 := Lib.hid f1
    have HF2 := Lib.hid f2
    have HF3 := Lib.hid f3
    have HF6 := Lib.hid f6
    have HSTP := Lib.hid hst
    clear hTS hTO hRS hRO q1 q4 q5 u1 u4 u5 f1 f2 f3 f6 hst
    by_cases h1 : k % 2 = 1
    case neg =>
      have hd : ((k : Int) % 2 == 1) = false := by simp; omega
      have HSTP := Lib.hid (show powL p g (k / 2) O RS = Z by have h0 := HSTP.out; rwa [if_neg h1] at h0)
      clear h1
      go_wp2_with (fail)
      refine (specTms p AS _ cS b9 0 S AS _ cS b9 0 S _ HI9.out HI9.out HP.out HF1.out HF1.out (by omega) (by omega)).mono ?_
      rw [HTS.out]
      rintro e wa1 ⟨Aa, ca, rfl, hOa, hBa⟩
      obtain ⟨ba, hIa, hAa⟩ := OI.iaA hOa
      have hca := OI.capLe hOa
      have HIa := Lib.hid hIa
      have HI9 := Lib.hid (HI9.out.below hBa)
      have HOO := Lib.hid (owns_below HOO.out hBa)
      have HBR := Lib.hid (below_more HBR.out hBa)
      clear hOa hIa hBa
      go_wp2_with (fail)
      refine (specTrim Aa _ ca ba 0 TS _ HIa.out (by omega) hca hAa).mono ?_
      rw [HQ4.out]
      rintro e wb1 ⟨Ab, cb, rfl, hOb, hBb⟩
      obtain ⟨bb, hIb⟩ := OI.ia hOb
      have HIb := Lib.hid hIb
      have HI9 := Lib.hid (HI9.out.below hBb)
      have HOO := Lib.hid (owns_below HOO.out hBb)
      have HBR := Lib.hid (below_more HBR.out hBb)
      clear hOb hIb hBb hAa HIa hca
      go_wp2_with (fail)
      refine (specDivide p Ab _ cb bb 0 TS A n c b o g _ HIb.out (H.out.below HBR.out) HP.out HF3.out HGV.out (by omega) (by omega) (by omega)).mono ?_
      rw [HRS.out]
      rintro e wc1 ⟨Ac, cc, Ad, cd, rfl, hOc, hOd, _, hBc⟩
      have hsz1 := HBR.out.size
      have HNS := Lib.hid (owns_mono hOd (show w.heap.size ≤ wb1.heap.size from hsz1))
      have HI9 := Lib.hid (HI9.out.below hBc)
      have HOO := Lib.hid (owns_below HOO.out hBc)
      have HBR := Lib.hid (below_more HBR.out hBc)
      clear hOc hOd hBc HIb
      go_wp2_with (fail)
      go_roundw
      case rel => exact ⟨k / 2, O, RS, AO, cO, Ad, cd, by omega, by first | rfl | exact congrArg (Value.int .i64) HHF.out | go_num, rfl, rfl, HSTP, hpo, hol, HQ1, q2, HOO.out, HNS.out, HBR.out⟩
      case measure => simp [intOf]; omega
    have hd : ((k : Int) % 2 == 1) = true := by simp; omega
    have HSTP := Lib.hid (show powL p g (k / 2) RO RS = Z by have h0 := HSTP.out; rwa [if_pos h1] at h0)
    clear h1
    go_wp2_with (fail)
    refine (specTms p AO _ cO b8 0 O AS _ cS b9 0 S _ HI8.out HI9.out HP.out HF2.out HF1.out (by omega) (by omega)).mono ?_
    rw [HTO.out]
    rintro e wa1 ⟨Aa, ca, rfl, hOa, hBa⟩
    obtain ⟨ba, hIa, hAa⟩ := OI.iaA hOa
    have hca := OI.capLe hOa
    have HIa := Lib.hid hIa
    have HI9 := Lib.hid (HI9.out.below hBa)
    have HBR := Lib.hid (below_more HBR.out hBa)
    clear hOa hIa hBa
    go_wp2_with (fail)
    refine (specTrim Aa _ ca ba 0 TO _ HIa.out (by omega) hca hAa).mono ?_
    rw [HU4.out]
    rintro e wb1 ⟨Ab, cb, rfl, hOb, hBb⟩
    obtain ⟨bb, hIb⟩ := OI.ia hOb
    have HIb := Lib.hid hIb
    have HI9 := Lib.hid (HI9.out.below hBb)
    have HBR := Lib.hid (below_more HBR.out hBb)
    clear hOb hIb hBb hAa HIa hca
    go_wp2_with (fail)
    refine (specDivide p Ab _ cb bb 0 TO A n c b o g _ HIb.out (H.out.below HBR.out) HP.out HF6.out HGV.out (by omega) (by omega) (by omega)).mono ?_
    rw [HRO.out]
    rintro e wc1 ⟨Ac, cc, Ad, cd, rfl, hOc, hOd, _, hBc⟩
    have hsz1 := HBR.out.size
    have HNO := Lib.hid (owns_mono hOd (show w.heap.size ≤ wb1.heap.size from hsz1))
    have HI9 := Lib.hid (HI9.out.below hBc)
    have HBR := Lib.hid (below_more HBR.out hBc)
    clear hOc hOd hBc HIb
    obtain ⟨AO2, cO2, hAO2, hcO2⟩ : ∃ A2 c2, A2 = Ad ∧ c2 = cd := ⟨_, _, rfl, rfl⟩
    subst hAO2 hcO2
    go_wp2_with (fail)
    refine (specTms p AS _ cS b9 0 S AS _ cS b9 0 S _ HI9.out HI9.out HP.out HF1.out HF1.out (by omega) (by omega)).mono ?_
    rw [HTS.out]
    rintro e wa2 ⟨Aa, ca, rfl, hOa, hBa⟩
    obtain ⟨ba, hIa, hAa⟩ := OI.iaA hOa
    have hca := OI.capLe hOa
    have HIa := Lib.hid hIa
    have HI9 := Lib.hid (HI9.out.below hBa)
    have HNO := Lib.hid (owns_below HNO.out hBa)
    have HBR := Lib.hid (below_more HBR.out hBa)
    clear hOa hIa hBa
    go_wp2_with (fail)
    refine (specTrim Aa _ ca ba 0 TS _ HIa.out (by omega) hca hAa).mono ?_
    rw [HQ4.out]
    rintro e wb2 ⟨Ab, cb, rfl, hOb, hBb⟩
    obtain ⟨bb, hIb⟩ := OI.ia hOb
    have HIb := Lib.hid hIb
    have HI9 := Lib.hid (HI9.out.below hBb)
    have HNO := Lib.hid (owns_below HNO.out hBb)
    have HBR := Lib.hid (below_more HBR.out hBb)
    clear hOb hIb hBb hAa HIa hca
    go_wp2_with (fail)
    refine (specDivide p Ab _ cb bb 0 TS A n c b o g _ HIb.out (H.out.below HBR.out) HP.out HF3.out HGV.out (by omega) (by omega) (by omega)).mono ?_
    rw [HRS.out]
    rintro e wc2 ⟨Ac, cc, Ad, cd, rfl, hOc, hOd, _, hBc⟩
    have hsz2 := HBR.out.size
    have HNS := Lib.hid (owns_mono hOd (show w.heap.size ≤ wb2.heap.size from hsz2))
    have HI9 := Lib.hid (HI9.out.below hBc)
    have HNO := Lib.hid (owns_below HNO.out hBc)
    have HBR := Lib.hid (below_more HBR.out hBc)
    clear hOc hOd hBc HIb
    go_wp2_with (fail)
    go_roundw
    case rel => exact ⟨k / 2, RO, RS, _, _, Ad, cd, by omega, by first | rfl | exact congrArg (Value.int .i64) HHF.out | go_num, rfl, rfl, HSTP, HU1, u2, HQ1, q2, HNO.out, HNS.out, HBR.out⟩
    case measure => simp [intOf]; omega
end Go.Proofs.Ytghiaflnlobopaa

/-
  The walk of the law of PolyTimes.
-/
import Derived.Test.YtmmadmfpbancmaaITimes
import Derived.Test.YtmmadmfpbancmaaDrawR
import Derived.Test.YtmmadmfpbancmaaSame
import Derived.Test.YtmmadmfpbancmaaEx
import Derived.Test.YtmmadmfpbancmaaIAt
import Derived.Test.YtmmadmfpbancmaaWPolyDivide
import Derived.Test.YtmmadmfpbancmaaPolM
namespace Go.Proofs.Ytmmadmfpbancmaa
open Go.RowKit
theorem times_facts {p : Int} {f g h : List Int} (hh : polTimes p f g = some h) : polB p h = true ∧ polB p f = true ∧ polB p g = true ∧ h.length = tmsN f g ∧ ∀ k, numB p k = true → polAt p h k = numTimes p (polAt p f k) (polAt p g k) := by
  unfold polTimes at hh
  split at hh
  · rename_i hc
    injection hh with hh
    subst hh
    have hp := (serB_true (polB_ser hc.1)).1
    have hP := tmsL_pol hc.1 hc.2.1 hc.2.2
    refine ⟨hP, hc.1, hc.2.1, tmsL_len p f g, fun k hk => ?_⟩
    unfold polAt
    rw [if_pos ⟨hP, hk⟩, if_pos ⟨hc.1, hk⟩, if_pos ⟨hc.2.1, hk⟩]
    refine at_times hp (fun i => ?_)
    rw [co_tmsL]
    exact near_mod p _
  · exact absurd hh (by simp)
set_option maxRecDepth 100000 in
set_option maxHeartbeats 2000000 in
theorem walkFnPolyTimes (a : Option Addr) (len cap : Nat) (zs : List Int) (w : World) (h : IsRow .u8 w a len cap zs) :
    Calls Try.prog 9 #[.slice a len cap] w fun e w' => e = .returned (.bool true) ∧ Below w.heap.size w w' := by
  have hm : len ≤ 9223372036854775807 := by have := rowBytes h; unfold maxLen at this; omega
  by_cases hb : 1048576 < len
  · go_enter Try.func9, Try.ntmps9
    go_wp2_with (fail)
    go_ret
    exact ⟨rfl, Below.refl _ _⟩
  have hd0 : decide (1048576 < (len : Int)) = false := by simp; omega
  go_enter Try.func9, Try.ntmps9
  go_wp2_with (fail)
  refine (drawPolyTimes a len cap zs w h).mono ?_
  rintro e w1 ⟨p, Af, cf, f, Ag, cg, g, rfl, hp0, hp1, hfl, hgl, hO, hO2, hB⟩
  obtain ⟨bf, hRf⟩ := hO.ia
  obtain ⟨bg, hRg⟩ := hO2.ia
  have HF := Lib.hid hRf
  have HG := Lib.hid hRg
  clear hRf hRg hO hO2 h hp0 hp1
  rcases hD : polTimes p f g with _ | h
  · have HD := Lib.hid hD
    clear hD
    go_wp2_with (fail)
    refine (implPolyTimes p Af f.length cf bf 0 f Ag g.length cg bg 0 g _ HF.out HG.out).mono ?_
    rw [HD.out]
    rintro e w_1 hMq
    obtain ⟨AQ, cQ, bQ, rfl, hRq0, hBq⟩ := made1_none hMq
    have HQ_1 := Lib.hid hRq0
    have HF_1 := Lib.hid (HF.out.below hBq)
    have HG_1 := Lib.hid (HG.out.below hBq)
    have hK_1 := below_more hB hBq
    clear hBq hRq0 hMq
    go_wp2_with (fail)
    refine (specPolyTimes p Af f.length cf bf 0 f Ag g.length cg bg 0 g _ HF_1.out HG_1.out).mono ?_
    rw [HD.out]
    rintro e w_2 hMq
    obtain ⟨AX, cX, bX, rfl, hRq0, hBq⟩ := made1_none hMq
    have HX_2 := Lib.hid hRq0
    have HF_2 := Lib.hid (HF_1.out.below hBq)
    have HG_2 := Lib.hid (HG_1.out.below hBq)
    have HQ_2 := Lib.hid (HQ_1.out.below hBq)
    have hK_2 := below_more hK_1 hBq
    clear hBq hRq0 hMq
    go_wp2_with (fail)
    refine (sameIntsC AQ 0 cQ bQ 0 [] AX 0 cX bX 0 [] _ HQ_2.out HX_2.out).mono ?_
    rintro e w_3 ⟨rfl, hm_3⟩
    rw [decide_eq_true (rfl : ([] : List Int) = [])]
    have HF_3 := Lib.hid (HF_2.out.drewN hm_3)
    have HG_3 := Lib.hid (HG_2.out.drewN hm_3)
    have HQ_3 := Lib.hid (HQ_2.out.drewN hm_3)
    have HX_3 := Lib.hid (HX_2.out.drewN hm_3)
    have hK_3 := below_drawn hK_2 hm_3
    clear hm_3
    go_wp2_with (fail)
    refine (alive _).mono ?_
    rintro e w_4 ⟨rfl, rfl⟩
    go_wp2_with (fail)
    go_ret
    exact ⟨rfl, hK_3⟩
  · have HD := Lib.hid hD
    obtain ⟨hP, hPf, hPg, hlen, hat⟩ := times_facts hD
    have hpb := prime_ge (serB_true (polB_ser hP)).1
    have hfl := (serB_true (polB_ser hPf)).2.1
    have hgl := (serB_true (polB_ser hPg)).2.1
    have hhl := (serB_true (polB_ser hP)).2.1
    have HPR := Lib.hid (serB_true (polB_ser hP)).1
    have HP := Lib.hid hP
    have HAT := Lib.hid hat
    clear hD hP hPf hPg hat
    have HLN := Lib.hid hlen
    clear hlen
    go_wp2_with (fail)
    refine (implPolyTimes p Af f.length cf bf 0 f Ag g.length cg bg 0 g _ HF.out HG.out).mono ?_
    rw [HD.out]
    rintro e w_1 hMq
    obtain ⟨AQ, cQ, bQ, rfl, hRq0, hBq⟩ := made1_some hMq
    have HQ_1 := Lib.hid hRq0
    have HF_1 := Lib.hid (HF.out.below hBq)
    have HG_1 := Lib.hid (HG.out.below hBq)
    have hK_1 := below_more hB hBq
    clear hBq hRq0 hMq
    go_wp2_with (fail)
    refine (specPolyTimes p Af f.length cf bf 0 f Ag g.length cg bg 0 g _ HF_1.out HG_1.out).mono ?_
    rw [HD.out]
    rintro e w_2 hMq
    obtain ⟨AX, cX, bX, rfl, hRq0, hBq⟩ := made1_some hMq
    have HX_2 := Lib.hid hRq0
    have HF_2 := Lib.hid (HF_1.out.below hBq)
    have HG_2 := Lib.hid (HG_1.out.below hBq)
    have HQ_2 := Lib.hid (HQ_1.out.below hBq)
    have hK_2 := below_more hK_1 hBq
    clear hBq hRq0 hMq
    go_wp2_with (fail)
    refine (sameIntsC AQ h.length cQ bQ 0 h AX h.length cX bX 0 h _ HQ_2.out HX_2.out).mono ?_
    rintro e w_3 ⟨rfl, hm_3⟩
    rw [decide_eq_true (rfl : h = h)]
    have HF_3 := Lib.hid (HF_2.out.drewN hm_3)
    have HG_3 := Lib.hid (HG_2.out.drewN hm_3)
    have HQ_3 := Lib.hid (HQ_2.out.drewN hm_3)
    have HX_3 := Lib.hid (HX_2.out.drewN hm_3)
    have hK_3 := below_drawn hK_2 hm_3
    clear hm_3
    have HK := Lib.hid hK_3
    clear hK_1 hK_2 hK_3
    go_wp2_with (fail)
    go_loopw [10] (fun i wr => ∃ k : Nat, (k : Int) ≤ p ∧ i = .int .i64 (k : Int) ∧ Below w_3.heap.size w_3 wr) (fun i _ => (p - intOf i).toNat)
    case atStart => exact ⟨0, by omega, rfl, Below.refl _ _⟩
    case round =>
      obtain ⟨k, hkp, rfl, hBr⟩ := hrel
      have HFr := Lib.hid (HF_3.out.below hBr)
      have HGr := Lib.hid (HG_3.out.below hBr)
      have HQr := Lib.hid (HQ_3.out.below hBr)
      have hBr0 := hBr
      have hBr' := HK.out.trans (hBr.mono HK.out.size)
      clear hBr
      by_cases hk : (k : Int) < p
      · have hnk : numB p k = true := numB_mk HPR.out (by omega) hk
        have hwk : IntKind.i64.wrap ((k : Int) + 1) = ((k + 1 : Nat) : Int) := by rw [IntWalk.i64_in _ ⟨by omega, by omega⟩]; omega
        obtain ⟨v1, hv1⟩ : ∃ v, polAt p h k = v := ⟨_, rfl⟩
        obtain ⟨v2, hv2⟩ : ∃ v, polAt p f k = v := ⟨_, rfl⟩
        obtain ⟨v3, hv3⟩ : ∃ v, polAt p g k = v := ⟨_, rfl⟩
        have HE := Lib.hid (show numTimes p v2 v3 = v1 by rw [← hv1, ← hv2, ← hv3]; exact (HAT.out k hnk).symm)
        have hV1 := Lib.hid hv1
        have hV2 := Lib.hid hv2
        have hV3 := Lib.hid hv3
        clear hv1 hv2 hv3 hnk
        go_wp2_with (fail)
        refine (implPolyAt p AQ h.length cQ bQ 0 h k _ HQr.out).mono ?_
        rw [hV1.out]
        rintro e w_4 ⟨rfl, hBq⟩
        have HF_4 := Lib.hid (HFr.out.below hBq)
        have HG_4 := Lib.hid (HGr.out.below hBq)
        have HQ_4 := Lib.hid (HQr.out.below hBq)
        have hK_4 := below_more hBr' hBq
        have hBt_1 := below_more hBr0 hBq
        clear hBq
        go_wp2_with (fail)
        refine (implPolyAt p Af f.length cf bf 0 f k _ HF_4.out).mono ?_
        rw [hV2.out]
        rintro e w_5 ⟨rfl, hBq⟩
        have HF_5 := Lib.hid (HF_4.out.below hBq)
        have HG_5 := Lib.hid (HG_4.out.below hBq)
        have HQ_5 := Lib.hid (HQ_4.out.below hBq)
        have hK_5 := below_more hK_4 hBq
        have hBt_2 := below_more hBt_1 hBq
        clear hBq
        go_wp2_with (fail)
        refine (implPolyAt p Ag g.length cg bg 0 g k _ HG_5.out).mono ?_
        rw [hV3.out]
        rintro e w_6 ⟨rfl, hBq⟩
        have HF_6 := Lib.hid (HF_5.out.below hBq)
        have HG_6 := Lib.hid (HG_5.out.below hBq)
        have HQ_6 := Lib.hid (HQ_5.out.below hBq)
        have hK_6 := below_more hK_5 hBq
        have hBt_3 := below_more hBt_2 hBq
        clear hBq
        go_wp2_with (fail)
        refine (implNumTimes p v2 v3 _).mono ?_
        rintro e w_7 ⟨rfl, rfl⟩
        rw [HE.out]
        go_wp2_with (fail)
        go_roundw
        case rel => exact ⟨k + 1, by omega, by first | rfl | exact congrArg _ hwk, hBt_3⟩
        case measure => simp [intOf]; omega
      · obtain rfl : p = (k : Int) := by omega
        clear hk
        have HV := Lib.hid HP.out
        go_wp2_with (fail)
        refine (implPolyValid _ AQ h.length cQ bQ 0 h _ HQr.out).mono ?_
        rintro e w_4 ⟨rfl, rfl⟩
        rw [HP.out]
        have hcases : (f.length = 0 ∧ h.length = 0) ∨ (0 < f.length ∧ g.length = 0 ∧ h.length = 0) ∨ (0 < f.length ∧ 0 < g.length ∧ h.length + 1 = f.length + g.length) := by
          have hlen := HLN.out
          unfold tmsN at hlen
          split at hlen <;> omega
        rcases hcases with ⟨hf0, hh0⟩ | hcases
        · go_wp2_with (fail)
          all_goals
            go_ret
            exact ⟨rfl, hBr'⟩
        rcases hcases with ⟨hf1, hg0, hh0⟩ | hcases
        · go_wp2_with (fail)
          all_goals
            go_ret
            exact ⟨rfl, hBr'⟩
        obtain ⟨hf1, hg1, hs⟩ := hcases
        have hw1 : IntKind.i64.wrap ((f.length : Int) + (g.length : Int)) = (f.length : Int) + (g.length : Int) := IntWalk.i64_in _ ⟨by omega, by omega⟩
        have hw2 : IntKind.i64.wrap ((f.length : Int) + (g.length : Int) - 1) = (f.length : Int) + (g.length : Int) - 1 := IntWalk.i64_in _ ⟨by omega, by omega⟩
        have hz1 : ((f.length : Int) == 0) = false := beq_eq_false_iff_ne.2 (by omega)
        have hz2 : ((g.length : Int) == 0) = false := beq_eq_false_iff_ne.2 (by omega)
        have hz3 : ((h.length : Int) == (f.length : Int) + (g.length : Int) - 1) = true := beq_iff_eq.2 (by omega)
        go_wp2_with (fail)
        all_goals
          go_ret
          exact ⟨rfl, hBr'⟩
end Go.Proofs.Ytmmadmfpbancmaa

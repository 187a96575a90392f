/-
  The walk of the law of PolyDivide.
-/
import Derived.Test.YtmmadmfpbancmaaIDiv
import Derived.Test.YtmmadmfpbancmaaITimes
import Derived.Test.YtmmadmfpbancmaaIAdd
import Derived.Test.YtmmadmfpbancmaaDrawR
import Derived.Test.YtmmadmfpbancmaaSame
import Derived.Test.YtmmadmfpbancmaaEx
namespace Go.Proofs.Ytmmadmfpbancmaa
open Go.RowKit
theorem made2_some {q r : List Int} {w w' : World} {e : Ending} (h : MadeO2 (some (q, r)) w e w') : ∃ (A : Option Addr) (c b : Nat) (A' : Option Addr) (c' b' : Nat), e = .returned (.tuple #[.slice A q.length c, .slice A' r.length c', .bool true]) ∧ IA w' A q.length b 0 q ∧ IA w' A' r.length b' 0 r ∧ Below w.heap.size w w' := by
  obtain ⟨A, c, A', c', rfl, h1, h2, _, hb⟩ := h
  obtain ⟨b1, i1⟩ := h1.ia
  obtain ⟨b2, i2⟩ := h2.ia
  exact ⟨A, c, b1, A', c', b2, rfl, i1, i2, hb⟩
theorem made2_none {w w' : World} {e : Ending} (h : MadeO2 none w e w') : ∃ (A : Option Addr) (c b : Nat) (A' : Option Addr) (c' b' : Nat), e = .returned (.tuple #[.slice A 0 c, .slice A' 0 c', .bool false]) ∧ IA w' A 0 b 0 [] ∧ IA w' A' 0 b' 0 [] ∧ Below w.heap.size w w' := by
  obtain ⟨A, c, A', c', rfl, h1, h2, _, hb⟩ := h
  obtain ⟨b1, i1⟩ := h1.ia
  obtain ⟨b2, i2⟩ := h2.ia
  exact ⟨A, c, b1, A', c', b2, rfl, i1, i2, hb⟩
theorem made1_some {q : List Int} {w w' : World} {e : Ending} (h : MadeO (some q) w e w') : ∃ (A : Option Addr) (c b : Nat), e = .returned (.tuple #[.slice A q.length c, .bool true]) ∧ IA w' A q.length b 0 q ∧ Below w.heap.size w w' := by
  obtain ⟨A, c, rfl, h1, hb⟩ := h
  obtain ⟨b1, i1⟩ := h1.ia
  exact ⟨A, c, b1, rfl, i1, hb⟩
theorem made1_none {w w' : World} {e : Ending} (h : MadeO none w e w') : ∃ (A : Option Addr) (c b : Nat), e = .returned (.tuple #[.slice A 0 c, .bool false]) ∧ IA w' A 0 b 0 [] ∧ Below w.heap.size w w' := by
  obtain ⟨A, c, rfl, h1, hb⟩ := h
  obtain ⟨b1, i1⟩ := h1.ia
  exact ⟨A, c, b1, rfl, i1, hb⟩
theorem quo_fits {p : Int} {f g : List Int} (hf : serB p f = true) (hg : polB p g = true) (h1 : 1 ≤ g.length) : tmsN g (quoL p f g) ≤ 24 := by
  have hfl := (serB_true hf).2.1
  have hgl := (serB_true (polB_ser hg)).2.1
  have hdn : divN f g + g.length ≤ f.length + 1 ∨ divN f g = 0 := by
    unfold divN; split <;> omega
  have := (div_law hf hg h1).2.2.1
  unfold tmsN
  split <;> omega
theorem div_whole {p : Int} {f g q r : List Int} (h : polDiv p f g = some (q, r)) : polTimes p g q = some (tmsL p g q) ∧ polAdd p (tmsL p g q) r = some f ∧ r.length < g.length := by
  unfold polDiv at h
  split at h
  · rename_i hc
    obtain ⟨hf, hg, hn⟩ := hc
    injection h with h
    injection h with hq hr
    subst hq; subst hr
    have hfs := polB_ser hf
    obtain ⟨h1, h2, h3, h4, h5⟩ := div_law hfs hg (by omega)
    have hfit := quo_fits hfs hg (by omega)
    have hT := tmsL_pol hg h1 hfit
    refine ⟨by unfold polTimes; rw [if_pos ⟨hg, h1, hfit⟩], ?_, h4⟩
    unfold polAdd
    rw [if_pos ⟨hT, h2⟩]
    refine congrArg some (pol_ext' (addL_pol 1 (polB_ser hT) (polB_ser h2)) hf (fun k => ?_))
    rw [co_addL, co_tmsL]
    have hb := co_bd hfs k
    have hd := h5 k
    rw [Int.emod_add_emod, Int.one_mul, ← mod_of_near hd, Int.emod_eq_of_lt hb.1 hb.2]
  · exact absurd h (by simp)
set_option maxRecDepth 100000 in
set_option maxHeartbeats 2000000 in
theorem walkFnPolyDivide (a : Option Addr) (len cap : Nat) (zs : List Int) (w : World) (h : IsRow .u8 w a len cap zs) :
    Calls Try.prog 11 #[.slice a len cap] w fun e w' => e = .returned (.bool true) ∧ Below w.heap.size w w' := by
  have hm : len ≤ 9223372036854775807 := by have := rowBytes h; unfold maxLen at this; omega
  by_cases hb : 1048576 < len
  · go_enter Try.func11, Try.ntmps11
    go_wp2_with (fail)
    go_ret
    exact ⟨rfl, Below.refl _ _⟩
  have hd0 : decide (1048576 < (len : Int)) = false := by simp; omega
  go_enter Try.func11, Try.ntmps11
  go_wp2_with (fail)
  refine (drawPolyDivide a len cap zs w h).mono ?_
  rintro e w1 ⟨p, Af, cf, f, Ag, cg, g, rfl, hp0, hp1, hfl, hgl, hO, hO2, hB⟩
  obtain ⟨bf, hRf⟩ := hO.ia
  obtain ⟨bg, hRg⟩ := hO2.ia
  have HF := Lib.hid hRf
  have HG := Lib.hid hRg
  clear hRf hRg hO hO2 h hp0 hp1
  rcases hD : polDiv p f g with _ | ⟨q, r⟩
  · have HD := Lib.hid hD
    clear hD
    go_wp2_with (fail)
    refine (implPolyDivide p Af f.length cf bf 0 f Ag g.length cg bg 0 g _ HF.out HG.out).mono ?_
    rw [HD.out]
    rintro e w_1 hMq
    obtain ⟨AQ, cQ, bQ, AR, cR, bR, rfl, hRq0, hRq1, hBq⟩ := made2_none hMq
    have HQ_1 := Lib.hid hRq0
    have HR_1 := Lib.hid hRq1
    have HF_1 := Lib.hid (HF.out.below hBq)
    have HG_1 := Lib.hid (HG.out.below hBq)
    have hK_1 := below_more hB hBq
    clear hBq hRq0 hRq1 hMq
    go_wp2_with (fail)
    refine (specPolyDivide p Af f.length cf bf 0 f Ag g.length cg bg 0 g _ HF_1.out HG_1.out).mono ?_
    rw [HD.out]
    rintro e w_2 hMq
    obtain ⟨AX, cX, bX, AY, cY, bY, rfl, hRq0, hRq1, hBq⟩ := made2_none hMq
    have HX_2 := Lib.hid hRq0
    have HY_2 := Lib.hid hRq1
    have HF_2 := Lib.hid (HF_1.out.below hBq)
    have HG_2 := Lib.hid (HG_1.out.below hBq)
    have HQ_2 := Lib.hid (HQ_1.out.below hBq)
    have HR_2 := Lib.hid (HR_1.out.below hBq)
    have hK_2 := below_more hK_1 hBq
    clear hBq hRq0 hRq1 hMq
    go_wp2_with (fail)
    refine (sameIntsC AQ 0 cQ bQ 0 [] AX 0 cX bX 0 [] _ HQ_2.out HX_2.out).mono ?_
    rintro e w_3 ⟨rfl, hm_3⟩
    rw [decide_eq_true (rfl : ([] : List Int) = [])]
    have HF_3 := Lib.hid (HF_2.out.drewN hm_3)
    have HG_3 := Lib.hid (HG_2.out.drewN hm_3)
    have HQ_3 := Lib.hid (HQ_2.out.drewN hm_3)
    have HR_3 := Lib.hid (HR_2.out.drewN hm_3)
    have HX_3 := Lib.hid (HX_2.out.drewN hm_3)
    have HY_3 := Lib.hid (HY_2.out.drewN hm_3)
    have hK_3 := below_drawn hK_2 hm_3
    clear hm_3
    go_wp2_with (fail)
    refine (sameIntsC AR 0 cR bR 0 [] AY 0 cY bY 0 [] _ HR_3.out HY_3.out).mono ?_
    rintro e w_4 ⟨rfl, hm_4⟩
    rw [decide_eq_true (rfl : ([] : List Int) = [])]
    have HF_4 := Lib.hid (HF_3.out.drewN hm_4)
    have HG_4 := Lib.hid (HG_3.out.drewN hm_4)
    have HQ_4 := Lib.hid (HQ_3.out.drewN hm_4)
    have HR_4 := Lib.hid (HR_3.out.drewN hm_4)
    have HX_4 := Lib.hid (HX_3.out.drewN hm_4)
    have HY_4 := Lib.hid (HY_3.out.drewN hm_4)
    have hK_4 := below_drawn hK_3 hm_4
    clear hm_4
    go_wp2_with (fail)
    refine (alive _).mono ?_
    rintro e w_5 ⟨rfl, rfl⟩
    go_wp2_with (fail)
    go_ret
    exact ⟨rfl, hK_4⟩
  · have HD := Lib.hid hD
    obtain ⟨hT, hS, hlt⟩ := div_whole hD
    have hltd : decide ((r.length : Int) < (g.length : Int)) = true := decide_eq_true (by omega)
    obtain ⟨M, hM⟩ : ∃ M, tmsL p g q = M := ⟨_, rfl⟩
    rw [hM] at hT hS
    have HT := Lib.hid hT
    have HSM := Lib.hid hS
    clear hD hT hS hM
    go_wp2_with (fail)
    refine (implPolyDivide p Af f.length cf bf 0 f Ag g.length cg bg 0 g _ HF.out HG.out).mono ?_
    rw [HD.out]
    rintro e w_1 hMq
    obtain ⟨AQ, cQ, bQ, AR, cR, bR, rfl, hRq0, hRq1, hBq⟩ := made2_some hMq
    have HQ_1 := Lib.hid hRq0
    have HR_1 := Lib.hid hRq1
    have HF_1 := Lib.hid (HF.out.below hBq)
    have HG_1 := Lib.hid (HG.out.below hBq)
    have hK_1 := below_more hB hBq
    clear hBq hRq0 hRq1 hMq
    go_wp2_with (fail)
    refine (specPolyDivide p Af f.length cf bf 0 f Ag g.length cg bg 0 g _ HF_1.out HG_1.out).mono ?_
    rw [HD.out]
    rintro e w_2 hMq
    obtain ⟨AX, cX, bX, AY, cY, bY, rfl, hRq0, hRq1, hBq⟩ := made2_some hMq
    have HX_2 := Lib.hid hRq0
    have HY_2 := Lib.hid hRq1
    have HF_2 := Lib.hid (HF_1.out.below hBq)
    have HG_2 := Lib.hid (HG_1.out.below hBq)
    have HQ_2 := Lib.hid (HQ_1.out.below hBq)
    have HR_2 := Lib.hid (HR_1.out.below hBq)
    have hK_2 := below_more hK_1 hBq
    clear hBq hRq0 hRq1 hMq
    go_wp2_with (fail)
    refine (sameIntsC AQ q.length cQ bQ 0 q AX q.length cX bX 0 q _ HQ_2.out HX_2.out).mono ?_
    rintro e w_3 ⟨rfl, hm_3⟩
    rw [decide_eq_true (rfl : q = q)]
    have HF_3 := Lib.hid (HF_2.out.drewN hm_3)
    have HG_3 := Lib.hid (HG_2.out.drewN hm_3)
    have HQ_3 := Lib.hid (HQ_2.out.drewN hm_3)
    have HR_3 := Lib.hid (HR_2.out.drewN hm_3)
    have HX_3 := Lib.hid (HX_2.out.drewN hm_3)
    have HY_3 := Lib.hid (HY_2.out.drewN hm_3)
    have hK_3 := below_drawn hK_2 hm_3
    clear hm_3
    go_wp2_with (fail)
    refine (sameIntsC AR r.length cR bR 0 r AY r.length cY bY 0 r _ HR_3.out HY_3.out).mono ?_
    rintro e w_4 ⟨rfl, hm_4⟩
    rw [decide_eq_true (rfl : r = r)]
    have HF_4 := Lib.hid (HF_3.out.drewN hm_4)
    have HG_4 := Lib.hid (HG_3.out.drewN hm_4)
    have HQ_4 := Lib.hid (HQ_3.out.drewN hm_4)
    have HR_4 := Lib.hid (HR_3.out.drewN hm_4)
    have HX_4 := Lib.hid (HX_3.out.drewN hm_4)
    have HY_4 := Lib.hid (HY_3.out.drewN hm_4)
    have hK_4 := below_drawn hK_3 hm_4
    clear hm_4
    go_wp2_with (fail)
    refine (implPolyTimes p Ag g.length cg bg 0 g AQ q.length cQ bQ 0 q _ HG_4.out HQ_4.out).mono ?_
    rw [HT.out]
    rintro e w_5 hMq
    obtain ⟨AM, cM, bM, rfl, hRq0, hBq⟩ := made1_some hMq
    have HM_5 := Lib.hid hRq0
    have HF_5 := Lib.hid (HF_4.out.below hBq)
    have HG_5 := Lib.hid (HG_4.out.below hBq)
    have HQ_5 := Lib.hid (HQ_4.out.below hBq)
    have HR_5 := Lib.hid (HR_4.out.below hBq)
    have HX_5 := Lib.hid (HX_4.out.below hBq)
    have HY_5 := Lib.hid (HY_4.out.below hBq)
    have hK_5 := below_more hK_4 hBq
    clear hBq hRq0 hMq
    go_wp2_with (fail)
    refine (implPolyAdd p AM M.length cM bM 0 M AR r.length cR bR 0 r _ HM_5.out HR_5.out).mono ?_
    rw [HSM.out]
    rintro e w_6 hMq
    obtain ⟨AS, cS, bS, rfl, hRq0, hBq⟩ := made1_some hMq
    have HS_6 := Lib.hid hRq0
    have HF_6 := Lib.hid (HF_5.out.below hBq)
    have HG_6 := Lib.hid (HG_5.out.below hBq)
    have HQ_6 := Lib.hid (HQ_5.out.below hBq)
    have HR_6 := Lib.hid (HR_5.out.below hBq)
    have HX_6 := Lib.hid (HX_5.out.below hBq)
    have HY_6 := Lib.hid (HY_5.out.below hBq)
    have HM_6 := Lib.hid (HM_5.out.below hBq)
    have hK_6 := below_more hK_5 hBq
    clear hBq hRq0 hMq
    go_wp2_with (fail)
    refine (sameIntsC AS f.length cS bS 0 f Af f.length cf bf 0 f _ HS_6.out HF_6.out).mono ?_
    rintro e w_7 ⟨rfl, hm_7⟩
    rw [decide_eq_true (rfl : f = f)]
    have HF_7 := Lib.hid (HF_6.out.drewN hm_7)
    have HG_7 := Lib.hid (HG_6.out.drewN hm_7)
    have HQ_7 := Lib.hid (HQ_6.out.drewN hm_7)
    have HR_7 := Lib.hid (HR_6.out.drewN hm_7)
    have HX_7 := Lib.hid (HX_6.out.drewN hm_7)
    have HY_7 := Lib.hid (HY_6.out.drewN hm_7)
    have HM_7 := Lib.hid (HM_6.out.drewN hm_7)
    have HS_7 := Lib.hid (HS_6.out.drewN hm_7)
    have hK_7 := below_drawn hK_6 hm_7
    clear hm_7
    go_wp2_with (fail)
    go_ret
    exact ⟨rfl, hK_7⟩
end Go.Proofs.Ytmmadmfpbancmaa

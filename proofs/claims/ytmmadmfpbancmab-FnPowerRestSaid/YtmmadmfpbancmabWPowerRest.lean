/-
  The walk of the law of PowerRest.
-/
import Derived.Test.YtmmadmfpbancmabSPow
import Derived.Test.YtmmadmfpbancmabIPow
import Derived.Test.YtmmadmfpbancmabIDiv
import Derived.Test.YtmmadmfpbancmabITimes
import Derived.Test.YtmmadmfpbancmabDrawA
import Derived.Test.YtmmadmfpbancmabSame
import Derived.Test.YtmmadmfpbancmabEx
namespace Go.Proofs.Ytmmadmfpbancmab
open Go.RowKit
theorem made2_some {q r : List Int} {w w' : World} {e : Ending} (h : MadeO2 (some (q, r)) w e w') : ∃ (A : Option Addr) (c b : Nat) (A' : Option Addr) (c' b' : Nat), e = .returned (.tuple #[.slice A q.length c, .slice A' r.length c', .bool true]) ∧ IA w' A q.length b 0 q ∧ IA w' A' r.length b' 0 r ∧ Below w.heap.size w w' := by
  obtain ⟨A, c, A', c', rfl, h1, h2, _, hb⟩ := h
  obtain ⟨b1, i1⟩ := h1.ia
  obtain ⟨b2, i2⟩ := h2.ia
  exact ⟨A, c, b1, A', c', b2, rfl, i1, i2, hb⟩
theorem made2_none {w w' : World} {e : Ending} (h : MadeO2 none w e w') : ∃ (A : Option Addr) (c b : Nat) (A' : Option Addr) (c' b' : Nat), e = .returned (.tuple #[.slice A 0 c, .slice A' 0 c', .bool false]) ∧ IA w' A 0 b 0 [] ∧ IA w' A' 0 b' 0 [] ∧ Below w.heap.size w w' := by
  obtain ⟨A, c, A', c', rfl, h1, h2, _, hb⟩ := h
  obtain ⟨b1, i1⟩ := h1.ia
  obtain ⟨b2, i2⟩ := h2.ia
  exact ⟨A, c, b1, A', c', b2, rfl, i1, i2, hb⟩
theorem made1_some {q : List Int} {w w' : World} {e : Ending} (h : MadeO (some q) w e w') : ∃ (A : Option Addr) (c b : Nat), e = .returned (.tuple #[.slice A q.length c, .bool true]) ∧ IA w' A q.length b 0 q ∧ Below w.heap.size w w' := by
  obtain ⟨A, c, rfl, h1, hb⟩ := h
  obtain ⟨b1, i1⟩ := h1.ia
  exact ⟨A, c, b1, rfl, i1, hb⟩
theorem made1_none {w w' : World} {e : Ending} (h : MadeO none w e w') : ∃ (A : Option Addr) (c b : Nat), e = .returned (.tuple #[.slice A 0 c, .bool false]) ∧ IA w' A 0 b 0 [] ∧ Below w.heap.size w w' := by
  obtain ⟨A, c, rfl, h1, hb⟩ := h
  obtain ⟨b1, i1⟩ := h1.ia
  exact ⟨A, c, b1, rfl, i1, hb⟩
theorem powO_some {p : Int} {g F : List Int} {x : Int} (h : powO p g x = some F) : polB p g = true ∧ 2 ≤ g.length ∧ g.length ≤ 12 ∧ 0 ≤ x ∧ x ≤ 1000000 ∧ F = powR p g x.toNat := by
  unfold powO at h
  split at h
  · rename_i hc
    injection h with h
    exact ⟨hc.1, hc.2.1, hc.2.2.1, hc.2.2.2.1, hc.2.2.2.2, h.symm⟩
  · exact absurd h (by simp)
theorem powO_ok {p : Int} {g : List Int} {N : Nat} {x : Int} (hg : polB p g = true) (h2 : 2 ≤ g.length) (h12 : g.length ≤ 12) (hN : N ≤ 1000000) (hx : x = N) : powO p g x = some (powR p g N) := by
  unfold powO; rw [if_pos ⟨hg, h2, h12, by omega, by omega⟩, show x.toNat = N by omega]
theorem pow_whole {p : Int} {g : List Int} (hg : polB p g = true) (h2 : 2 ≤ g.length) (h12 : g.length ≤ 12) (N : Nat) :
    polTimes p (powR p g (N / 2)) (powR p g (N - N / 2)) = some (tmsL p (powR p g (N / 2)) (powR p g (N - N / 2))) ∧
    (∃ q, polDiv p (tmsL p (powR p g (N / 2)) (powR p g (N - N / 2))) g = some (q, powR p g N)) ∧
    (∃ q, polDiv p [1] g = some (q, powR p g 0)) ∧ (powR p g N).length < g.length ∧ (powR p g (N / 2)).length < g.length ∧ (powR p g (N - N / 2)).length < g.length ∧ (powR p g 0).length < g.length ∧ (tmsL p (powR p g (N / 2)) (powR p g (N - N / 2))).length ≤ 24 := by
  obtain ⟨a1, a2, _⟩ := powR_law hg (by omega) h12 (N / 2)
  obtain ⟨b1, b2, _⟩ := powR_law hg (by omega) h12 (N - N / 2)
  obtain ⟨c1, c2, _⟩ := powR_law hg (by omega) h12 N
  obtain ⟨d1, d2, _⟩ := powR_law hg (by omega) h12 0
  obtain ⟨e1, e2⟩ := powR_add hg (by omega) h12 (N / 2) (N - N / 2)
  rw [show N / 2 + (N - N / 2) = N by omega] at e2
  have hT := tmsL_pol a1 b1 e1
  have hp := (serB_true (polB_ser hg)).1
  refine ⟨by unfold polTimes; rw [if_pos ⟨a1, b1, e1⟩], ⟨_, by unfold polDiv; rw [if_pos ⟨hT, hg, by omega⟩, e2]⟩, ⟨quoL p [1] g, by unfold polDiv; rw [if_pos ⟨(one_pol hp).1, hg, by omega⟩]; unfold powR; rw [powL_zero]⟩, c2, a2, b2, d2, (serB_true (polB_ser hT)).2.1⟩
set_option maxRecDepth 100000 in
set_option maxHeartbeats 2000000 in
theorem walkFnPowerRest (a : Option Addr) (len cap : Nat) (zs : List Int) (w : World) (h : IsRow .u8 w a len cap zs) :
    Calls Try.prog 5 #[.slice a len cap] w fun e w' => e = .returned (.bool true) ∧ Below w.heap.size w w' := by
  have hm : len ≤ 9223372036854775807 := by have := rowBytes h; unfold maxLen at this; omega
  by_cases hb : 1048576 < len
  · go_enter Try.func5, Try.ntmps5
    go_wp2_with (fail)
    go_ret
    exact ⟨rfl, Below.refl _ _⟩
  have hd0 : decide (1048576 < (len : Int)) = false := by simp; omega
  go_enter Try.func5, Try.ntmps5
  go_wp2_with (fail)
  refine (drawPowerRest a len cap zs w h).mono ?_
  rintro e w1 ⟨p, Ag, cg, g, x, rfl, hp0, hp1, hgl, hxl, hxh, hO, hB⟩
  obtain ⟨bg, hRg⟩ := hO.ia
  have HG := Lib.hid hRg
  clear hRg hO h hp0 hp1
  rcases hD : powO p g x with _ | F
  · have HD := Lib.hid hD
    clear hD
    go_wp2_with (fail)
    refine (implPowerRest p Ag g.length cg bg 0 g x _ HG.out).mono ?_
    rw [HD.out]
    rintro e w_1 hMq
    obtain ⟨AQ, cQ, bQ, rfl, hRq0, hBq⟩ := made1_none hMq
    have HQ_1 := Lib.hid hRq0
    have HG_1 := Lib.hid (HG.out.below hBq)
    have hK_1 := below_more hB hBq
    clear hBq hRq0 hMq
    go_wp2_with (fail)
    refine (specPowerRest p Ag g.length cg bg 0 g x _ HG_1.out).mono ?_
    rw [HD.out]
    rintro e w_2 hMq
    obtain ⟨AX, cX, bX, rfl, hRq0, hBq⟩ := made1_none hMq
    have HX_2 := Lib.hid hRq0
    have HG_2 := Lib.hid (HG_1.out.below hBq)
    have HQ_2 := Lib.hid (HQ_1.out.below hBq)
    have hK_2 := below_more hK_1 hBq
    clear hBq hRq0 hMq
    go_wp2_with (fail)
    refine (sameIntsC AQ 0 cQ bQ 0 [] AX 0 cX bX 0 [] _ HQ_2.out HX_2.out).mono ?_
    rintro e w_3 ⟨rfl, hm_3⟩
    rw [decide_eq_true (rfl : ([] : List Int) = [])]
    have HG_3 := Lib.hid (HG_2.out.drewN hm_3)
    have HQ_3 := Lib.hid (HQ_2.out.drewN hm_3)
    have HX_3 := Lib.hid (HX_2.out.drewN hm_3)
    have hK_3 := below_drawn hK_2 hm_3
    clear hm_3
    go_wp2_with (fail)
    refine (alive _).mono ?_
    rintro e w_4 ⟨rfl, rfl⟩
    go_wp2_with (fail)
    go_ret
    exact ⟨rfl, hK_3⟩
  · obtain ⟨hg, h2, h12, hx0, hx1, hF⟩ := powO_some hD
    obtain ⟨N, rfl⟩ : ∃ N : Nat, x = N := ⟨x.toNat, by omega⟩
    replace hF : F = powR p g N := hF
    have HA := Lib.hid (powO_ok (x := (N : Int) / 2) (N := N / 2) hg h2 h12 (by omega) (by omega))
    have HB2 := Lib.hid (powO_ok (x := (N : Int) - (N : Int) / 2) (N := N - N / 2) hg h2 h12 (by omega) (by omega))
    have HZ := Lib.hid (powO_ok (x := 0) (N := 0) hg h2 h12 (by omega) rfl)
    obtain ⟨hT, ⟨q1, hq1⟩, ⟨q2, hq2⟩, hl1, hl2, hl3, hl4, hl5⟩ := pow_whole hg h2 h12 N
    rw [← hF] at hq1 hl1
    obtain ⟨Fa, hFa⟩ : ∃ L, powR p g (N / 2) = L := ⟨_, rfl⟩
    obtain ⟨Fb, hFb⟩ : ∃ L, powR p g (N - N / 2) = L := ⟨_, rfl⟩
    obtain ⟨Fz, hFz⟩ : ∃ L, powR p g 0 = L := ⟨_, rfl⟩
    rw [hFa] at HA hT hq1 hl2 hl5
    rw [hFb] at HB2 hT hq1 hl3 hl5
    rw [hFz] at HZ hq2 hl4
    obtain ⟨M, hM⟩ : ∃ L, tmsL p Fa Fb = L := ⟨_, rfl⟩
    rw [hM] at hT hq1 hl5
    have HD := Lib.hid hD
    have HT := Lib.hid hT
    have HQ1 := Lib.hid hq1
    have HQ2 := Lib.hid hq2
    have hltd : decide ((F.length : Int) < (g.length : Int)) = true := decide_eq_true (by omega)
    have hw1 : IntKind.i64.wrap ((N : Int) - (N : Int) / 2) = (N : Int) - (N : Int) / 2 := IntWalk.i64_in _ ⟨by omega, by omega⟩
    clear hD hT hq1 hq2 hg hF hFa hFb hFz hM
    go_wp2_with (fail)
    refine (implPowerRest p Ag g.length cg bg 0 g N _ HG.out).mono ?_
    rw [HD.out]
    rintro e w_1 hMq
    obtain ⟨AQ, cQ, bQ, rfl, hRq0, hBq⟩ := made1_some hMq
    have HQ_1 := Lib.hid hRq0
    have HG_1 := Lib.hid (HG.out.below hBq)
    have hK_1 := below_more hB hBq
    clear hBq hRq0 hMq
    go_wp2_with (fail)
    refine (specPowerRest p Ag g.length cg bg 0 g N _ HG_1.out).mono ?_
    rw [HD.out]
    rintro e w_2 hMq
    obtain ⟨AX, cX, bX, rfl, hRq0, hBq⟩ := made1_some hMq
    have HX_2 := Lib.hid hRq0
    have HG_2 := Lib.hid (HG_1.out.below hBq)
    have HQ_2 := Lib.hid (HQ_1.out.below hBq)
    have hK_2 := below_more hK_1 hBq
    clear hBq hRq0 hMq
    go_wp2_with (fail)
    refine (sameIntsC AQ F.length cQ bQ 0 F AX F.length cX bX 0 F _ HQ_2.out HX_2.out).mono ?_
    rintro e w_3 ⟨rfl, hm_3⟩
    rw [decide_eq_true (rfl : F = F)]
    have HG_3 := Lib.hid (HG_2.out.drewN hm_3)
    have HQ_3 := Lib.hid (HQ_2.out.drewN hm_3)
    have HX_3 := Lib.hid (HX_2.out.drewN hm_3)
    have hK_3 := below_drawn hK_2 hm_3
    clear hm_3
    go_wp2_with (fail)
    refine (implPowerRest p Ag g.length cg bg 0 g ((N : Int) / 2) _ HG_3.out).mono ?_
    rw [HA.out]
    rintro e w_4 hMq
    obtain ⟨AFa, cFa, bFa, rfl, hRq0, hBq⟩ := made1_some hMq
    have HFa_4 := Lib.hid hRq0
    have HG_4 := Lib.hid (HG_3.out.below hBq)
    have HQ_4 := Lib.hid (HQ_3.out.below hBq)
    have HX_4 := Lib.hid (HX_3.out.below hBq)
    have hK_4 := below_more hK_3 hBq
    clear hBq hRq0 hMq
    go_wp2_with (fail)
    refine (implPowerRest p Ag g.length cg bg 0 g ((N : Int) - (N : Int) / 2) _ HG_4.out).mono ?_
    rw [HB2.out]
    rintro e w_5 hMq
    obtain ⟨AFb, cFb, bFb, rfl, hRq0, hBq⟩ := made1_some hMq
    have HFb_5 := Lib.hid hRq0
    have HG_5 := Lib.hid (HG_4.out.below hBq)
    have HQ_5 := Lib.hid (HQ_4.out.below hBq)
    have HX_5 := Lib.hid (HX_4.out.below hBq)
    have HFa_5 := Lib.hid (HFa_4.out.below hBq)
    have hK_5 := below_more hK_4 hBq
    clear hBq hRq0 hMq
    go_wp2_with (fail)
    refine (implPolyTimes p AFa Fa.length cFa bFa 0 Fa AFb Fb.length cFb bFb 0 Fb _ HFa_5.out HFb_5.out).mono ?_
    rw [HT.out]
    rintro e w_6 hMq
    obtain ⟨AM, cM, bM, rfl, hRq0, hBq⟩ := made1_some hMq
    have HM_6 := Lib.hid hRq0
    have HG_6 := Lib.hid (HG_5.out.below hBq)
    have HQ_6 := Lib.hid (HQ_5.out.below hBq)
    have HX_6 := Lib.hid (HX_5.out.below hBq)
    have HFa_6 := Lib.hid (HFa_5.out.below hBq)
    have HFb_6 := Lib.hid (HFb_5.out.below hBq)
    have hK_6 := below_more hK_5 hBq
    clear hBq hRq0 hMq
    go_wp2_with (fail)
    refine (implPolyDivide p AM M.length cM bM 0 M Ag g.length cg bg 0 g _ HM_6.out HG_6.out).mono ?_
    rw [HQ1.out]
    rintro e w_7 hMq
    obtain ⟨AY, cY, bY, AR, cR, bR, rfl, hRq0, hRq1, hBq⟩ := made2_some hMq
    have HY_7 := Lib.hid hRq0
    have HR_7 := Lib.hid hRq1
    have HG_7 := Lib.hid (HG_6.out.below hBq)
    have HQ_7 := Lib.hid (HQ_6.out.below hBq)
    have HX_7 := Lib.hid (HX_6.out.below hBq)
    have HFa_7 := Lib.hid (HFa_6.out.below hBq)
    have HFb_7 := Lib.hid (HFb_6.out.below hBq)
    have HM_7 := Lib.hid (HM_6.out.below hBq)
    have hK_7 := below_more hK_6 hBq
    clear hBq hRq0 hRq1 hMq
    go_wp2_with (fail)
    refine (implPowerRest p Ag g.length cg bg 0 g 0 _ HG_7.out).mono ?_
    rw [HZ.out]
    rintro e w_8 hMq
    obtain ⟨AZ, cZ, bZ, rfl, hRq0, hBq⟩ := made1_some hMq
    have HZ_8 := Lib.hid hRq0
    have HG_8 := Lib.hid (HG_7.out.below hBq)
    have HQ_8 := Lib.hid (HQ_7.out.below hBq)
    have HX_8 := Lib.hid (HX_7.out.below hBq)
    have HFa_8 := Lib.hid (HFa_7.out.below hBq)
    have HFb_8 := Lib.hid (HFb_7.out.below hBq)
    have HM_8 := Lib.hid (HM_7.out.below hBq)
    have HY_8 := Lib.hid (HY_7.out.below hBq)
    have HR_8 := Lib.hid (HR_7.out.below hBq)
    have hK_8 := below_more hK_7 hBq
    clear hBq hRq0 hMq
    go_wp2_with (fail)
    have hBa : Below w_8.heap.size w_8 (w_8.alloc (.cells #[.int .i64 1] 3)) := (Below.refl _ _).alloc (Nat.le_refl _) _
    have HL := Lib.hid (IA.fresh1 (w := w_8) 1)
    have HG_9 := Lib.hid (HG_8.out.below hBa)
    have HQ_9 := Lib.hid (HQ_8.out.below hBa)
    have HX_9 := Lib.hid (HX_8.out.below hBa)
    have HFa_9 := Lib.hid (HFa_8.out.below hBa)
    have HFb_9 := Lib.hid (HFb_8.out.below hBa)
    have HM_9 := Lib.hid (HM_8.out.below hBa)
    have HY_9 := Lib.hid (HY_8.out.below hBa)
    have HR_9 := Lib.hid (HR_8.out.below hBa)
    have HZ_9 := Lib.hid (HZ_8.out.below hBa)
    have hK_9 := below_more hK_8 hBa
    go_wp2_with (fail)
    refine (implPolyDivide p (some ⟨w_8.heap.size, 0, none⟩) 1 1 w_8.heap.size 0 [1] Ag g.length cg bg 0 g _ HL.out HG_9.out).mono ?_
    rw [HQ2.out]
    rintro e w_9 hMq
    obtain ⟨AU, cU, bU, AV, cV, bV, rfl, hRq0, hRq1, hBq⟩ := made2_some hMq
    have HU_9 := Lib.hid hRq0
    have HV_9 := Lib.hid hRq1
    have HG_9 := Lib.hid (HG_9.out.below hBq)
    have HQ_9 := Lib.hid (HQ_9.out.below hBq)
    have HX_9 := Lib.hid (HX_9.out.below hBq)
    have HFa_9 := Lib.hid (HFa_9.out.below hBq)
    have HFb_9 := Lib.hid (HFb_9.out.below hBq)
    have HM_9 := Lib.hid (HM_9.out.below hBq)
    have HY_9 := Lib.hid (HY_9.out.below hBq)
    have HR_9 := Lib.hid (HR_9.out.below hBq)
    have HZ_9 := Lib.hid (HZ_9.out.below hBq)
    have HL_9 := Lib.hid (HL.out.below hBq)
    have hK_9 := below_more hK_9 hBq
    clear hBq hRq0 hRq1 hMq
    go_wp2_with (fail)
    refine (sameIntsC AR F.length cR bR 0 F AQ F.length cQ bQ 0 F _ HR_9.out HQ_9.out).mono ?_
    rintro e w_10 ⟨rfl, hm_10⟩
    rw [decide_eq_true (rfl : F = F)]
    have HG_10 := Lib.hid (HG_9.out.drewN hm_10)
    have HQ_10 := Lib.hid (HQ_9.out.drewN hm_10)
    have HX_10 := Lib.hid (HX_9.out.drewN hm_10)
    have HFa_10 := Lib.hid (HFa_9.out.drewN hm_10)
    have HFb_10 := Lib.hid (HFb_9.out.drewN hm_10)
    have HM_10 := Lib.hid (HM_9.out.drewN hm_10)
    have HY_10 := Lib.hid (HY_9.out.drewN hm_10)
    have HR_10 := Lib.hid (HR_9.out.drewN hm_10)
    have HZ_10 := Lib.hid (HZ_9.out.drewN hm_10)
    have HL_10 := Lib.hid (HL_9.out.drewN hm_10)
    have HU_10 := Lib.hid (HU_9.out.drewN hm_10)
    have HV_10 := Lib.hid (HV_9.out.drewN hm_10)
    have hK_10 := below_drawn hK_9 hm_10
    clear hm_10
    go_wp2_with (fail)
    refine (sameIntsC AZ Fz.length cZ bZ 0 Fz AV Fz.length cV bV 0 Fz _ HZ_10.out HV_10.out).mono ?_
    rintro e w_11 ⟨rfl, hm_11⟩
    rw [decide_eq_true (rfl : Fz = Fz)]
    have HG_11 := Lib.hid (HG_10.out.drewN hm_11)
    have HQ_11 := Lib.hid (HQ_10.out.drewN hm_11)
    have HX_11 := Lib.hid (HX_10.out.drewN hm_11)
    have HFa_11 := Lib.hid (HFa_10.out.drewN hm_11)
    have HFb_11 := Lib.hid (HFb_10.out.drewN hm_11)
    have HM_11 := Lib.hid (HM_10.out.drewN hm_11)
    have HY_11 := Lib.hid (HY_10.out.drewN hm_11)
    have HR_11 := Lib.hid (HR_10.out.drewN hm_11)
    have HZ_11 := Lib.hid (HZ_10.out.drewN hm_11)
    have HL_11 := Lib.hid (HL_10.out.drewN hm_11)
    have HU_11 := Lib.hid (HU_10.out.drewN hm_11)
    have HV_11 := Lib.hid (HV_10.out.drewN hm_11)
    have hK_11 := below_drawn hK_10 hm_11
    clear hm_11
    go_wp2_with (fail)
    go_ret
    exact ⟨rfl, hK_11⟩
end Go.Proofs.Ytmmadmfpbancmab

/-
  The contracts of FracSame, of both sides.
-/
import Derived.Deep.RegionHeld3
import Derived.Test.YtllakclbgmingabDoorFrS
import Derived.Test.YtllakclbgmingabDoorPTimes
import Derived.Test.YtllakclbgmingabDoorFrM
import Derived.Test.YtllakclbgmingabDoorEqT
namespace Go.Proofs.YtllakclbgmingabDoor
open Go.RowKit
set_option maxRecDepth 100000 in
set_option maxHeartbeats 16000000 in
theorem specFracSame (v : Value) (p : Int) (U L : List Int) (v' : Value) (p' : Int) (U' L' : List Int) (w : World) (h : RV w v p U L) (h' : RV w v' p' U' L') :
    Calls Tryd.prog 24 #[v, v'] w fun e w' => e = .returned (.bool (fracSameR p U L p' U' L')) ∧ Below w.heap.size w w' := by
  have HQ := Lib.hid h
  have HQ' := Lib.hid h'
  obtain ⟨A, n, c, b, o, A', n', c', b', o', rfl, g1, g2⟩ := h
  obtain ⟨B, m, d, y, x, B', m', d', y', x', rfl, k1, k2⟩ := h'
  obtain ⟨W0, hW0⟩ : ∃ W0, (w.alloc (.cells #[.int .i64 p, .slice A n c, .slice A' n' c'] 25)).alloc (.cells #[.int .i64 p', .slice B m d, .slice B' m' d'] 25) = W0 := ⟨_, rfl⟩
  have hB0 : Below w.heap.size w W0 := by rw [← hW0]; exact ((Below.refl _ w).alloc (Nat.le_refl _) _).alloc (by simp) _
  have hba : Bx W0 w.heap.size (.int .i64 p) (.slice A n c) (.slice A' n' c') := by rw [← hW0]; exact (Bx.new w _ _ _ _).below (below_new _ _)
  have hbb : Bx W0 (w.heap.size + 1) (.int .i64 p') (.slice B m d) (.slice B' m' d') := by
    have := (Bx.new (w.alloc (.cells #[.int .i64 p, .slice A n c, .slice A' n' c'] 25)) (.int .i64 p') (.slice B m d) (.slice B' m' d') 25)
    rw [World.size_alloc] at this
    rw [← hW0]; exact this
  have H0 := Lib.hid (HQ.out.below hB0)
  have H0' := Lib.hid (HQ'.out.below hB0)
  have IU := Lib.hid (g1.below hB0)
  have IL := Lib.hid (g2.below hB0)
  have IU' := Lib.hid (k1.below hB0)
  have IL' := Lib.hid (k2.below hB0)
  have BA := Lib.hid hba
  have BB := Lib.hid hbb
  have HB0 := Lib.hid hB0
  clear g1 g2 k1 k2 hba hbb hB0 HQ HQ'
  obtain ⟨x0, x1, x2⟩ := BA.out
  rcases ha : fracB p U L
  · have HA := Lib.hid ha
    have HR := Lib.hid (show fracSameR p U L p' U' L' = false by unfold fracSameR bothB; rw [ha]; rfl)
    clear ha
    go_enter Tryd.func24, Tryd.ntmps24
    go_wp2_with (go_at_call 13; (with_reducible refine (specFracValid _ p U L _ H0.out).mono ?_); rintro e w1 ⟨rfl, hB⟩; rw [HA.out]; have HB1 := Lib.hid (below_more HB0.out hB); have BA1 := Lib.hid (BA.out.below hB); have BB1 := Lib.hid (BB.out.below hB); have IU1 := Lib.hid (IU.out.below hB); have IL1 := Lib.hid (IL.out.below hB); have JU1 := Lib.hid (IU'.out.below hB); have JL1 := Lib.hid (IL'.out.below hB); have HV1 := Lib.hid (H0.out.below hB); have HV1' := Lib.hid (H0'.out.below hB); obtain ⟨y10, y11, y12⟩ := BA1.out; obtain ⟨t10, t11, t12⟩ := BB1.out; clear hB)
    go_ret
    exact ⟨ret_bool HR.out.symm, HB1.out⟩
  have HA := Lib.hid ha
  rcases hb : fracB p' U' L'
  · have HA' := Lib.hid hb
    have HR := Lib.hid (show fracSameR p U L p' U' L' = false by unfold fracSameR bothB; rw [hb, ha]; rfl)
    clear ha hb
    go_enter Tryd.func24, Tryd.ntmps24
    go_wp2_with (first | (go_at_call 13; (with_reducible refine (specFracValid _ p U L _ H0.out).mono ?_); rintro e w1 ⟨rfl, hB⟩; rw [HA.out]; have HB1 := Lib.hid (below_more HB0.out hB); have BA1 := Lib.hid (BA.out.below hB); have BB1 := Lib.hid (BB.out.below hB); have IU1 := Lib.hid (IU.out.below hB); have IL1 := Lib.hid (IL.out.below hB); have JU1 := Lib.hid (IU'.out.below hB); have JL1 := Lib.hid (IL'.out.below hB); have HV1 := Lib.hid (H0.out.below hB); have HV1' := Lib.hid (H0'.out.below hB); obtain ⟨y10, y11, y12⟩ := BA1.out; obtain ⟨t10, t11, t12⟩ := BB1.out; clear hB) | (go_at_call 13; (with_reducible refine (specFracValid _ p' U' L' _ HV1'.out).mono ?_); rintro e w2 ⟨rfl, hB⟩; rw [HA'.out]; have HB2 := Lib.hid (below_more HB1.out hB); have BA2 := Lib.hid (BA1.out.below hB); have BB2 := Lib.hid (BB1.out.below hB); have IU2 := Lib.hid (IU1.out.below hB); have IL2 := Lib.hid (IL1.out.below hB); have JU2 := Lib.hid (JU1.out.below hB); have JL2 := Lib.hid (JL1.out.below hB); have HV2 := Lib.hid (HV1.out.below hB); have HV2' := Lib.hid (HV1'.out.below hB); obtain ⟨y20, y21, y22⟩ := BA2.out; obtain ⟨t20, t21, t22⟩ := BB2.out; clear hB))
    go_ret
    exact ⟨ret_bool HR.out.symm, HB2.out⟩
  have HA' := Lib.hid hb
  by_cases hp : p = p'
  case neg =>
    have hq : (p == p') = false := by simpa using hp
    have HR := Lib.hid (show fracSameR p U L p' U' L' = false by unfold fracSameR bothB; rw [decide_eq_false hp, ha, hb]; rfl)
    clear ha hb hp
    go_enter Tryd.func24, Tryd.ntmps24
    go_wp2_with (first | (go_at_call 13; (with_reducible refine (specFracValid _ p U L _ H0.out).mono ?_); rintro e w1 ⟨rfl, hB⟩; rw [HA.out]; have HB1 := Lib.hid (below_more HB0.out hB); have BA1 := Lib.hid (BA.out.below hB); have BB1 := Lib.hid (BB.out.below hB); have IU1 := Lib.hid (IU.out.below hB); have IL1 := Lib.hid (IL.out.below hB); have JU1 := Lib.hid (IU'.out.below hB); have JL1 := Lib.hid (IL'.out.below hB); have HV1 := Lib.hid (H0.out.below hB); have HV1' := Lib.hid (H0'.out.below hB); obtain ⟨y10, y11, y12⟩ := BA1.out; obtain ⟨t10, t11, t12⟩ := BB1.out; clear hB) | (go_at_call 13; (with_reducible refine (specFracValid _ p' U' L' _ HV1'.out).mono ?_); rintro e w2 ⟨rfl, hB⟩; rw [HA'.out]; have HB2 := Lib.hid (below_more HB1.out hB); have BA2 := Lib.hid (BA1.out.below hB); have BB2 := Lib.hid (BB1.out.below hB); have IU2 := Lib.hid (IU1.out.below hB); have IL2 := Lib.hid (IL1.out.below hB); have JU2 := Lib.hid (JU1.out.below hB); have JL2 := Lib.hid (JL1.out.below hB); have HV2 := Lib.hid (HV1.out.below hB); have HV2' := Lib.hid (HV1'.out.below hB); obtain ⟨y20, y21, y22⟩ := BA2.out; obtain ⟨t20, t21, t22⟩ := BB2.out; clear hB))
    go_ret
    exact ⟨ret_bool HR.out.symm, HB2.out⟩
  subst hp
  have hq : (p == p) = true := by simp
  obtain ⟨hu, hl, hu12, hl12, hl0, hl1⟩ := fracB_true ha
  obtain ⟨hu', hl', hu12', hl12', hl0', hl1'⟩ := fracB_true hb
  have hpr := (serB_true (polB_ser hu)).1
  obtain ⟨tx, px, lx⟩ := tms_pol hu hl' hu12 hl12'
  obtain ⟨ty, py, ly⟩ := tms_pol hu' hl hu12' hl12
  have HPR := Lib.hid hpr
  have HUV := Lib.hid (serB_true (polB_ser hu)).2.2
  have HUV' := Lib.hid (serB_true (polB_ser hu')).2.2
  have HLV := Lib.hid (serB_true (polB_ser hl)).2.2
  have HLV' := Lib.hid (serB_true (polB_ser hl')).2.2
  have hn1 : n ≤ 12 := by rw [← IU.out.len]; exact hu12
  have hn2 : n' ≤ 12 := by rw [← IL.out.len]; exact hl12
  have hm1 : m ≤ 12 := by rw [← IU'.out.len]; exact hu12'
  have hm2 : m' ≤ 12 := by rw [← IL'.out.len]; exact hl12'
  have hbo : bothB p U L p U' L' = true := by unfold bothB; rw [ha, hb]; simp
  have hpb := prime_ge hpr
  have hp1 : 0 ≤ p - 1 ∧ p - 1 ≤ 13 := by omega
  obtain ⟨TX, hTX⟩ : ∃ T, tmsL p U L' = T := ⟨_, rfl⟩
  obtain ⟨TY, hTY⟩ : ∃ T, tmsL p U' L = T := ⟨_, rfl⟩
  rw [hTX] at tx px lx
  rw [hTY] at ty py ly
  have HTX := Lib.hid (show convR p U L' (tmsN U L') = TX from hTX)
  have HTY := Lib.hid (show convR p U' L (tmsN U' L) = TY from hTY)
  have HRX := Lib.hid tx
  have HRY := Lib.hid ty
  have HXV := Lib.hid (serB_true (polB_ser px)).2.2
  have HYV := Lib.hid (serB_true (polB_ser py)).2.2
  obtain ⟨D, hD⟩ : ∃ D, addL p TX TY (p - 1) = D := ⟨_, rfl⟩
  have HD := Lib.hid hD
  have HR := Lib.hid (show fracSameR p U L p U' L' = decide (D.length = 0) by unfold fracSameR; rw [hbo, hTX, hTY, ← sub_nil px py, hD]; rfl)
  have hw1 : IntKind.i64.wrap (p - 1) = p - 1 := IntWalk.i64_in _ ⟨by omega, by omega⟩
  clear hu hl hu12 hl12 hl0 hl1 hu' hl' hu12' hl12' hl0' hl1' hpr tx px ty py ha hb hbo hTX hTY hD hpb
  by_cases hd : D.length = 0
  · have HR2 := Lib.hid (show fracSameR p U L p U' L' = true by rw [HR.out]; exact decide_eq_true hd)
    have hdi : ((D.length : Int) == 0) = true := by simpa using hd
    have HDD := Lib.hid hd
    clear hd
    go_enter Tryd.func24, Tryd.ntmps24
    go_wp2_with (first | (go_at_call 13; (with_reducible refine (specFracValid _ p U L _ H0.out).mono ?_); rintro e w1 ⟨rfl, hB⟩; rw [HA.out]; have HB1 := Lib.hid (below_more HB0.out hB); have BA1 := Lib.hid (BA.out.below hB); have BB1 := Lib.hid (BB.out.below hB); have IU1 := Lib.hid (IU.out.below hB); have IL1 := Lib.hid (IL.out.below hB); have JU1 := Lib.hid (IU'.out.below hB); have JL1 := Lib.hid (IL'.out.below hB); have HV1 := Lib.hid (H0.out.below hB); have HV1' := Lib.hid (H0'.out.below hB); obtain ⟨y10, y11, y12⟩ := BA1.out; obtain ⟨t10, t11, t12⟩ := BB1.out; clear hB) | (go_at_call 13; (with_reducible refine (specFracValid _ p U' L' _ HV1'.out).mono ?_); rintro e w2 ⟨rfl, hB⟩; rw [HA'.out]; have HB2 := Lib.hid (below_more HB1.out hB); have BA2 := Lib.hid (BA1.out.below hB); have BB2 := Lib.hid (BB1.out.below hB); have IU2 := Lib.hid (IU1.out.below hB); have IL2 := Lib.hid (IL1.out.below hB); have JU2 := Lib.hid (JU1.out.below hB); have JL2 := Lib.hid (JL1.out.below hB); have HV2 := Lib.hid (HV1.out.below hB); have HV2' := Lib.hid (HV1'.out.below hB); obtain ⟨y20, y21, y22⟩ := BA2.out; obtain ⟨t20, t21, t22⟩ := BB2.out; clear hB))
    clear hW0 x0 x1 x2 y10 y11 y12 t10 t11 t12 y20 y21 y22 t20 t21 t22
    have ZS := And.intro BA2.out BB2.out
    have Zd := And.intro BA2.out.drew BB2.out.drew
    unfold Bx at ZS Zd
    go_region_held3 (fun w' => (w'.cell? ⟨w.heap.size, 0, none⟩ = some (.int .i64 p) ∧ w'.cell? ⟨w.heap.size, 1, none⟩ = some (.slice A n c) ∧ w'.cell? ⟨w.heap.size, 2, none⟩ = some (.slice A' n' c')) ∧ (w'.cell? ⟨w.heap.size + 1, 0, none⟩ = some (.int .i64 p) ∧ w'.cell? ⟨w.heap.size + 1, 1, none⟩ = some (.slice B m d) ∧ w'.cell? ⟨w.heap.size + 1, 2, none⟩ = some (.slice B' m' d'))) (first | assumption | exact Z7 | exact Z6 | exact Z5 | exact Z4 | exact Z3 | exact Zd | exact ZS | go_keep)
      (first
        | (go_at_call 64; (with_reducible refine (specTms p A n c b o U B' m' d' y' x' L' _ (IU2.out.below (below_new_drew _)) (JL2.out.below (below_new_drew _)) HPR.out HUV.out HLV'.out (by omega) (by omega)).mono ?_); rw [HTX.out]; rintro e w3 ⟨Aa, ca, rfl, hO, hB⟩; have hcpa := OI.capLe hO; obtain ⟨ba, hI, hAa⟩ := OI.iaA hO; have HIa3 := Lib.hid hI; have HB3 := Lib.hid (below_more HB2.out.drew hB); have BA3 := Lib.hid (BA2.out.drew.below hB); have BB3 := Lib.hid (BB2.out.drew.below hB); have IU3 := Lib.hid ((IU2.out.below (below_new_drew _)).below hB); have IL3 := Lib.hid ((IL2.out.below (below_new_drew _)).below hB); have JU3 := Lib.hid ((JU2.out.below (below_new_drew _)).below hB); have JL3 := Lib.hid ((JL2.out.below (below_new_drew _)).below hB); have Z3 := And.intro BA3.out BB3.out; unfold Bx at Z3; clear hO hI hB)
        | (go_at_call 63; (with_reducible refine (specTrim Aa TX.length ca ba 0 TX _ HIa3.out (by omega) hcpa hAa).mono ?_); rw [HRX.out]; rintro e w4 ⟨Ae, ce, rfl, hO, hB⟩; have hcpe := OI.capLe hO; obtain ⟨be, hI, hAe⟩ := OI.iaA hO; have HIe4 := Lib.hid hI; have HB4 := Lib.hid (below_more HB3.out hB); have BA4 := Lib.hid (BA3.out.below hB); have BB4 := Lib.hid (BB3.out.below hB); have IU4 := Lib.hid (IU3.out.below hB); have IL4 := Lib.hid (IL3.out.below hB); have JU4 := Lib.hid (JU3.out.below hB); have JL4 := Lib.hid (JL3.out.below hB); have HIa4 := Lib.hid (HIa3.out.below hB); have Z4 := And.intro BA4.out BB4.out; unfold Bx at Z4; clear hO hI hB)
        | (go_at_call 64; (with_reducible refine (specTms p B m d y x U' A' n' c' b' o' L _ JU4.out IL4.out HPR.out HUV'.out HLV.out (by omega) (by omega)).mono ?_); rw [HTY.out]; rintro e w5 ⟨Af, cf, rfl, hO, hB⟩; have hcpf := OI.capLe hO; obtain ⟨bf, hI, hAf⟩ := OI.iaA hO; have HIf5 := Lib.hid hI; have HB5 := Lib.hid (below_more HB4.out hB); have BA5 := Lib.hid (BA4.out.below hB); have BB5 := Lib.hid (BB4.out.below hB); have IU5 := Lib.hid (IU4.out.below hB); have IL5 := Lib.hid (IL4.out.below hB); have JU5 := Lib.hid (JU4.out.below hB); have JL5 := Lib.hid (JL4.out.below hB); have HIa5 := Lib.hid (HIa4.out.below hB); have HIe5 := Lib.hid (HIe4.out.below hB); have Z5 := And.intro BA5.out BB5.out; unfold Bx at Z5; clear hO hI hB)
        | (go_at_call 63; (with_reducible refine (specTrim Af TY.length cf bf 0 TY _ HIf5.out (by omega) hcpf hAf).mono ?_); rw [HRY.out]; rintro e w6 ⟨Ag, cg, rfl, hO, hB⟩; have hcpg := OI.capLe hO; obtain ⟨bg, hI, hAg⟩ := OI.iaA hO; have HIg6 := Lib.hid hI; have HB6 := Lib.hid (below_more HB5.out hB); have BA6 := Lib.hid (BA5.out.below hB); have BB6 := Lib.hid (BB5.out.below hB); have IU6 := Lib.hid (IU5.out.below hB); have IL6 := Lib.hid (IL5.out.below hB); have JU6 := Lib.hid (JU5.out.below hB); have JL6 := Lib.hid (JL5.out.below hB); have HIa6 := Lib.hid (HIa5.out.below hB); have HIe6 := Lib.hid (HIe5.out.below hB); have HIf6 := Lib.hid (HIf5.out.below hB); have Z6 := And.intro BA6.out BB6.out; unfold Bx at Z6; clear hO hI hB)
        | (go_at_call 62; (with_reducible refine (specAdd p (p - 1) Ae _ ce be 0 TX Ag _ cg bg 0 TY _ HIe6.out HIg6.out HPR.out HXV.out HYV.out hp1 (by omega) (by omega)).mono ?_); rw [HD.out]; rintro e w7 ⟨Ah, ch, rfl, hO, hB⟩; have hcph := OI.capLe hO; obtain ⟨bh, hI, hAh⟩ := OI.iaA hO; have HIh7 := Lib.hid hI; have HB7 := Lib.hid (below_more HB6.out hB); have BA7 := Lib.hid (BA6.out.below hB); have BB7 := Lib.hid (BB6.out.below hB); have IU7 := Lib.hid (IU6.out.below hB); have IL7 := Lib.hid (IL6.out.below hB); have JU7 := Lib.hid (JU6.out.below hB); have JL7 := Lib.hid (JL6.out.below hB); have HIa7 := Lib.hid (HIa6.out.below hB); have HIe7 := Lib.hid (HIe6.out.below hB); have HIf7 := Lib.hid (HIf6.out.below hB); have HIg7 := Lib.hid (HIg6.out.below hB); have Z7 := And.intro BA7.out BB7.out; unfold Bx at Z7; clear hO hI hB))
    all_goals
      go_wp2_with (fail)
      go_ret
      exact ⟨ret_bool HR2.out.symm, HB7.out⟩
  · have HR2 := Lib.hid (show fracSameR p U L p U' L' = false by rw [HR.out]; exact decide_eq_false hd)
    have hdi : ((D.length : Int) == 0) = false := by simpa using hd
    have HDD := Lib.hid hd
    clear hd
    go_enter Tryd.func24, Tryd.ntmps24
    go_wp2_with (first | (go_at_call 13; (with_reducible refine (specFracValid _ p U L _ H0.out).mono ?_); rintro e w1 ⟨rfl, hB⟩; rw [HA.out]; have HB1 := Lib.hid (below_more HB0.out hB); have BA1 := Lib.hid (BA.out.below hB); have BB1 := Lib.hid (BB.out.below hB); have IU1 := Lib.hid (IU.out.below hB); have IL1 := Lib.hid (IL.out.below hB); have JU1 := Lib.hid (IU'.out.below hB); have JL1 := Lib.hid (IL'.out.below hB); have HV1 := Lib.hid (H0.out.below hB); have HV1' := Lib.hid (H0'.out.below hB); obtain ⟨y10, y11, y12⟩ := BA1.out; obtain ⟨t10, t11, t12⟩ := BB1.out; clear hB) | (go_at_call 13; (with_reducible refine (specFracValid _ p U' L' _ HV1'.out).mono ?_); rintro e w2 ⟨rfl, hB⟩; rw [HA'.out]; have HB2 := Lib.hid (below_more HB1.out hB); have BA2 := Lib.hid (BA1.out.below hB); have BB2 := Lib.hid (BB1.out.below hB); have IU2 := Lib.hid (IU1.out.below hB); have IL2 := Lib.hid (IL1.out.below hB); have JU2 := Lib.hid (JU1.out.below hB); have JL2 := Lib.hid (JL1.out.below hB); have HV2 := Lib.hid (HV1.out.below hB); have HV2' := Lib.hid (HV1'.out.below hB); obtain ⟨y20, y21, y22⟩ := BA2.out; obtain ⟨t20, t21, t22⟩ := BB2.out; clear hB))
    clear hW0 x0 x1 x2 y10 y11 y12 t10 t11 t12 y20 y21 y22 t20 t21 t22
    have ZS := And.intro BA2.out BB2.out
    have Zd := And.intro BA2.out.drew BB2.out.drew
    unfold Bx at ZS Zd
    go_region_held3 (fun w' => (w'.cell? ⟨w.heap.size, 0, none⟩ = some (.int .i64 p) ∧ w'.cell? ⟨w.heap.size, 1, none⟩ = some (.slice A n c) ∧ w'.cell? ⟨w.heap.size, 2, none⟩ = some (.slice A' n' c')) ∧ (w'.cell? ⟨w.heap.size + 1, 0, none⟩ = some (.int .i64 p) ∧ w'.cell? ⟨w.heap.size + 1, 1, none⟩ = some (.slice B m d) ∧ w'.cell? ⟨w.heap.size + 1, 2, none⟩ = some (.slice B' m' d'))) (first | assumption | exact Z7 | exact Z6 | exact Z5 | exact Z4 | exact Z3 | exact Zd | exact ZS | go_keep)
      (first
        | (go_at_call 64; (with_reducible refine (specTms p A n c b o U B' m' d' y' x' L' _ (IU2.out.below (below_new_drew _)) (JL2.out.below (below_new_drew _)) HPR.out HUV.out HLV'.out (by omega) (by omega)).mono ?_); rw [HTX.out]; rintro e w3 ⟨Aa, ca, rfl, hO, hB⟩; have hcpa := OI.capLe hO; obtain ⟨ba, hI, hAa⟩ := OI.iaA hO; have HIa3 := Lib.hid hI; have HB3 := Lib.hid (below_more HB2.out.drew hB); have BA3 := Lib.hid (BA2.out.drew.below hB); have BB3 := Lib.hid (BB2.out.drew.below hB); have IU3 := Lib.hid ((IU2.out.below (below_new_drew _)).below hB); have IL3 := Lib.hid ((IL2.out.below (below_new_drew _)).below hB); have JU3 := Lib.hid ((JU2.out.below (below_new_drew _)).below hB); have JL3 := Lib.hid ((JL2.out.below (below_new_drew _)).below hB); have Z3 := And.intro BA3.out BB3.out; unfold Bx at Z3; clear hO hI hB)
        | (go_at_call 63; (with_reducible refine (specTrim Aa TX.length ca ba 0 TX _ HIa3.out (by omega) hcpa hAa).mono ?_); rw [HRX.out]; rintro e w4 ⟨Ae, ce, rfl, hO, hB⟩; have hcpe := OI.capLe hO; obtain ⟨be, hI, hAe⟩ := OI.iaA hO; have HIe4 := Lib.hid hI; have HB4 := Lib.hid (below_more HB3.out hB); have BA4 := Lib.hid (BA3.out.below hB); have BB4 := Lib.hid (BB3.out.below hB); have IU4 := Lib.hid (IU3.out.below hB); have IL4 := Lib.hid (IL3.out.below hB); have JU4 := Lib.hid (JU3.out.below hB); have JL4 := Lib.hid (JL3.out.below hB); have HIa4 := Lib.hid (HIa3.out.below hB); have Z4 := And.intro BA4.out BB4.out; unfold Bx at Z4; clear hO hI hB)
        | (go_at_call 64; (with_reducible refine (specTms p B m d y x U' A' n' c' b' o' L _ JU4.out IL4.out HPR.out HUV'.out HLV.out (by omega) (by omega)).mono ?_); rw [HTY.out]; rintro e w5 ⟨Af, cf, rfl, hO, hB⟩; have hcpf := OI.capLe hO; obtain ⟨bf, hI, hAf⟩ := OI.iaA hO; have HIf5 := Lib.hid hI; have HB5 := Lib.hid (below_more HB4.out hB); have BA5 := Lib.hid (BA4.out.below hB); have BB5 := Lib.hid (BB4.out.below hB); have IU5 := Lib.hid (IU4.out.below hB); have IL5 := Lib.hid (IL4.out.below hB); have JU5 := Lib.hid (JU4.out.below hB); have JL5 := Lib.hid (JL4.out.below hB); have HIa5 := Lib.hid (HIa4.out.below hB); have HIe5 := Lib.hid (HIe4.out.below hB); have Z5 := And.intro BA5.out BB5.out; unfold Bx at Z5; clear hO hI hB)
        | (go_at_call 63; (with_reducible refine (specTrim Af TY.length cf bf 0 TY _ HIf5.out (by omega) hcpf hAf).mono ?_); rw [HRY.out]; rintro e w6 ⟨Ag, cg, rfl, hO, hB⟩; have hcpg := OI.capLe hO; obtain ⟨bg, hI, hAg⟩ := OI.iaA hO; have HIg6 := Lib.hid hI; have HB6 := Lib.hid (below_more HB5.out hB); have BA6 := Lib.hid (BA5.out.below hB); have BB6 := Lib.hid (BB5.out.below hB); have IU6 := Lib.hid (IU5.out.below hB); have IL6 := Lib.hid (IL5.out.below hB); have JU6 := Lib.hid (JU5.out.below hB); have JL6 := Lib.hid (JL5.out.below hB); have HIa6 := Lib.hid (HIa5.out.below hB); have HIe6 := Lib.hid (HIe5.out.below hB); have HIf6 := Lib.hid (HIf5.out.below hB); have Z6 := And.intro BA6.out BB6.out; unfold Bx at Z6; clear hO hI hB)
        | (go_at_call 62; (with_reducible refine (specAdd p (p - 1) Ae _ ce be 0 TX Ag _ cg bg 0 TY _ HIe6.out HIg6.out HPR.out HXV.out HYV.out hp1 (by omega) (by omega)).mono ?_); rw [HD.out]; rintro e w7 ⟨Ah, ch, rfl, hO, hB⟩; have hcph := OI.capLe hO; obtain ⟨bh, hI, hAh⟩ := OI.iaA hO; have HIh7 := Lib.hid hI; have HB7 := Lib.hid (below_more HB6.out hB); have BA7 := Lib.hid (BA6.out.below hB); have BB7 := Lib.hid (BB6.out.below hB); have IU7 := Lib.hid (IU6.out.below hB); have IL7 := Lib.hid (IL6.out.below hB); have JU7 := Lib.hid (JU6.out.below hB); have JL7 := Lib.hid (JL6.out.below hB); have HIa7 := Lib.hid (HIa6.out.below hB); have HIe7 := Lib.hid (HIe6.out.below hB); have HIf7 := Lib.hid (HIf6.out.below hB); have HIg7 := Lib.hid (HIg6.out.below hB); have Z7 := And.intro BA7.out BB7.out; unfold Bx at Z7; clear hO hI hB))
    all_goals
      go_wp2_with (fail)
      go_ret
      exact ⟨ret_bool HR2.out.symm, HB7.out⟩
set_option maxRecDepth 100000 in
set_option maxHeartbeats 16000000 in
theorem implFracSame (v : Value) (p : Int) (U L : List Int) (v' : Value) (p' : Int) (U' L' : List Int) (w : World) (h : RV w v p U L) (h' : RV w v' p' U' L') (ge : Addr) (hge : GE w ge) :
    Calls Tryd.prog 17 #[v, v'] w fun e w' => e = .returned (.bool (fracSameR p U L p' U' L')) ∧ Below w.heap.size w w' := by
  have HQ := Lib.hid h
  have HQ' := Lib.hid h'
  obtain ⟨A, n, c, b, o, A', n', c', b', o', rfl, g1, g2⟩ := h
  obtain ⟨B, m, d, y, x, B', m', d', y', x', rfl, k1, k2⟩ := h'
  obtain ⟨W0, hW0⟩ : ∃ W0, (w.alloc (.cells #[.int .i64 p, .slice A n c, .slice A' n' c'] 25)).alloc (.cells #[.int .i64 p', .slice B m d, .slice B' m' d'] 25) = W0 := ⟨_, rfl⟩
  have hB0 : Below w.heap.size w W0 := by rw [← hW0]; exact ((Below.refl _ w).alloc (Nat.le_refl _) _).alloc (by simp) _
  have hba : Bx W0 w.heap.size (.int .i64 p) (.slice A n c) (.slice A' n' c') := by rw [← hW0]; exact (Bx.new w _ _ _ _).below (below_new _ _)
  have hbb : Bx W0 (w.heap.size + 1) (.int .i64 p') (.slice B m d) (.slice B' m' d') := by
    have := (Bx.new (w.alloc (.cells #[.int .i64 p, .slice A n c, .slice A' n' c'] 25)) (.int .i64 p') (.slice B m d) (.slice B' m' d') 25)
    rw [World.size_alloc] at this
    rw [← hW0]; exact this
  have H0 := Lib.hid (HQ.out.below hB0)
  have H0' := Lib.hid (HQ'.out.below hB0)
  have IU := Lib.hid (g1.below hB0)
  have IL := Lib.hid (g2.below hB0)
  have IU' := Lib.hid (k1.below hB0)
  have IL' := Lib.hid (k2.below hB0)
  have BA := Lib.hid hba
  have BB := Lib.hid hbb
  have HB0 := Lib.hid hB0
  have HG0 := Lib.hid (hge.below HB0.out)
  clear g1 g2 k1 k2 hba hbb hB0 hge HQ HQ'
  obtain ⟨y0, y1, y2⟩ := BA.out
  obtain ⟨t0, t1, t2⟩ := BB.out
  rcases hbo : bothB p U L p' U' L'
  · have HBO := Lib.hid hbo
    have HR := Lib.hid (show fracSameR p U L p' U' L' = false by unfold fracSameR; rw [hbo]; rfl)
    clear hbo
    go_enter Tryd.func17, Tryd.ntmps17
    go_wp2_with (go_at_call 52; (with_reducible refine (bothValid_any _ p U L _ p' U' L' _ H0.out H0'.out ge HG0.out).mono ?_); rintro e w1 ⟨rfl, hB⟩; rw [HBO.out]; have HB1 := Lib.hid (below_more HB0.out hB); have BA1 := Lib.hid (BA.out.below hB); have BB1 := Lib.hid (BB.out.below hB); have HV1 := Lib.hid (H0.out.below hB); have HV1' := Lib.hid (H0'.out.below hB); have HG1 := Lib.hid (HG0.out.below hB); clear hB)
    go_ret
    exact ⟨ret_bool HR.out.symm, HB1.out⟩
  have HBO := Lib.hid hbo
  obtain ⟨ha, hb, hpp⟩ := bothB_true hbo
  subst hpp
  obtain ⟨hu, hl, hu12, hl12, hl0, hl1⟩ := fracB_true ha
  obtain ⟨hu', hl', hu12', hl12', hl0', hl1'⟩ := fracB_true hb
  have hpr := (serB_true (polB_ser hu)).1
  obtain ⟨tx, px, lx⟩ := tms_pol hu hl' hu12 hl12'
  obtain ⟨ty, py, ly⟩ := tms_pol hu' hl hu12' hl12
  have HUV := Lib.hid (serB_true (polB_ser hu)).2.2
  have HUV' := Lib.hid (serB_true (polB_ser hu')).2.2
  have HLV := Lib.hid (serB_true (polB_ser hl)).2.2
  have HLV' := Lib.hid (serB_true (polB_ser hl')).2.2
  have HUL := Lib.hid (show U.length ≤ 100000 ∧ U.length ≤ 1048576 by omega)
  have HUL' := Lib.hid (show U'.length ≤ 100000 ∧ U'.length ≤ 1048576 by omega)
  have HLL := Lib.hid (show L.length ≤ 100000 ∧ L.length ≤ 1048576 by omega)
  have HLL' := Lib.hid (show L'.length ≤ 100000 ∧ L'.length ≤ 1048576 by omega)
  obtain ⟨TX, hTX⟩ : ∃ T, tmsL p U L' = T := ⟨_, rfl⟩
  obtain ⟨TY, hTY⟩ : ∃ T, tmsL p U' L = T := ⟨_, rfl⟩
  rw [hTX] at tx
  rw [hTY] at ty
  have HTX := Lib.hid (show trimL (tmsL p U L') = TX by rw [hTX]; exact tx)
  have HTY := Lib.hid (show trimL (tmsL p U' L) = TY by rw [hTY]; exact ty)
  have HR := Lib.hid (show fracSameR p U L p U' L' = decide (TX = TY) by unfold fracSameR; rw [hbo, hTX, hTY]; rfl)
  clear hu hl hu12 hl12 hl0 hl1 hu' hl' hu12' hl12' hl0' hl1' hpr tx px ty py lx ly ha hb hbo hTX hTY
  go_enter Tryd.func17, Tryd.ntmps17
  go_wp2_with (go_at_call 52; (with_reducible refine (bothValid_any _ p U L _ p U' L' _ H0.out H0'.out ge HG0.out).mono ?_); rintro e w1 ⟨rfl, hB⟩; rw [HBO.out]; have HB1 := Lib.hid (below_more HB0.out hB); have BA1 := Lib.hid (BA.out.below hB); have BB1 := Lib.hid (BB.out.below hB); have HV1 := Lib.hid (H0.out.below hB); have HV1' := Lib.hid (H0'.out.below hB); have HG1 := Lib.hid (HG0.out.below hB); clear hB)
  clear hW0 y0 y1 y2 t0 t1 t2
  have ZS := And.intro BA1.out BB1.out
  have Zd := And.intro BA1.out.drew BB1.out.drew
  unfold Bx at ZS Zd
  go_region_held3 (fun w' => (w'.cell? ⟨w.heap.size, 0, none⟩ = some (.int .i64 p) ∧ w'.cell? ⟨w.heap.size, 1, none⟩ = some (.slice A n c) ∧ w'.cell? ⟨w.heap.size, 2, none⟩ = some (.slice A' n' c')) ∧ (w'.cell? ⟨w.heap.size + 1, 0, none⟩ = some (.int .i64 p) ∧ w'.cell? ⟨w.heap.size + 1, 1, none⟩ = some (.slice B m d) ∧ w'.cell? ⟨w.heap.size + 1, 2, none⟩ = some (.slice B' m' d'))) (first | assumption | exact Z8 | exact Z7 | exact Z6 | exact Z5 | exact Z4 | exact Z3 | exact Z2 | exact Zd | exact ZS | go_keep)
    (first
      | (go_at_call 34; (with_reducible refine (upper_any _ p U L _ (HV1.out.below (below_new_drew _)) HUL.out.2).mono ?_); rintro e w2 ⟨Aa, ca, rfl, hO, hB⟩; obtain ⟨ba, hI⟩ := OT.it hO; have HIa2 := Lib.hid hI; have HB2 := Lib.hid (below_more HB1.out.drew hB); have BA2 := Lib.hid (BA1.out.drew.below hB); have BB2 := Lib.hid (BB1.out.drew.below hB); have HV2 := Lib.hid ((HV1.out.below (below_new_drew _)).below hB); have HV2' := Lib.hid ((HV1'.out.below (below_new_drew _)).below hB); have HG2 := Lib.hid (HG1.out.drew.below hB); have Z2 := And.intro BA2.out BB2.out; unfold Bx at Z2; clear hO hI hB)
      | (go_at_call 35; (with_reducible refine (lower_any _ p U' L' _ HV2'.out HLL'.out.2).mono ?_); rintro e w3 ⟨Ab, cb, rfl, hO, hB⟩; obtain ⟨bb, hI⟩ := OT.it hO; have HIb3 := Lib.hid hI; have HB3 := Lib.hid (below_more HB2.out hB); have BA3 := Lib.hid (BA2.out.below hB); have BB3 := Lib.hid (BB2.out.below hB); have HV3 := Lib.hid (HV2.out.below hB); have HV3' := Lib.hid (HV2'.out.below hB); have HG3 := Lib.hid (HG2.out.below hB); have HIa3 := Lib.hid (HIa2.out.below hB); have Z3 := And.intro BA3.out BB3.out; unfold Bx at Z3; clear hO hI hB)
      | (go_at_call 54; (with_reducible refine (times_any p Aa _ ca ba U Ab _ cb bb L' _ HIa3.out HIb3.out HUV.out HLV'.out HUL.out.1 HLL'.out.1).mono ?_); rw [HTX.out]; rintro e w4 ⟨Ae, ce, rfl, hO, hB⟩; obtain ⟨be, hI⟩ := OT.it hO; have HIe4 := Lib.hid hI; have HB4 := Lib.hid (below_more HB3.out hB); have BA4 := Lib.hid (BA3.out.below hB); have BB4 := Lib.hid (BB3.out.below hB); have HV4 := Lib.hid (HV3.out.below hB); have HV4' := Lib.hid (HV3'.out.below hB); have HG4 := Lib.hid (HG3.out.below hB); have HIa4 := Lib.hid (HIa3.out.below hB); have HIb4 := Lib.hid (HIb3.out.below hB); have Z4 := And.intro BA4.out BB4.out; unfold Bx at Z4; clear hO hI hB)
      | (go_at_call 34; (with_reducible refine (upper_any _ p U' L' _ HV4'.out HUL'.out.2).mono ?_); rintro e w5 ⟨Af, cf, rfl, hO, hB⟩; obtain ⟨bf, hI⟩ := OT.it hO; have HIf5 := Lib.hid hI; have HB5 := Lib.hid (below_more HB4.out hB); have BA5 := Lib.hid (BA4.out.below hB); have BB5 := Lib.hid (BB4.out.below hB); have HV5 := Lib.hid (HV4.out.below hB); have HV5' := Lib.hid (HV4'.out.below hB); have HG5 := Lib.hid (HG4.out.below hB); have HIa5 := Lib.hid (HIa4.out.below hB); have HIb5 := Lib.hid (HIb4.out.below hB); have HIe5 := Lib.hid (HIe4.out.below hB); have Z5 := And.intro BA5.out BB5.out; unfold Bx at Z5; clear hO hI hB)
      | (go_at_call 35; (with_reducible refine (lower_any _ p U L _ HV5.out HLL.out.2).mono ?_); rintro e w6 ⟨Ag, cg, rfl, hO, hB⟩; obtain ⟨bg, hI⟩ := OT.it hO; have HIg6 := Lib.hid hI; have HB6 := Lib.hid (below_more HB5.out hB); have BA6 := Lib.hid (BA5.out.below hB); have BB6 := Lib.hid (BB5.out.below hB); have HV6 := Lib.hid (HV5.out.below hB); have HV6' := Lib.hid (HV5'.out.below hB); have HG6 := Lib.hid (HG5.out.below hB); have HIa6 := Lib.hid (HIa5.out.below hB); have HIb6 := Lib.hid (HIb5.out.below hB); have HIe6 := Lib.hid (HIe5.out.below hB); have HIf6 := Lib.hid (HIf5.out.below hB); have Z6 := And.intro BA6.out BB6.out; unfold Bx at Z6; clear hO hI hB)
      | (go_at_call 54; (with_reducible refine (times_any p Af _ cf bf U' Ag _ cg bg L _ HIf6.out HIg6.out HUV'.out HLV.out HUL'.out.1 HLL.out.1).mono ?_); rw [HTY.out]; rintro e w7 ⟨Ah, ch, rfl, hO, hB⟩; obtain ⟨bh, hI⟩ := OT.it hO; have HIh7 := Lib.hid hI; have HB7 := Lib.hid (below_more HB6.out hB); have BA7 := Lib.hid (BA6.out.below hB); have BB7 := Lib.hid (BB6.out.below hB); have HV7 := Lib.hid (HV6.out.below hB); have HV7' := Lib.hid (HV6'.out.below hB); have HG7 := Lib.hid (HG6.out.below hB); have HIa7 := Lib.hid (HIa6.out.below hB); have HIb7 := Lib.hid (HIb6.out.below hB); have HIe7 := Lib.hid (HIe6.out.below hB); have HIf7 := Lib.hid (HIf6.out.below hB); have HIg7 := Lib.hid (HIg6.out.below hB); have Z7 := And.intro BA7.out BB7.out; unfold Bx at Z7; clear hO hI hB)
      | (go_at_call 53; refine (equalT_any p Ae _ ce be TX Ah _ ch bh TY _ HIe7.out HIh7.out).mono ?_; rintro e w8 ⟨rfl, hm⟩; have HB8 := Lib.hid (below_drawn HB7.out hm); have BA8 := Lib.hid (BA7.out.below (below_drawn (Below.refl _ _) hm)); have BB8 := Lib.hid (BB7.out.below (below_drawn (Below.refl _ _) hm)); have Z8 := And.intro BA8.out BB8.out; unfold Bx at Z8))
  all_goals
    go_wp2_with (fail)
    go_ret
    exact ⟨ret_bool HR.out.symm, HB8.out⟩
end Go.Proofs.YtllakclbgmingabDoor

/-
  The walk of the law of TableDets.
-/
import Derived.Test.YtdecaokngedghaaGf
import Derived.Test.YtdecaokngedghaaTdZ
import Derived.Test.YtdecaokngedghaaSame
namespace Go.Proofs.Ytdecaokngedghaa
open Go.RowKit
set_option maxRecDepth 100000 in
set_option maxHeartbeats 4000000 in
theorem drawTableDets (a : Option Addr) (len cap : Nat) (zs : List Int) (w : World) (h : IsRow .u8 w a len cap zs) :
    Calls Try.prog 25 #[.slice a len cap] w (DRec w) := by
  have HW := Lib.hid (BxW.new w (.int .i64 0) (.slice none 0 0) (.slice none 0 0) 27)
  have hb0 := below_new w (.cells #[.int .i64 0, .slice none 0 0, .slice none 0 0] 27)
  have HI := Lib.hid (isRow_below h hb0)
  have HB0 := Lib.hid hb0
  clear h hb0
  go_enter Try.func25, Try.ntmps25
  go_wp2_with (fail)
  refine (open_any a len cap zs _ HI.out).mono ?_
  rintro e w1 ⟨rb, A, n, c, cb, co, rfl, hR, hB, hrb, hcb⟩
  have hB1 := HB0.out.trans (hB.mono HB0.out.size)
  have hs1 := hB.size
  rw [World.size_alloc] at hs1 hrb hcb
  have HW1 := Lib.hid (HW.out.below hB)
  clear hB
  go_wp2_with (fail)
  refine (rec_any rb n c cb co 0 A 5 9 _ hR (by omega) (by omega) (by decide) (by decide)).mono ?_
  rintro e w2 ⟨v, q, T, F, rfl, hO, hT, hF, hq0, hq1, hR2, hK2⟩
  have hs2 := hK2.size
  have HW2 := Lib.hid (HW1.out.keep hK2 (fun hs => by rcases hs with hs | hs <;> omega))
  have HB2 := Lib.hid (below_drw hB1 hK2 (Nat.le_refl _) (by omega) (by omega))
  obtain ⟨A1, c1, A2, c2, rfl, hO1, hO2, hap⟩ := hO
  have HO1 := Lib.hid hO1
  have HO2 := Lib.hid hO2
  have HAP := Lib.hid hap
  clear hO1 hO2 hap hR hR2 hK2 hcb hB1
  obtain ⟨r0, r1, r2⟩ := HW2.out.c
  have rf := HW2.out.fz
  go_wp2_with (fail)
  refine bodyPost_ret (v := .agg #[.int .i64 q, .slice A1 T.length c1, .slice A2 F.length c2]) (by simp [results, Try.f25, go_sem, r0, r1, r2]) rfl ?_
  have hk := set3_keep w2 w.heap.size (.int .i64 q) (.slice A1 T.length c1) (.slice A2 F.length c2)
  exact ⟨_, q, T, F, rfl, ⟨A1, c1, A2, c2, rfl, owns_mono (OIk HO1.out hk (fun g hg e => by have := (HO1.out.lt g hg).1; omega)) (by omega), owns_mono (OIk HO2.out hk (fun g hg e => by have := (HO2.out.lt g hg).1; omega)) (by omega), HAP.out⟩, hT, hF, hq0, hq1, HB2.out.trans (set3_far w2 w.heap.size _ _ _ (Nat.le_refl _) (by omega))⟩
set_option maxRecDepth 100000 in
set_option maxHeartbeats 16000000 in
theorem walkFnTableDets (a : Option Addr) (len cap : Nat) (zs : List Int) (w : World) (h : IsRow .u8 w a len cap zs) :
    Calls Try.prog 6 #[.slice a len cap] w fun e w' => e = .returned (.bool true) ∧ Below w.heap.size w w' := by
  have hm : len ≤ 9223372036854775807 := by have := rowBytes h; unfold maxLen at this; omega
  by_cases hb : 1048576 < len
  · go_enter Try.func6, Try.ntmps6
    go_wp2_with (fail)
    go_ret
    exact ⟨rfl, Below.refl _ _⟩
  have hd0 : decide (1048576 < (len : Int)) = false := by simp; omega
  go_enter Try.func6, Try.ntmps6
  go_wp2_with (fail)
  refine (drawTableDets a len cap zs w h).mono ?_
  rintro e w1 ⟨v, q, T, F, rfl, hO, hT8, hF8, hq0, hq1, hB⟩
  obtain ⟨A1, c1, A2, c2, rfl, hO1, hO2, hap⟩ := hO
  have HRV := Lib.hid (show RV w1 (.agg #[.int .i64 q, .slice A1 T.length c1, .slice A2 F.length c2]) q T F from RO.rv (B := w.heap.size) ⟨A1, c1, A2, c2, rfl, hO1, hO2, hap⟩)
  obtain ⟨W1, hW1⟩ : ∃ W1, w1.alloc (.cells #[.int .i64 q, .slice A1 T.length c1, .slice A2 F.length c2] 27) = W1 := ⟨_, rfl⟩
  have hN : Below w1.heap.size w1 W1 := by rw [← hW1]; exact below_new _ _
  have BX := Lib.hid (show Bx W1 w1.heap.size (.int .i64 q) (.slice A1 T.length c1) (.slice A2 F.length c2) by rw [← hW1]; exact Bx.new _ _ _ _ _)
  have HB1 := Lib.hid (below_more hB hN)
  have HRV1 := Lib.hid (HRV.out.below hN)
  obtain ⟨D, hD⟩ : ∃ D, detsO q T F = D := ⟨_, rfl⟩
  have HD := Lib.hid hD
  clear hB hN hO1 hO2 hap h hT8 hF8 hD
  obtain ⟨x0, x1, x2⟩ := BX.out
  go_wp2_with (fail)
  clear hW1
  refine (implTableDets _ q T F _ HRV1.out).mono ?_
  rw [HD.out]
  rintro e w2 ⟨A5, c5, rfl, hO5, hN⟩
  have hc5 := OI.capLe hO5
  obtain ⟨b5, hI5⟩ := hO5.ia
  have HI5 := Lib.hid hI5
  have HB2 := Lib.hid (below_more HB1.out hN)
  have BX2 := Lib.hid (BX.out.below hN)
  have HRV2 := Lib.hid (HRV1.out.below hN)
  clear hN hO5 hI5 x0 x1 x2
  obtain ⟨x0, x1, x2⟩ := BX2.out
  go_wp2_with (fail)
  refine (specTableDets _ q T F _ HRV2.out).mono ?_
  rw [HD.out]
  rintro e w3 ⟨A6, c6, rfl, hO6, hN⟩
  obtain ⟨b6, hI6⟩ := hO6.ia
  have HI6 := Lib.hid hI6
  have HI52 := Lib.hid (HI5.out.below hN)
  have HB3 := Lib.hid (below_more HB2.out hN)
  have BX3 := Lib.hid (BX2.out.below hN)
  have HRV3 := Lib.hid (HRV2.out.below hN)
  clear hN hO6 hI6 x0 x1 x2
  obtain ⟨x0, x1, x2⟩ := BX3.out
  go_wp2_with (fail)
  refine (sameIntsC _ _ _ _ _ _ _ _ _ _ _ _ _ HI52.out HI6.out).mono ?_
  rintro e w4 ⟨rfl, hN0⟩
  rw [decide_eq_true rfl]
  have hN := below_drawn (Below.refl w3.heap.size w3) hN0
  clear hN0
  have HI53 := Lib.hid (HI52.out.below hN)
  have HB4 := Lib.hid (below_more HB3.out hN)
  have BX4 := Lib.hid (BX3.out.below hN)
  have HRV4 := Lib.hid (HRV3.out.below hN)
  clear hN x0 x1 x2
  obtain ⟨x0, x1, x2⟩ := BX4.out
  rcases hv : recB q T F
  · have hg : D = [] := by rw [← HD.out]; unfold detsO; rw [if_neg (by simp [hv])]
    subst hg
    have HV := Lib.hid hv
    clear hv
    go_wp2_with (first
      | (go_at_call 23; refine (specRecValid _ q T F _ HRV4.out).mono ?_; rw [HV.out]; rintro e w5 ⟨rfl, hN⟩; have HB5 := Lib.hid (below_more HB4.out hN); clear hN x0 x1 x2)
      | (go_at_call 12; refine (alive _).mono ?_; rintro e w6 ⟨rfl, rfl⟩))
    go_ret
    exact ⟨rfl, HB5.out⟩
  · obtain ⟨d, hr, hd, hz, hnz⟩ := dets_law hv
    have hg : D = detsL q T F := by rw [← HD.out]; unfold detsO; rw [if_pos hv]
    have hdl : D.length = 8 := by rw [hg, detsL_len]
    have hd6 : d ≤ 6 := by have := (recB_true hv).2.1; omega
    have HR := Lib.hid hr
    have HZ := Lib.hid (show ∀ k, d ≤ k → k < 8 → D[k]? = some 0 from fun k h1 h2 => by rw [hg, detsL_get q T F h2, hz k h1 h2])
    have HNZ := Lib.hid (show 1 ≤ d → ∃ y, D[d - 1]? = some y ∧ y ≠ 0 from fun h1 => ⟨_, by rw [hg, detsL_get q T F (show d - 1 < 8 by omega)], by rw [show d - 1 + 1 = d by omega]; exact hnz h1⟩)
    have HV := Lib.hid hv
    clear hv hr hz hnz hg hd
    rw [hdl] at HI53
    go_wp2_with (first
      | (go_at_call 23; refine (specRecValid _ q T F _ HRV4.out).mono ?_; rw [HV.out]; rintro e w5 ⟨rfl, hN⟩; have HB5 := Lib.hid (below_more HB4.out hN); have HRV5 := Lib.hid (HRV4.out.below hN); have HI54 := Lib.hid (HI53.out.below hN); have BX5 := Lib.hid (BX4.out.below hN); clear hN x0 x1 x2; obtain ⟨x0, x1, x2⟩ := BX5.out)
      | (go_at_call 28; refine (specStreamRank _ q T F _ HRV5.out).mono ?_; rw [HR.out]; rintro e w6 ⟨rfl, hN⟩; have HB6 := Lib.hid (below_more HB5.out hN); have HI55 := Lib.hid (HI54.out.below hN); clear hN x0 x1 x2))
    obtain rfl := HI55.out.adr (by omega)
    go_loopw [6] (fun i wr => ∃ k : Nat, d ≤ k ∧ k ≤ 8 ∧ i = .int .i64 k ∧ Hid (∃ m, wr = w6.drewN m)) (fun i _ => 8 - (intOf i).toNat)
    case atStart => exact ⟨d, Nat.le_refl _, by omega, rfl, 0, rfl⟩
    case round =>
      obtain ⟨k, hk0, hk, rfl, hw⟩ := hrel
      obtain ⟨wa, rfl⟩ : ∃ wa : World, wa = wr := ⟨_, rfl⟩
      have HIa := Lib.hid (HI55.out.below (below_drawn (Below.refl w6.heap.size w6) hw.out))
      by_cases hlt : k < 8
      · obtain ⟨y, hy, hyc⟩ := HIa.out.cell k hlt
        rw [Nat.zero_add] at hyc
        obtain rfl : (0 : Int) = y := Option.some.inj ((HZ.out k hk0 hlt).symm.trans hy)
        have hki : (k : Int) < 8 := by omega
        clear hy
        go_wp2_with (fail)
        go_roundw
        case rel => exact ⟨k + 1, by omega, by omega, by go_num, hw⟩
        case measure => simp [intOf]; omega
      · obtain rfl : k = 8 := by omega
        have HBa := Lib.hid (below_drawn HB6.out hw.out)
        by_cases h0 : d = 0
        · subst h0
          go_wp2_with (fail)
          go_ret
          exact ⟨rfl, HBa.out⟩
        · obtain ⟨y, hy, hyn⟩ := HNZ.out (by omega)
          obtain ⟨y', hy', hyc⟩ := HIa.out.cell (d - 1) (by omega)
          rw [Nat.zero_add] at hyc
          obtain rfl : y = y' := Option.some.inj (hy.symm.trans hy')
          have hw1 : IntKind.i64.wrap ((d : Int) - 1) = ((d - 1 : Nat) : Int) := by rw [IntWalk.i64_in _ ⟨by omega, by omega⟩]; omega
          have hd1 : (d : Int) - 1 = ((d - 1 : Nat) : Int) := by omega
          have hdz : ((d : Int) == 0) = false := by rw [beq_eq_false_iff_ne]; omega
          have hyz : (y == 0) = false := by rw [beq_eq_false_iff_ne]; exact hyn
          have hyz2 : (y != 0) = true := by simp [hyn]
          clear hy hy'
          go_wp2_with (fail)
          go_ret
          exact ⟨rfl, HBa.out⟩
end Go.Proofs.Ytdecaokngedghaa

/-
  The walk of the law of RecTimes.
-/
import Derived.Test.YtjpmncpbghlkaaaDrawRt
import Derived.Test.YtjpmncpbghlkaaaSTms
namespace Go.Proofs.Ytjpmncpbghlkaaa
open Go.RowKit
theorem times_valid {q x : Int} {T F : List Int} (h : recB q T F = true) : recB q T (scaleRow q x F) = true := by
  obtain ⟨hp, h6, hl, hT, _⟩ := recB_true h
  exact recB_mk hp h6 (by rw [scaleRow_len]; exact hl) hT (scaleRow_valid hp F)
theorem times_stm {q x : Int} {T F : List Int} (h : recB q T F = true) (k : Nat) : stm q T (scaleRow q x F) k = stm q T F k * x % q := by
  obtain ⟨hp, h6, hl, hT, hF⟩ := recB_true h
  refine times_law hl (by rw [scaleRow_len]; exact hl) (fun j hj => ?_) k
  obtain ⟨y, hy⟩ : ∃ y, F[j]? = some y := ⟨_, List.getElem?_eq_getElem (by omega)⟩
  rw [show co (scaleRow q x F) j = y * x % q from getD_at (scaleI_get hy), show co F j = y from getD_at hy]
set_option maxRecDepth 100000 in
set_option maxHeartbeats 2000000 in
theorem walkFnRecTimes (a : Option Addr) (len cap : Nat) (zs : List Int) (w : World) (h : IsRow .u8 w a len cap zs) :
    Calls Try.prog 13 #[.slice a len cap] w fun e w' => e = .returned (.bool true) ∧ Below w.heap.size w w' := by
  have hm : len ≤ 9223372036854775807 := by have := rowBytes h; unfold maxLen at this; omega
  by_cases hb : 1048576 < len
  · go_enter Try.func13, Try.ntmps13
    go_wp2_with (fail)
    go_ret
    exact ⟨rfl, Below.refl _ _⟩
  have hd0 : decide (1048576 < (len : Int)) = false := by simp; omega
  go_enter Try.func13, Try.ntmps13
  go_wp2_with (fail)
  refine (drawRecTimes a len cap zs w h).mono ?_
  rintro e w1 ⟨v, q, T, F, x, rfl, hx0, hx1, hO, hT8, hF8, hq0, hq1, hB⟩
  obtain ⟨A1, c1, A2, c2, rfl, hO1, hO2, hap⟩ := hO
  have HRV := Lib.hid (show RV w1 (.agg #[.int .i64 q, .slice A1 T.length c1, .slice A2 F.length c2]) q T F from RO.rv (B := w.heap.size) ⟨A1, c1, A2, c2, rfl, hO1, hO2, hap⟩)
  obtain ⟨W1, hW1⟩ : ∃ W1, w1.alloc (.cells #[.int .i64 q, .slice A1 T.length c1, .slice A2 F.length c2] 25) = W1 := ⟨_, rfl⟩
  have hN : Below w1.heap.size w1 W1 := by rw [← hW1]; exact below_new _ _
  have BX := Lib.hid (show Bx W1 w1.heap.size (.int .i64 q) (.slice A1 T.length c1) (.slice A2 F.length c2) by rw [← hW1]; exact Bx.new _ _ _ _ _)
  have HB1 := Lib.hid (below_more hB hN)
  have HRV1 := Lib.hid (HRV.out.below hN)
  obtain ⟨q', hq'⟩ : ∃ q', (timesO q T F x).1 = q' := ⟨_, rfl⟩
  obtain ⟨T', hT'⟩ : ∃ T', (timesO q T F x).2.1 = T' := ⟨_, rfl⟩
  obtain ⟨F', hF'⟩ : ∃ F', (timesO q T F x).2.2 = F' := ⟨_, rfl⟩
  have HQ := Lib.hid (And.intro hq' (And.intro hT' hF'))
  clear hB hN hO1 hO2 hap h hq' hT' hF' hT8 hF8
  obtain ⟨x0, x1, x2⟩ := BX.out
  go_wp2_with (fail)
  clear hW1
  refine (implRecTimes _ q T F x _ HRV1.out).mono ?_
  rw [HQ.out.1, HQ.out.2.1, HQ.out.2.2]
  rintro e w2 ⟨_, rfl, ⟨A3, c3, A4, c4, rfl, hO1, hO2, hap⟩, hN⟩
  have HRX := Lib.hid (show RV w2 (.agg #[.int .i64 q', .slice A3 T'.length c3, .slice A4 F'.length c4]) q' T' F' from RO.rv (B := W1.heap.size) ⟨A3, c3, A4, c4, rfl, hO1, hO2, hap⟩)
  have HB2 := Lib.hid (below_more HB1.out hN)
  have BX2 := Lib.hid (BX.out.below hN)
  have HRV2 := Lib.hid (HRV1.out.below hN)
  clear hO1 hO2 hap hN x0 x1 x2
  obtain ⟨W2, hW2⟩ : ∃ W2, w2.alloc (.cells #[.int .i64 q', .slice A3 T'.length c3, .slice A4 F'.length c4] 25) = W2 := ⟨_, rfl⟩
  have hN : Below w2.heap.size w2 W2 := by rw [← hW2]; exact below_new _ _
  have BY := Lib.hid (show Bx W2 w2.heap.size (.int .i64 q') (.slice A3 T'.length c3) (.slice A4 F'.length c4) by rw [← hW2]; exact Bx.new _ _ _ _ _)
  have HB3 := Lib.hid (below_more HB2.out hN)
  have BX3 := Lib.hid (BX2.out.below hN)
  have HRV3 := Lib.hid (HRV2.out.below hN)
  have HRX3 := Lib.hid (HRX.out.below hN)
  clear hN
  go_wp2_with (fail)
  clear hW2
  have HRVd := Lib.hid (HRV3.out.below (below_new_drew W2))
  have HRXd := Lib.hid (HRX3.out.below (below_new_drew W2))
  have ZS := And.intro BX3.out BY.out
  have Zd := And.intro BX3.out.drew BY.out.drew
  unfold Bx at ZS Zd
  go_region_held3 (fun w' => (w'.cell? ⟨w1.heap.size, 0, none⟩ = some (.int .i64 q) ∧ w'.cell? ⟨w1.heap.size, 1, none⟩ = some (.slice A1 T.length c1) ∧ w'.cell? ⟨w1.heap.size, 2, none⟩ = some (.slice A2 F.length c2)) ∧ (w'.cell? ⟨w2.heap.size, 0, none⟩ = some (.int .i64 q') ∧ w'.cell? ⟨w2.heap.size, 1, none⟩ = some (.slice A3 T'.length c3) ∧ w'.cell? ⟨w2.heap.size, 2, none⟩ = some (.slice A4 F'.length c4))) (first | assumption | exact ZB | exact ZA | exact Zd | exact ZS | go_keep)
    (first
      | (go_at_call 45; refine (specRecTimes _ q T F x _ HRVd.out).mono ?_; rw [HQ.out.1, HQ.out.2.1, HQ.out.2.2]; rintro e w3 ⟨u, rfl, hO, hN⟩; have HRY := Lib.hid hO.rv; have HB4 := Lib.hid (below_more HB3.out.drew hN); have BX4 := Lib.hid (BX3.out.drew.below hN); have BY4 := Lib.hid (BY.out.drew.below hN); have HRV4 := Lib.hid (HRVd.out.below hN); have HRX4 := Lib.hid (HRXd.out.below hN); have ZA := And.intro BX4.out BY4.out; unfold Bx at ZA; clear hO hN)
      | (go_at_call 40; refine (sameRec_same _ _ q' T' F' _ HRX4.out HRY.out).mono ?_; rintro e w4 ⟨rfl, hN⟩; have HB5 := Lib.hid (below_more HB4.out hN); have BX5 := Lib.hid (BX4.out.below hN); have BY5 := Lib.hid (BY4.out.below hN); have HRV5 := Lib.hid (HRV4.out.below hN); have HRX5 := Lib.hid (HRX4.out.below hN); have ZB := And.intro BX5.out BY5.out; unfold Bx at ZB; clear hN))
  all_goals
    clear ZS Zd
    obtain ⟨x0, x1, x2⟩ := BX5.out
    obtain ⟨y0, y1, y2⟩ := BY5.out
    by_cases hz : recB q T F = true ∧ numB q x = true
    case neg =>
      have hE : timesO q T F x = (0, [], []) := by unfold timesO; rw [if_neg hz]
      have hqz : q' = 0 := by rw [← HQ.out.1, hE]
      clear hE hz
      subst hqz
      go_wp2_with (go_at_call 18; refine (alive _).mono ?_; rintro e w6 ⟨rfl, rfl⟩)
      go_ret
      exact ⟨rfl, HB5.out⟩
    obtain ⟨hv, hnx⟩ := hz
    have hE : timesO q T F x = (q, T, scaleRow q x F) := by unfold timesO; rw [if_pos ⟨hv, hnx⟩]
    have hqq : q' = q := by rw [← HQ.out.1, hE]
    have hTT : T' = T := by rw [← HQ.out.2.1, hE]
    have hFF : F' = scaleRow q x F := by rw [← HQ.out.2.2, hE]
    subst hqq; subst hTT
    have hv' := times_valid (x := x) hv
    rw [← hFF] at hv'
    have HST := Lib.hid (fun k => times_stm (x := x) hv k)
    rw [← hFF] at HST
    have hpb := prime_ge (recB_true hv).1
    have hz0 : (q' == 0) = false := by rw [beq_eq_false_iff_ne]; omega
    have HV := Lib.hid hv
    have HV' := Lib.hid hv'
    have HNX := Lib.hid hnx
    have HT1 := Lib.hid (show termsO q' T' F 24 = trm q' T' F 24 by unfold termsO; rw [if_pos ⟨hv, by decide, by decide⟩]; rfl)
    have HT2 := Lib.hid (show termsO q' T' F' 24 = trm q' T' F' 24 by unfold termsO; rw [if_pos ⟨hv', by decide, by decide⟩]; rfl)
    clear hE hFF hv hv' hnx
    go_wp2_with (fail)
    refine (implRecTerms _ q' T' F 24 _ HRV5.out).mono ?_
    rw [HT1.out, trm_len]
    rintro e w5 ⟨A5, c5, rfl, hO, hN⟩
    obtain ⟨b5, hI⟩ := hO.ia
    have HI5 := Lib.hid hI
    have HB6 := Lib.hid (below_more HB5.out hN)
    have BX6 := Lib.hid (BX5.out.below hN)
    have BY6 := Lib.hid (BY5.out.below hN)
    have HRX6 := Lib.hid (HRX5.out.below hN)
    clear hO hI hN x0 x1 x2 y0 y1 y2
    obtain ⟨y0, y1, y2⟩ := BY6.out
    go_wp2_with (fail)
    refine (implRecTerms _ q' T' F' 24 _ HRX6.out).mono ?_
    rw [HT2.out, trm_len]
    rintro e w6 ⟨A6, c6, rfl, hO, hN⟩
    obtain ⟨b6, hI⟩ := hO.ia
    have HI6 := Lib.hid hI
    have HI7 := Lib.hid (HI5.out.below hN)
    have HB7 := Lib.hid (below_more HB6.out hN)
    have BX7 := Lib.hid (BX6.out.below hN)
    have BY7 := Lib.hid (BY6.out.below hN)
    have HRX7 := Lib.hid (HRX6.out.below hN)
    clear hO hI hN y0 y1 y2
    go_wp2_with (fail)
    go_loopw [8] (fun i wr => ∃ k : Nat, k ≤ 24 ∧ i = .int .i64 (k : Int) ∧ Hid (∃ m, wr = w6.drewN m)) (fun i _ => 24 - (intOf i).toNat)
    case atStart => exact ⟨0, by omega, rfl, 0, rfl⟩
    case round =>
      obtain ⟨k, hk, rfl, hw⟩ := hrel
      obtain ⟨wo, rfl⟩ : ∃ wo : World, wo = wr := ⟨_, rfl⟩
      have hbw := below_drawn (Below.refl w6.heap.size w6) hw.out
      by_cases hlt : k < 24
      · obtain ⟨x0, x1, x2⟩ := BX7.out.below hbw
        obtain rfl := HI7.out.adr (by omega)
        obtain rfl := HI6.out.adr (by omega)
        obtain ⟨y, hy, hc⟩ := (HI7.out.drewN hw.out).cell k hlt
        obtain ⟨z, hz, hc'⟩ := (HI6.out.drewN hw.out).cell k hlt
        rw [Nat.zero_add] at hc hc'
        have hyn := trm_num HV.out 24 y (List.mem_of_getElem? hy)
        have hzy : numTimes q' y x = z := by
          unfold numTimes
          rw [if_pos ⟨hyn, HNX.out⟩, ← show co (trm q' T' F' 24) k = z from getD_at hz, co_trm q' T' F' hlt, HST.out k, ← co_trm q' T' F hlt, show co (trm q' T' F 24) k = y from getD_at hy]
        have HZY := Lib.hid hzy
        have hkk : (k : Int) < 24 := by omega
        have hzz : (z != z) = false := by simp
        have hcall : ∀ n, Calls Try.prog 46 #[.int .i64 q', .int .i64 y, .int .i64 x] (wo.drewN n) fun e w'' => e = .returned (.int .i64 z) ∧ ∃ m, w'' = wo.drewN m := fun n => by
          refine (implNumTimes q' y x _).mono ?_
          rintro e w'' ⟨rfl, rfl⟩
          exact ⟨by rw [HZY.out], n, rfl⟩
        clear hy hz hzy hbw
        go_wp2_with (fail)
        go_quiet ((go_at_call 46; exact hcall _))
        go_wp2_with (fail)
        go_roundw
        case rel => exact ⟨k + 1, by omega, by go_num, drewN_more hw.out _⟩
        case measure => simp [intOf]; omega
      · obtain ⟨y0, y1, y2⟩ := BY7.out.below hbw
        have HRX8 := Lib.hid (HRX7.out.below hbw)
        have HB8 := Lib.hid (below_more HB7.out hbw)
        obtain rfl : k = 24 := by omega
        clear hbw
        go_wp2_with (go_at_call 16; refine (implRecValid _ q' T' F' _ HRX8.out).mono ?_; rintro e w7 ⟨rfl, hN⟩; rw [HV'.out]; have HB9 := Lib.hid (below_more HB8.out hN); clear hN)
        go_ret
        exact ⟨rfl, HB9.out⟩
end Go.Proofs.Ytjpmncpbghlkaaa

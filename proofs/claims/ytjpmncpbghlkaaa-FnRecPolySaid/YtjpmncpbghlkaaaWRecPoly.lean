/-
  The walk of the law of RecPoly.
-/
import Derived.Test.YtjpmncpbghlkaaaDrawRx
import Derived.Test.YtjpmncpbghlkaaaSRPol
import Derived.Test.YtjpmncpbghlkaaaSame
namespace Go.Proofs.Ytjpmncpbghlkaaa
open Go.RowKit
def kilS (q : Int) (T F : List Int) (k m : Nat) : Int := sigN m (fun j => co (recP q T) j * stm q T F (k + j))
theorem kilS_bd {q : Int} {T F : List Int} (h : recB q T F = true) (k m : Nat) (hm : m ≤ T.length + 1) : 0 ≤ kilS q T F k m ∧ kilS q T F k m ≤ 169 * (m : Int) := by
  obtain ⟨hp, h6, _, _, _⟩ := recB_true h
  have hv := (serB_true (polB_ser (recP_pol hp h6))).2.2
  refine sigN_bd fun j hj => ?_
  have h1 := numB_bd (co_num hv (show j < (recP q T).length by rw [recP_len]; omega))
  have h2 := numB_bd (stm_num h (k + j))
  exact mul_bd h1.1 (by omega) h2.1 (by omega)
theorem kilS_end {q : Int} {T F : List Int} (h : recB q T F = true) (k : Nat) : kilS q T F k (T.length + 1) % q = 0 :=
  Int.emod_eq_zero_of_dvd (recP_kills q T F (recB_true h).2.2.1 k)
set_option maxRecDepth 100000 in
set_option maxHeartbeats 2000000 in
theorem walkFnRecPoly (a : Option Addr) (len cap : Nat) (zs : List Int) (w : World) (h : IsRow .u8 w a len cap zs) :
    Calls Try.prog 7 #[.slice a len cap] w fun e w' => e = .returned (.bool true) ∧ Below w.heap.size w w' := by
  have hm : len ≤ 9223372036854775807 := by have := rowBytes h; unfold maxLen at this; omega
  by_cases hb : 1048576 < len
  · go_enter Try.func7, Try.ntmps7
    go_wp2_with (fail)
    go_ret
    exact ⟨rfl, Below.refl _ _⟩
  have hd0 : decide (1048576 < (len : Int)) = false := by simp; omega
  go_enter Try.func7, Try.ntmps7
  go_wp2_with (fail)
  refine (drawRecPoly a len cap zs w h).mono ?_
  rintro e w1 ⟨v, q, T, F, rfl, hO, hT8, hF8, hq0, hq1, hB⟩
  obtain ⟨A1, c1, A2, c2, rfl, hO1, hO2, hap⟩ := hO
  have HRV := Lib.hid (show RV w1 (.agg #[.int .i64 q, .slice A1 T.length c1, .slice A2 F.length c2]) q T F from RO.rv (B := w.heap.size) ⟨A1, c1, A2, c2, rfl, hO1, hO2, hap⟩)
  obtain ⟨W1, hW1⟩ : ∃ W1, w1.alloc (.cells #[.int .i64 q, .slice A1 T.length c1, .slice A2 F.length c2] 25) = W1 := ⟨_, rfl⟩
  have hN : Below w1.heap.size w1 W1 := by rw [← hW1]; exact below_new _ _
  have BX := Lib.hid (show Bx W1 w1.heap.size (.int .i64 q) (.slice A1 T.length c1) (.slice A2 F.length c2) by rw [← hW1]; exact Bx.new _ _ _ _ _)
  have HB1 := Lib.hid (below_more hB hN)
  have HRV1 := Lib.hid (HRV.out.below hN)
  clear hB hN hO1 hO2 hap h
  obtain ⟨x0, x1, x2⟩ := BX.out
  go_wp2_with (fail)
  clear hW1
  refine (implRecPoly _ q T F _ HRV1.out).mono ?_
  rintro e w2 ⟨A3, c3, rfl, hO, hN⟩
  obtain ⟨b3, hI⟩ := hO.ia
  have HI3 := Lib.hid hI
  have HB2 := Lib.hid (below_more HB1.out hN)
  have BX2 := Lib.hid (BX.out.below hN)
  have HRV2 := Lib.hid (HRV1.out.below hN)
  clear hO hI hN x0 x1 x2
  obtain ⟨x0, x1, x2⟩ := BX2.out
  go_wp2_with (fail)
  refine (specRecPoly _ q T F _ HRV2.out).mono ?_
  rintro e w3 ⟨A4, c4, rfl, hO, hN⟩
  obtain ⟨b4, hI⟩ := hO.ia
  have HB3 := Lib.hid (below_more HB2.out hN)
  have BX3 := Lib.hid (BX2.out.below hN)
  have HRV3 := Lib.hid (HRV2.out.below hN)
  have HI4 := Lib.hid (HI3.out.below hN)
  have HI5 := Lib.hid hI
  clear hO hI hN x0 x1 x2
  go_wp2_with (fail)
  refine (sameIntsC A3 _ c3 b3 0 _ A4 _ c4 b4 0 _ _ HI4.out HI5.out).mono ?_
  rintro e w4 ⟨rfl, hw⟩
  rw [decide_eq_true rfl]
  have HB4 := Lib.hid (below_drawn HB3.out hw)
  have BX4 := Lib.hid (BX3.out.below (below_drawn (Below.refl _ _) hw))
  have HRV4 := Lib.hid (HRV3.out.below (below_drawn (Below.refl _ _) hw))
  have HI6 := Lib.hid (HI4.out.drewN hw)
  clear hw
  obtain ⟨x0, x1, x2⟩ := BX4.out
  rcases hv : recB q T F
  · have hE : polyO q T F = [] := by unfold polyO; rw [if_neg (by simp [hv])]
    have HV := Lib.hid hv
    rw [hE]
    clear hv hE
    go_wp2_with (first | (go_at_call 16; refine (implRecValid _ q T F _ HRV4.out).mono ?_; rintro e w5 ⟨rfl, hN⟩; rw [HV.out]; have HB5 := Lib.hid (below_more HB4.out hN); clear hN) | (go_at_call 18; refine (alive _).mono ?_; rintro e w6 ⟨rfl, rfl⟩))
    go_ret
    exact ⟨rfl, HB5.out⟩
  · obtain ⟨hp, h6, hl, hT, hF⟩ := recB_true hv
    have hpb := prime_ge hp
    have hp0 : q ≠ 0 := by omega
    have hE : polyO q T F = recP q T := by unfold polyO; rw [if_pos hv]
    obtain ⟨ln, hln⟩ : ∃ ln, (polyO q T F).length = ln := ⟨_, rfl⟩
    have hl1 : ln = T.length + 1 := by rw [← hln, hE, recP_len]
    have HPV := Lib.hid (recP_pol hp h6)
    have hI6 := HI6.out
    rw [hE] at hI6
    have HI7 := Lib.hid (show IA w4 A3 ln b3 0 (recP q T) by rw [← hln, hE]; exact hI6)
    have HTE := Lib.hid (show termsO q T F 24 = trm q T F 24 by unfold termsO; rw [if_pos ⟨hv, by decide, by decide⟩]; rfl)
    have HL1 := Lib.hid hl1
    have hln7 : ln ≤ 7 := by omega
    have hln1 : 1 ≤ ln := by omega
    have HV := Lib.hid hv
    have hz0 : ((ln : Int) == 0) = false := by simp; omega
    rw [hln]
    clear hI6 hv hp hl hT hF hE hln hT8 hF8 hl1
    go_wp2_with (fail)
    refine (implRecTerms _ q T F 24 _ HRV4.out).mono ?_
    rw [HTE.out, trm_len]
    rintro e w5 ⟨A5, c5, rfl, hO, hN⟩
    obtain ⟨b5, hI⟩ := hO.ia
    have HI8 := Lib.hid hI
    have HB5 := Lib.hid (below_more HB4.out hN)
    have BX5 := Lib.hid (BX4.out.below hN)
    have HI9 := Lib.hid (HI7.out.below hN)
    clear hO hI hN x0 x1 x2
    go_wp2_with (fail)
    go_loopw [6] (fun i wr => ∃ k : Nat, k + ln ≤ 25 ∧ i = .int .i64 (k : Int) ∧ Hid (∃ m, wr = w5.drewN m)) (fun i _ => 25 - (intOf i).toNat)
    case atStart => exact ⟨0, by omega, rfl, 0, rfl⟩
    case round =>
      obtain ⟨k, hk, rfl, hw⟩ := hrel
      obtain ⟨wo, rfl⟩ : ∃ wo : World, wo = wr := ⟨_, rfl⟩
      have hwk : IntKind.i64.wrap ((k : Int) + (ln : Int)) = (k : Int) + (ln : Int) := IntWalk.i64_in _ ⟨by omega, by omega⟩
      have hbx := BX5.out.below (below_drawn (Below.refl _ w5) hw.out)
      obtain ⟨x0, x1, x2⟩ := hbx
      by_cases hlt : k + ln ≤ 24
      · have hc0 : decide ((k : Int) + (ln : Int) ≤ 24) = true := decide_eq_true (by omega)
        obtain ⟨f, hf⟩ : ∃ f : Nat → Int, kilS q T F k = f := ⟨_, rfl⟩
        have HFF := Lib.hid hf
        have HBD := Lib.hid (fun m (hm : m ≤ T.length + 1) => kilS_bd HV.out k m hm)
        have hend := kilS_end HV.out k
        rw [hf, ← HL1.out] at hend
        have HEND := Lib.hid hend
        have hf0 : f 0 = 0 := by rw [← hf]; rfl
        clear hf hend
        go_wp2_with (fail)
        go_loopw [7, 8] (fun s i wi => ∃ j : Nat, j ≤ ln ∧ i = .int .i64 (j : Int) ∧ s = .int .i64 (f j) ∧ Hid (∃ m, wi = w5.drewN m)) (fun _ i _ => ln - (intOf i).toNat)
        case atStart => exact ⟨0, by omega, rfl, by rw [hf0], hw⟩
        case round =>
          obtain ⟨j, hj, rfl, rfl, hw2⟩ := hrel
          have hbx2 := BX5.out.below (below_drawn (Below.refl _ w5) hw2.out)
          obtain ⟨y0, y1, y2⟩ := hbx2
          have hsb := HBD.out j (by have := HL1.out; omega)
          rw [HFF.out] at hsb
          by_cases hjn : j < ln
          · obtain rfl := HI9.out.adr (by omega)
            obtain rfl := HI8.out.adr (by omega)
            obtain ⟨x, hx, hc⟩ := (HI9.out.drewN hw2.out).cell j hjn
            obtain ⟨y, hy, hc'⟩ := (HI8.out.drewN hw2.out).cell (k + j) (by omega)
            rw [Nat.zero_add] at hc hc'
            have hxb := numB_bd ((serB_true (polB_ser HPV.out)).2.2 x (List.mem_of_getElem? hx))
            have hyb := numB_bd (trm_num HV.out 24 y (List.mem_of_getElem? hy))
            have hmb := mul_bd hxb.1 (by omega) hyb.1 (by omega)
            have hw3 : IntKind.i64.wrap (x * y) = x * y := IntWalk.i64_in _ ⟨by omega, by omega⟩
            have hw4 : IntKind.i64.wrap (f j + x * y) = f j + x * y := IntWalk.i64_in _ ⟨by omega, by omega⟩
            obtain ⟨kj, hkj⟩ : ∃ kj : Nat, k + j = kj := ⟨_, rfl⟩
            have hw5 : IntKind.i64.wrap ((k : Int) + (j : Int)) = (kj : Int) := by rw [show (k : Int) + (j : Int) = (kj : Int) by omega]; exact IntWalk.i64_in _ ⟨by omega, by omega⟩
            have hkj24 : kj < 24 := by omega
            have hkji : (kj : Int) < 24 := by omega
            have HST := Lib.hid (show f (j + 1) = f j + x * y by
              rw [← HFF.out]
              show kilS q T F k j + co (recP q T) j * stm q T F (k + j) = _
              rw [show co (recP q T) j = x from getD_at hx, ← co_trm q T F (show k + j < 24 by omega), show co (trm q T F 24) (k + j) = y from getD_at hy])
            rw [hkj] at hc'
            clear hx hy hkj
            go_wp2_with (fail)
            go_quiet (fail)
            go_wp2_with (fail)
            go_roundw
            case rel => exact ⟨j + 1, by omega, by go_num, by rw [HST.out], drewN_more hw2.out _⟩
            case measure => simp [intOf]; omega
          · obtain rfl : j = ln := by omega
            have hz : (f j % q != 0) = false := by rw [HEND.out]; rfl
            go_wp2_with (fail)
            go_roundw
            case rel => exact ⟨k + 1, by omega, by go_num, hw2⟩
            case measure => simp [intOf]; omega
      · have hc0 : decide ((k : Int) + (ln : Int) ≤ 24) = false := decide_eq_false (by omega)
        have hwt : IntKind.i64.wrap ((T.length : Int) + 1) = (T.length : Int) + 1 := IntWalk.i64_in _ ⟨by omega, by omega⟩
        have hqe : ((ln : Int) == (T.length : Int) + 1) = true := by rw [beq_iff_eq]; have := HL1.out; omega
        have HI10 := Lib.hid (HI9.out.drewN hw.out)
        have HB6 := Lib.hid (below_drawn HB5.out hw.out)
        go_wp2_with (go_at_call 33; refine (implPolyValid q A3 ln c3 b3 0 (recP q T) _ HI10.out).mono ?_; rintro e w6 ⟨rfl, rfl⟩; rw [HPV.out])
        go_ret
        exact ⟨rfl, HB6.out⟩
end Go.Proofs.Ytjpmncpbghlkaaa

/-
  The walk of the law of RecTerms.
-/
import Derived.Deep.RegionHeld3
import Derived.Test.YtjpmncpbghlkaaaDrawRx
import Derived.Test.YtjpmncpbghlkaaaSRt
import Derived.Test.YtjpmncpbghlkaaaSame
namespace Go.Proofs.Ytjpmncpbghlkaaa
open Go.RowKit
theorem tm_end {q : Int} {T F : List Int} (h : recB q T F = true) {k : Nat} (hk : T.length ≤ k) : tmS T (trm q T F k) k T.length % q = stm q T F k := by
  rw [stm_eq, if_neg (by have := (recB_true h).2.2.1; omega)]; rfl
theorem IA.short {w : World} {A : Option Addr} {n b o m : Nat} {xs : List Int} (h : IA w A n b o xs) (hm : m ≤ n) : IA w A m b o (xs.take m) :=
  ⟨by rw [List.length_take, h.len]; omega, fun h0 => h.adr (by omega), Nat.le_trans hm h.big, fun i hi => by
    obtain ⟨x, hx, hc⟩ := h.cell i (by omega)
    exact ⟨x, by rw [List.getElem?_take_of_lt hi]; exact hx, hc⟩⟩
set_option maxRecDepth 100000 in
set_option maxHeartbeats 2000000 in
theorem walkFnRecTerms (a : Option Addr) (len cap : Nat) (zs : List Int) (w : World) (h : IsRow .u8 w a len cap zs) :
    Calls Try.prog 5 #[.slice a len cap] w fun e w' => e = .returned (.bool true) ∧ Below w.heap.size w w' := by
  have hm : len ≤ 9223372036854775807 := by have := rowBytes h; unfold maxLen at this; omega
  by_cases hb : 1048576 < len
  · go_enter Try.func5, Try.ntmps5
    go_wp2_with (fail)
    go_ret
    exact ⟨rfl, Below.refl _ _⟩
  have hd0 : decide (1048576 < (len : Int)) = false := by simp; omega
  go_enter Try.func5, Try.ntmps5
  go_wp2_with (fail)
  refine (drawRecTerms a len cap zs w h).mono ?_
  rintro e w1 ⟨v, q, T, F, x, rfl, hx0, hx1, hO, hT8, hF8, hq0, hq1, hB⟩
  obtain ⟨A1, c1, A2, c2, rfl, hO1, hO2, hap⟩ := hO
  obtain ⟨d, hd⟩ : ∃ d, T.length = d := ⟨_, rfl⟩
  have hO1' := hO1
  rw [hd] at hO1'
  obtain ⟨b1, hIT⟩ := hO1'.ia
  have HRV := Lib.hid (show RV w1 (.agg #[.int .i64 q, .slice A1 d c1, .slice A2 F.length c2]) q T F by
    have := RO.rv (B := w.heap.size) (show RO w1 w.heap.size (.agg #[.int .i64 q, .slice A1 T.length c1, .slice A2 F.length c2]) q T F from ⟨A1, c1, A2, c2, rfl, hO1, hO2, hap⟩)
    rwa [hd] at this)
  obtain ⟨W1, hW1⟩ : ∃ W1, w1.alloc (.cells #[.int .i64 q, .slice A1 d c1, .slice A2 F.length c2] 25) = W1 := ⟨_, rfl⟩
  have hN : Below w1.heap.size w1 W1 := by rw [← hW1]; exact below_new _ _
  have BX := Lib.hid (show Bx W1 w1.heap.size (.int .i64 q) (.slice A1 d c1) (.slice A2 F.length c2) by rw [← hW1]; exact Bx.new _ _ _ _ _)
  have HB1 := Lib.hid (below_more hB hN)
  have HRV1 := Lib.hid (HRV.out.below hN)
  have HIT := Lib.hid (hIT.below hN)
  have HD := Lib.hid hd
  rw [hd]
  clear hB hN hO1 hO2 hap h hIT hO1' hd
  obtain ⟨x0, x1, x2⟩ := BX.out
  go_wp2_with (fail)
  clear hW1
  refine (implRecTerms _ q T F x _ HRV1.out).mono ?_
  rintro e w2 ⟨A3, c3, rfl, hO, hN⟩
  have hcap := OI.capLe hO
  obtain ⟨b3, hI⟩ := hO.ia
  have HI3 := Lib.hid hI
  have HB2 := Lib.hid (below_more HB1.out hN)
  have BX2 := Lib.hid (BX.out.below hN)
  have HRV2 := Lib.hid (HRV1.out.below hN)
  have HIT2 := Lib.hid (HIT.out.below hN)
  clear hO hI hN x0 x1 x2
  obtain ⟨x0, x1, x2⟩ := BX2.out
  go_wp2_with (fail)
  refine (specRecTerms _ q T F x _ HRV2.out).mono ?_
  rintro e w3 ⟨A4, c4, rfl, hO, hN⟩
  obtain ⟨b4, hI⟩ := hO.ia
  have HB3 := Lib.hid (below_more HB2.out hN)
  have BX3 := Lib.hid (BX2.out.below hN)
  have HRV3 := Lib.hid (HRV2.out.below hN)
  have HIT3 := Lib.hid (HIT2.out.below hN)
  have HI4 := Lib.hid (HI3.out.below hN)
  have HI5 := Lib.hid hI
  clear hO hI hN x0 x1 x2
  go_wp2_with (fail)
  refine (sameIntsC A3 _ c3 b3 0 _ A4 _ c4 b4 0 _ _ HI4.out HI5.out).mono ?_
  rintro e w4 ⟨rfl, hw⟩
  rw [decide_eq_true rfl]
  have HB4 := Lib.hid (below_drawn HB3.out hw)
  have hb4 := below_drawn (Below.refl w3.heap.size w3) hw
  have BX4 := Lib.hid (BX3.out.below hb4)
  have HRV4 := Lib.hid (HRV3.out.below hb4)
  have HIT4 := Lib.hid (HIT3.out.below hb4)
  have HI6 := Lib.hid (HI4.out.drewN hw)
  clear hw hb4
  obtain ⟨x0, x1, x2⟩ := BX4.out
  by_cases hz : recB q T F = true ∧ 1 ≤ x ∧ x ≤ 24
  case neg =>
    have hE : termsO q T F x = [] := by
      unfold termsO
      split
      · rename_i h
        have : x = 0 := by
          by_cases h1 : 1 ≤ x
          · exact absurd ⟨h.1, h1, h.2.2⟩ hz
          · omega
        subst this; rfl
      · rfl
    rw [hE]
    clear hE hz hcap
    go_wp2_with (go_at_call 18; refine (alive _).mono ?_; rintro e w6 ⟨rfl, rfl⟩)
    go_ret
    exact ⟨rfl, HB4.out⟩
  obtain ⟨hv, hx1', hx24⟩ := hz
  obtain ⟨mp, hmp⟩ : ∃ mp : Nat, x = ((mp + 1 : Nat) : Int) := ⟨(x - 1).toNat, by omega⟩
  obtain ⟨m, hmm⟩ : ∃ m : Nat, mp + 1 = m := ⟨_, rfl⟩
  rw [hmm] at hmp
  subst hmp
  have hE : termsO q T F (m : Int) = trm q T F m := by unfold termsO; rw [if_pos ⟨hv, by omega, by omega⟩]; rfl
  have hEp : termsO q T F (mp : Int) = trm q T F mp := by unfold termsO; rw [if_pos ⟨hv, by omega, by omega⟩]; rfl
  have hI6 := HI6.out
  rw [hE, trm_len] at hI6
  rw [hE, trm_len] at hcap
  have HI7 := Lib.hid hI6
  have HEP := Lib.hid hEp
  obtain ⟨hp, h6, hl, hT, hF⟩ := recB_true hv
  have hpb := prime_ge hp
  have hp0 : q ≠ 0 := by omega
  have HT := Lib.hid hT
  have HV := Lib.hid hv
  have hd6 : d ≤ 6 := by rw [← HD.out]; exact h6
  have hmz : ((m : Int) == 0) = false := by simp; omega
  have hwm : IntKind.i64.wrap ((m : Int) - 1) = (mp : Int) := by rw [show (m : Int) - 1 = (mp : Int) by omega]; exact IntWalk.i64_in _ ⟨by omega, by omega⟩
  have hmm2 : mp < m := by omega
  have HMM := Lib.hid hmm
  rw [hE, trm_len]
  clear hE hEp hI6 hv hp hl hT hF hx0 hx1 hx1' hT8 hF8 h6 hmm
  go_wp2_with (fail)
  go_loopw [7] (fun i wr => ∃ k : Nat, d ≤ k ∧ k ≤ 40 ∧ i = .int .i64 (k : Int) ∧ Hid (∃ m, wr = w4.drewN m)) (fun i _ => 40 - (intOf i).toNat)
  case atStart => exact ⟨d, by omega, by omega, rfl, 0, rfl⟩
  case round =>
    obtain ⟨k, hdk, hk, rfl, hw⟩ := hrel
    obtain ⟨wo, rfl⟩ : ∃ wo : World, wo = wr := ⟨_, rfl⟩
    have hbx := BX4.out.below (below_drawn (Below.refl _ w4) hw.out)
    obtain ⟨y0, y1, y2⟩ := hbx
    by_cases hlt : k < m
    · obtain ⟨f, hf⟩ : ∃ f : Nat → Int, tmS T (trm q T F k) k = f := ⟨_, rfl⟩
      have HFF := Lib.hid hf
      have HBD := Lib.hid (fun j (hj : j ≤ T.length) => tmS_bd HV.out k j (by rw [HD.out]; exact hdk) hj)
      have hend := tm_end HV.out (show T.length ≤ k by rw [HD.out]; exact hdk)
      rw [hf, HD.out] at hend
      have HEND := Lib.hid hend
      have hf0 : f 0 = 0 := by rw [← hf]; rfl
      clear hf hend
      go_wp2_with (fail)
      go_loopw [8, 9] (fun s i wi => ∃ j : Nat, j ≤ d ∧ i = .int .i64 (j : Int) ∧ s = .int .i64 (f j) ∧ Hid (∃ m, wi = w4.drewN m)) (fun _ i _ => d - (intOf i).toNat)
      case atStart => exact ⟨0, by omega, rfl, by rw [hf0], hw⟩
      case round =>
        obtain ⟨j, hj, rfl, rfl, hw2⟩ := hrel
        have hbx2 := BX4.out.below (below_drawn (Below.refl _ w4) hw2.out)
        obtain ⟨z0, z1, z2⟩ := hbx2
        have hsb := HBD.out j (by rw [HD.out]; exact hj)
        rw [HFF.out] at hsb
        by_cases hjn : j < d
        · obtain ⟨r, hr⟩ : ∃ r : Nat, r + j + 1 = k := ⟨k - j - 1, by omega⟩
          obtain rfl := HIT4.out.adr (by omega)
          obtain rfl := HI7.out.adr (by omega)
          obtain ⟨t, ht, hc⟩ := (HIT4.out.drewN hw2.out).cell j hjn
          obtain ⟨y, hy, hc'⟩ := (HI7.out.drewN hw2.out).cell r (by omega)
          rw [Nat.zero_add] at hc hc'
          have htb := numB_bd (HT.out t (List.mem_of_getElem? ht))
          have hyb := numB_bd (trm_num HV.out m y (List.mem_of_getElem? hy))
          have hmb := mul_bd htb.1 (by omega) hyb.1 (by omega)
          have hw1 : IntKind.i64.wrap ((k : Int) - 1) = (k : Int) - 1 := IntWalk.i64_in _ ⟨by omega, by omega⟩
          have hw2' : IntKind.i64.wrap ((k : Int) - 1 - (j : Int)) = (r : Int) := by rw [show (k : Int) - 1 - (j : Int) = (r : Int) by omega]; exact IntWalk.i64_in _ ⟨by omega, by omega⟩
          have hw3 : IntKind.i64.wrap (t * y) = t * y := IntWalk.i64_in _ ⟨by omega, by omega⟩
          have hw4 : IntKind.i64.wrap (f j + t * y) = f j + t * y := IntWalk.i64_in _ ⟨by omega, by omega⟩
          have hrm : r < m := by omega
          have hrmi : (r : Int) < (m : Int) := by omega
          have HST := Lib.hid (show f (j + 1) = f j + t * y by
            rw [← HFF.out]
            show sigN j _ + co T j * co (trm q T F k) (k - 1 - j) = _
            rw [show co T j = t from getD_at ht, show k - 1 - j = r by omega, co_trm q T F (show r < k by omega), ← co_trm q T F (show r < m by omega), show co (trm q T F m) r = y from getD_at hy]; rfl)
          clear ht hy hr
          go_wp2_with (fail)
          go_quiet (fail)
          go_wp2_with (fail)
          go_roundw
          case rel => exact ⟨j + 1, by omega, by go_num, by rw [HST.out], drewN_more hw2.out _⟩
          case measure => simp [intOf]; omega
        · obtain rfl : j = d := by omega
          obtain rfl := HI7.out.adr (by omega)
          obtain ⟨y, hy, hc'⟩ := (HI7.out.drewN hw2.out).cell k hlt
          rw [Nat.zero_add] at hc'
          have hyk : y = f j % q := by
            rw [HEND.out, ← co_trm q T F hlt]
            exact (show co (trm q T F m) k = y from getD_at hy).symm
          have htm : (f j).tmod q = y := by rw [Int.tmod_eq_emod_of_nonneg hsb.1]; exact hyk.symm
          have hem : f j % q = y := hyk.symm
          have hyy : (y != y) = false := by simp
          clear hy hyk
          go_wp2_with (fail)
          go_quiet (fail)
          go_wp2_with (fail)
          go_roundw
          case rel => exact ⟨k + 1, by omega, by omega, by go_num, drewN_more hw2.out _⟩
          case measure => simp [intOf]; omega
    · have hmme : ((m : Int) == (m : Int)) = true := by simp
      have hbw := below_drawn (Below.refl w4.heap.size w4) hw.out
      have hbd := below_more hbw (below_new_drew wo)
      have HB5 := Lib.hid (below_more HB4.out hbd)
      have HRVd := Lib.hid (HRV4.out.below hbd)
      have HI8 := Lib.hid (HI7.out.below hbd)
      have BX5 := Lib.hid (BX4.out.below hbd)
      have ZS := And.intro y0 (And.intro y1 y2)
      have Zd := BX5.out
      unfold Bx at Zd
      have hmc : mp ≤ c3 := by omega
      have hmci : (mp : Int) ≤ (c3 : Int) := by omega
      have hm0 : (0 : Int) ≤ (mp : Int) := by omega
      clear hbw hbd
      go_wp2_with (fail)
      go_region_held3 (fun w' => w'.cell? ⟨w1.heap.size, 0, none⟩ = some (.int .i64 q) ∧ w'.cell? ⟨w1.heap.size, 1, none⟩ = some (.slice A1 d c1) ∧ w'.cell? ⟨w1.heap.size, 2, none⟩ = some (.slice A2 F.length c2)) (first | assumption | exact ZF | exact ZE | exact Zd | exact ZS | go_keep)
        (first
          | (go_at_call 23; refine (implRecTerms _ q T F (mp : Int) _ HRVd.out).mono ?_; rw [HEP.out, trm_len]; rintro e w5 ⟨A5, c5, rfl, hO, hN⟩; obtain ⟨b5, hI⟩ := hO.ia; have HI9 := Lib.hid hI; have HI10 := Lib.hid (HI8.out.below hN); have HB6 := Lib.hid (below_more HB5.out hN); have BX6 := Lib.hid (BX5.out.below hN); have ZE := BX6.out; unfold Bx at ZE; clear hO hI hN)
          | (go_at_call 24; refine (sameIntsC A5 mp c5 b5 0 _ A3 mp c3 b3 0 _ _ HI9.out (HI10.out.short (Nat.le_of_lt hmm2))).mono ?_; rw [decide_eq_true (trm_take q T F (Nat.le_of_lt hmm2)).symm]; rintro e w6 ⟨rfl, hw6⟩; have HB7 := Lib.hid (below_drawn HB6.out hw6); have BX7 := Lib.hid (BX6.out.below (below_drawn (Below.refl _ _) hw6)); have ZF := BX7.out; unfold Bx at ZF; clear hw6))
      all_goals
        go_wp2_with (fail)
        go_ret
        exact ⟨rfl, HB7.out⟩
end Go.Proofs.Ytjpmncpbghlkaaa

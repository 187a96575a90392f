/-
  The walk of the law of RecFar.
-/
import Derived.Test.YtghiaflnlobopaaRfa
import Derived.Test.YtghiaflnlobopaaSFar
import Derived.Test.YtghiaflnlobopaaRfb
namespace Go.Proofs.Ytghiaflnlobopaa
open Go.RowKit
theorem nxt_valid {q : Int} {T F : List Int} (h : recB q T F = true) : recB q T ((trm q T F (F.length + 1)).drop 1) = true := by
  obtain ⟨hp, h6, hl, hT, _⟩ := recB_true h
  exact recB_mk hp h6 (by rw [List.length_drop, trm_len, hl]; rfl) hT (fun x hx => trm_num h _ x (List.mem_of_mem_drop hx))
theorem nxt_stm {q : Int} {T F : List Int} (h : recB q T F = true) (k : Nat) : stm q T ((trm q T F (F.length + 1)).drop 1) k = stm q T F (k + 1) := by
  obtain ⟨hp, h6, hl, hT, hF⟩ := recB_true h
  refine next_law hl (by rw [List.length_drop, trm_len, hl]; rfl) (fun j hj => ?_) k
  unfold co
  rw [List.getD_eq_getElem?_getD, List.getElem?_drop, ← List.getD_eq_getElem?_getD, Nat.add_comm 1 j]
  exact co_trm q T F (by omega)
set_option maxRecDepth 100000 in
set_option maxHeartbeats 16000000 in
theorem walkFnRecFar (a : Option Addr) (len cap : Nat) (zs : List Int) (w : World) (h : IsRow .u8 w a len cap zs) :
    Calls Try.prog 3 #[.slice a len cap] w fun e w' => e = .returned (.bool true) ∧ Below w.heap.size w w' := by
  have hm : len ≤ 9223372036854775807 := by have := rowBytes h; unfold maxLen at this; omega
  by_cases hb : 1048576 < len
  · go_enter Try.func3, Try.ntmps3
    go_wp2_with (fail)
    go_ret
    exact ⟨rfl, Below.refl _ _⟩
  have hd0 : decide (1048576 < (len : Int)) = false := by simp; omega
  go_enter Try.func3, Try.ntmps3
  go_wp2_with (fail)
  refine (drawRecFar a len cap zs w h).mono ?_
  rintro e w1 ⟨v, q, T, F, x, rfl, hxl, hxh, hO, hT8, hF8, hq0, hq1, hB⟩
  obtain ⟨A1, c1, A2, c2, rfl, hO1, hO2, hap⟩ := hO
  have HRV := Lib.hid (show RV w1 (.agg #[.int .i64 q, .slice A1 T.length c1, .slice A2 F.length c2]) q T F from RO.rv (B := w.heap.size) ⟨A1, c1, A2, c2, rfl, hO1, hO2, hap⟩)
  obtain ⟨W1, hW1⟩ : ∃ W1, w1.alloc (.cells #[.int .i64 q, .slice A1 T.length c1, .slice A2 F.length c2] 25) = W1 := ⟨_, rfl⟩
  have hN : Below w1.heap.size w1 W1 := by rw [← hW1]; exact below_new _ _
  have BX := Lib.hid (show Bx W1 w1.heap.size (.int .i64 q) (.slice A1 T.length c1) (.slice A2 F.length c2) by rw [← hW1]; exact Bx.new _ _ _ _ _)
  have HB1 := Lib.hid (below_more hB hN)
  have HRV1 := Lib.hid (HRV.out.below hN)
  obtain ⟨G, hG⟩ : ∃ G, farO q T F x = G := ⟨_, rfl⟩
  have HG := Lib.hid hG
  have hq : (G != G) = false := by simp
  clear hB hN hO1 hO2 hap h hT8 hF8 hG
  obtain ⟨x0, x1, x2⟩ := BX.out
  go_wp2_with (fail)
  clear hW1
  refine (implRecFar _ q T F x _ HRV1.out).mono ?_
  rw [HG.out]
  rintro e w2 ⟨rfl, hN⟩
  have HB2 := Lib.hid (below_more HB1.out hN)
  have BX2 := Lib.hid (BX.out.below hN)
  have HRV2 := Lib.hid (HRV1.out.below hN)
  clear hN x0 x1 x2
  obtain ⟨x0, x1, x2⟩ := BX2.out
  go_wp2_with (fail)
  refine (specRecFar _ q T F x _ HRV2.out).mono ?_
  rw [HG.out]
  rintro e w3 ⟨rfl, hN⟩
  have HB3 := Lib.hid (below_more HB2.out hN)
  have BX3 := Lib.hid (BX2.out.below hN)
  have HRV3 := Lib.hid (HRV2.out.below hN)
  clear hN x0 x1 x2
  obtain ⟨x0, x1, x2⟩ := BX3.out
  by_cases hv : recB q T F = true ∧ 0 ≤ x
  case neg =>
    have hg : G = -1 := by rw [← HG.out]; unfold farO; rw [if_neg (fun e => hv ⟨e.1, e.2.1⟩)]
    subst hg
    clear hv
    go_wp2_with (go_at_call 7; refine (alive _).mono ?_; rintro e w6 ⟨rfl, rfl⟩)
    go_ret
    exact ⟨rfl, HB3.out⟩
  obtain ⟨hrec, hx0⟩ := hv
  obtain ⟨X, rfl⟩ : ∃ X : Nat, x = (X : Int) := ⟨x.toNat, by omega⟩
  have hg : G = stm q T F X := by rw [← HG.out]; unfold farO; rw [if_pos ⟨hrec, by omega, by omega⟩]; rfl
  have hgn := numB_true (stm_num hrec X)
  have hg0 : ¬ G < 0 := by rw [hg]; have := hgn.2.1; omega
  have HGX := Lib.hid hg
  have HREC := Lib.hid hrec
  have HT1 := Lib.hid (show termsO q T F 24 = trm q T F 24 by unfold termsO; rw [if_pos ⟨hrec, by decide, by decide⟩]; rfl)
  have HNX := Lib.hid (show nextO q T F = (q, T, (trm q T F (F.length + 1)).drop 1) by unfold nextO; rw [if_pos hrec])
  obtain ⟨F', hF'⟩ : ∃ F', (trm q T F (F.length + 1)).drop 1 = F' := ⟨_, rfl⟩
  have hv' := nxt_valid hrec
  have hns := fun k => nxt_stm hrec k
  rw [hF'] at hv' hns
  rw [hF'] at HNX
  have HV' := Lib.hid hv'
  have HFX := Lib.hid (show 1 ≤ X → farO q T F' ((X : Int) - 1) = G from fun h1 => by
    unfold farO
    rw [if_pos ⟨hv', by omega, by omega⟩, hns, show ((X : Int) - 1).toNat + 1 = X by omega, hg])
  clear hg hgn hrec hv' hns hF' hx0 hxl
  go_wp2_with (fail)
  refine (implRecTerms _ q T F 24 _ HRV3.out).mono ?_
  rw [HT1.out, trm_len]
  rintro e w4 ⟨A5, c5, rfl, hO, hN⟩
  obtain ⟨b5, hI5⟩ := hO.ia
  obtain rfl := hI5.adr (by omega)
  have HI5 := Lib.hid hI5
  have HB4 := Lib.hid (below_more HB3.out hN)
  have BX4 := Lib.hid (BX3.out.below hN)
  have HRV4 := Lib.hid (HRV3.out.below hN)
  clear hO hI5 hN x0 x1 x2
  obtain ⟨x0, x1, x2⟩ := BX4.out
  by_cases hX24 : X < 24
  · obtain ⟨y, hy, hyc⟩ := HI5.out.cell X hX24
    rw [Nat.zero_add] at hyc
    obtain rfl : G = y := by
      rw [trm_map, List.getElem?_map, List.getElem?_range hX24] at hy
      rw [HGX.out]
      exact Option.some.inj hy
    have hXi : (X : Int) < 24 := by omega
    clear hy
    by_cases hX0 : X = 0
    · subst hX0
      go_wp2_with (fail)
      go_ret
      exact ⟨rfl, HB4.out⟩
    · have hX1 : 1 ≤ X := by omega
      have hXz : ((X : Int) == 0) = false := by rw [beq_eq_false_iff_ne]; omega
      have hXz2 : ¬ (X : Int) = 0 := by omega
      have hw1 : IntKind.i64.wrap ((X : Int) - 1) = (X : Int) - 1 := IntWalk.i64_in _ ⟨by omega, by omega⟩
      go_wp2_with (first
        | (go_at_call 9; refine (implRecNext _ q T F _ HRV4.out).mono ?_; rw [HNX.out]; rintro e w5 ⟨_, rfl, ⟨A3, c3, A4, c4, rfl, hO1, hO2, hap⟩, hN⟩; have HRX := Lib.hid (RW.rv (B := w4.heap.size) ⟨A3, c3, A4, c4, rfl, hO1, hO2, hap⟩ : RV w5 (.agg #[.int .i64 q, .slice A3 T.length c3, .slice A4 F'.length c4]) q T F'); have HB5 := Lib.hid (below_more HB4.out hN); have HI6 := Lib.hid (HI5.out.below hN); clear hO1 hO2 hap hN)
        | (go_at_call 5; refine (implRecFar _ q T F' ((X : Int) - 1) _ HRX.out).mono ?_; rw [HFX.out hX1]; rintro e w6 ⟨rfl, hN⟩; have HB6 := Lib.hid (below_more HB5.out hN); clear hN))
      go_ret
      exact ⟨rfl, HB6.out⟩
  · have hXi : ¬ (X : Int) < 24 := by omega
    have hXi2 : (24 : Int) ≤ (X : Int) := by omega
    have hX1 : 1 ≤ X := by omega
    have hXz : ((X : Int) == 0) = false := by rw [beq_eq_false_iff_ne]; omega
    have hXz2 : ¬ (X : Int) = 0 := by omega
    have hw1 : IntKind.i64.wrap ((X : Int) - 1) = (X : Int) - 1 := IntWalk.i64_in _ ⟨by omega, by omega⟩
    go_wp2_with (first
      | (go_at_call 9; refine (implRecNext _ q T F _ HRV4.out).mono ?_; rw [HNX.out]; rintro e w5 ⟨_, rfl, ⟨A3, c3, A4, c4, rfl, hO1, hO2, hap⟩, hN⟩; have HRX := Lib.hid (RW.rv (B := w4.heap.size) ⟨A3, c3, A4, c4, rfl, hO1, hO2, hap⟩ : RV w5 (.agg #[.int .i64 q, .slice A3 T.length c3, .slice A4 F'.length c4]) q T F'); have HB5 := Lib.hid (below_more HB4.out hN); have HI6 := Lib.hid (HI5.out.below hN); clear hO1 hO2 hap hN)
      | (go_at_call 5; refine (implRecFar _ q T F' ((X : Int) - 1) _ HRX.out).mono ?_; rw [HFX.out hX1]; rintro e w6 ⟨rfl, hN⟩; have HB6 := Lib.hid (below_more HB5.out hN); clear hN))
    go_ret
    exact ⟨rfl, HB6.out⟩
end Go.Proofs.Ytghiaflnlobopaa

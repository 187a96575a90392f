/-
  The walk of the law of RecNext.
-/
import Derived.Test.YtllakclbgmingaaDrawRt
import Derived.Test.YtllakclbgmingaaSNxt
namespace Go.Proofs.Ytllakclbgmingaa
open Go.RowKit
theorem next_valid {q : Int} {T F : List Int} (h : recB q T F = true) : recB q T ((trm q T F (F.length + 1)).drop 1) = true := by
  obtain ⟨hp, h6, hl, hT, _⟩ := recB_true h
  exact recB_mk hp h6 (by rw [List.length_drop, trm_len, hl]; rfl) hT (fun x hx => trm_num h _ x (List.mem_of_mem_drop hx))
theorem next_stm {q : Int} {T F : List Int} (h : recB q T F = true) (k : Nat) : stm q T ((trm q T F (F.length + 1)).drop 1) k = stm q T F (k + 1) := by
  obtain ⟨hp, h6, hl, hT, hF⟩ := recB_true h
  refine next_law hl (by rw [List.length_drop, trm_len, hl]; rfl) (fun j hj => ?_) k
  unfold co
  rw [List.getD_eq_getElem?_getD, List.getElem?_drop, ← List.getD_eq_getElem?_getD, Nat.add_comm 1 j]
  exact co_trm q T F (by omega)
theorem next_trm {q : Int} {T F : List Int} (h : recB q T F = true) (n : Nat) : trm q T ((trm q T F (F.length + 1)).drop 1) n = (trm q T F (n + 1)).drop 1 := by
  refine list_of_co (by rw [List.length_drop, trm_len, trm_len]; rfl) (fun k hk => ?_)
  rw [trm_len] at hk
  rw [co_trm _ _ _ hk, next_stm h]
  unfold co
  rw [List.getD_eq_getElem?_getD, List.getElem?_drop, ← List.getD_eq_getElem?_getD, Nat.add_comm 1 k]
  exact (co_trm q T F (by omega)).symm
set_option maxRecDepth 100000 in
set_option maxHeartbeats 16000000 in
theorem walkFnRecNext (a : Option Addr) (len cap : Nat) (zs : List Int) (w : World) (h : IsRow .u8 w a len cap zs) :
    Calls Try.prog 5 #[.slice a len cap] w fun e w' => e = .returned (.bool true) ∧ Below w.heap.size w w' := by
  have hm : len ≤ 9223372036854775807 := by have := rowBytes h; unfold maxLen at this; omega
  by_cases hb : 1048576 < len
  · go_enter Try.func5, Try.ntmps5
    go_wp2_with (fail)
    go_ret
    exact ⟨rfl, Below.refl _ _⟩
  have hd0 : decide (1048576 < (len : Int)) = false := by simp; omega
  go_enter Try.func5, Try.ntmps5
  go_wp2_with (fail)
  refine (drawRecNext a len cap zs w h).mono ?_
  rintro e w1 ⟨v, q, T, F, rfl, hO, hT8, hF8, hq0, hq1, hB⟩
  obtain ⟨A1, c1, A2, c2, rfl, hO1, hO2, hap⟩ := hO
  have HRV := Lib.hid (show RV w1 (.agg #[.int .i64 q, .slice A1 T.length c1, .slice A2 F.length c2]) q T F from RO.rv (B := w.heap.size) ⟨A1, c1, A2, c2, rfl, hO1, hO2, hap⟩)
  obtain ⟨W1, hW1⟩ : ∃ W1, w1.alloc (.cells #[.int .i64 q, .slice A1 T.length c1, .slice A2 F.length c2] 25) = W1 := ⟨_, rfl⟩
  have hN : Below w1.heap.size w1 W1 := by rw [← hW1]; exact below_new _ _
  have BX := Lib.hid (show Bx W1 w1.heap.size (.int .i64 q) (.slice A1 T.length c1) (.slice A2 F.length c2) by rw [← hW1]; exact Bx.new _ _ _ _ _)
  have HB1 := Lib.hid (below_more hB hN)
  have HRV1 := Lib.hid (HRV.out.below hN)
  obtain ⟨q', hq'⟩ : ∃ q', (nextO q T F).1 = q' := ⟨_, rfl⟩
  obtain ⟨T', hT'⟩ : ∃ T', (nextO q T F).2.1 = T' := ⟨_, rfl⟩
  obtain ⟨F', hF'⟩ : ∃ F', (nextO q T F).2.2 = F' := ⟨_, rfl⟩
  have HQ := Lib.hid (And.intro hq' (And.intro hT' hF'))
  clear hB hN hO1 hO2 hap h hq' hT' hF' hT8 hF8
  obtain ⟨x0, x1, x2⟩ := BX.out
  go_wp2_with (fail)
  clear hW1
  refine (implRecNext _ q T F _ HRV1.out).mono ?_
  rw [HQ.out.1, HQ.out.2.1, HQ.out.2.2]
  rintro e w2 ⟨_, rfl, ⟨A3, c3, A4, c4, rfl, hO1, hO2, hap⟩, hN⟩
  have HRX := Lib.hid (show RV w2 (.agg #[.int .i64 q', .slice A3 T'.length c3, .slice A4 F'.length c4]) q' T' F' from RW.rv (B := W1.heap.size) ⟨A3, c3, A4, c4, rfl, hO1, hO2, hap⟩)
  have HB2 := Lib.hid (below_more HB1.out hN)
  have BX2 := Lib.hid (BX.out.below hN)
  have HRV2 := Lib.hid (HRV1.out.below hN)
  clear hO1 hO2 hap hN x0 x1 x2
  obtain ⟨W2, hW2⟩ : ∃ W2, w2.alloc (.cells #[.int .i64 q', .slice A3 T'.length c3, .slice A4 F'.length c4] 25) = W2 := ⟨_, rfl⟩
  have hN : Below w2.heap.size w2 W2 := by rw [← hW2]; exact below_new _ _
  have BY := Lib.hid (show Bx W2 w2.heap.size (.int .i64 q') (.slice A3 T'.length c3) (.slice A4 F'.length c4) by rw [← hW2]; exact Bx.new _ _ _ _ _)
  have HB3 := Lib.hid (below_more HB2.out hN)
  have BX3 := Lib.hid (BX2.out.below hN)
  have HRV3 := Lib.hid (HRV2.out.below hN)
  have HRX3 := Lib.hid (HRX.out.below hN)
  clear hN
  go_wp2_with (fail)
  clear hW2
  have HRVd := Lib.hid (HRV3.out.below (below_new_drew W2))
  have HRXd := Lib.hid (HRX3.out.below (below_new_drew W2))
  have ZS := And.intro BX3.out BY.out
  have Zd := And.intro BX3.out.drew BY.out.drew
  unfold Bx at ZS Zd
  go_region_held3 (fun w' => (w'.cell? ⟨w1.heap.size, 0, none⟩ = some (.int .i64 q) ∧ w'.cell? ⟨w1.heap.size, 1, none⟩ = some (.slice A1 T.length c1) ∧ w'.cell? ⟨w1.heap.size, 2, none⟩ = some (.slice A2 F.length c2)) ∧ (w'.cell? ⟨w2.heap.size, 0, none⟩ = some (.int .i64 q') ∧ w'.cell? ⟨w2.heap.size, 1, none⟩ = some (.slice A3 T'.length c3) ∧ w'.cell? ⟨w2.heap.size, 2, none⟩ = some (.slice A4 F'.length c4))) (first | assumption | exact ZB | exact ZA | exact Zd | exact ZS | go_keep)
    (first
      | (go_at_call 21; refine (specRecNext _ q T F _ HRVd.out).mono ?_; rw [HQ.out.1, HQ.out.2.1, HQ.out.2.2]; rintro e w3 ⟨u, rfl, hO, hN⟩; have HRY := Lib.hid hO.rv; have HB4 := Lib.hid (below_more HB3.out.drew hN); have BX4 := Lib.hid (BX3.out.drew.below hN); have BY4 := Lib.hid (BY.out.drew.below hN); have HRV4 := Lib.hid (HRVd.out.below hN); have HRX4 := Lib.hid (HRXd.out.below hN); have ZA := And.intro BX4.out BY4.out; unfold Bx at ZA; clear hO hN)
      | (go_at_call 20; refine (sameRec_same _ _ q' T' F' _ HRX4.out HRY.out).mono ?_; rintro e w4 ⟨rfl, hN⟩; have HB5 := Lib.hid (below_more HB4.out hN); have BX5 := Lib.hid (BX4.out.below hN); have BY5 := Lib.hid (BY4.out.below hN); have HRV5 := Lib.hid (HRV4.out.below hN); have HRX5 := Lib.hid (HRX4.out.below hN); have ZB := And.intro BX5.out BY5.out; unfold Bx at ZB; clear hN))
  all_goals
    clear ZS Zd
    obtain ⟨x0, x1, x2⟩ := BX5.out
    obtain ⟨y0, y1, y2⟩ := BY5.out
    rcases hv : recB q T F
    · have hE : nextO q T F = (0, [], []) := by unfold nextO; rw [if_neg (by simp [hv])]
      have hqz : q' = 0 := by rw [← HQ.out.1, hE]
      have HV := Lib.hid hv
      have HRV6 := Lib.hid HRV5.out
      clear hE hv
      subst hqz
      go_wp2_with (go_at_call 13; refine (specRecValid _ q T F _ HRV6.out).mono ?_; rintro e w5 ⟨rfl, hN⟩; rw [HV.out]; have HB6 := Lib.hid (below_more HB5.out hN); have y0 := (keep_of_below hN).cell y0 (fun h => h); clear hN)
      go_wp2_with (go_at_call 14; refine (alive _).mono ?_; rintro e w6 ⟨rfl, rfl⟩)
      go_ret
      exact ⟨rfl, HB6.out⟩
    have hE : nextO q T F = (q, T, (trm q T F (F.length + 1)).drop 1) := by unfold nextO; rw [if_pos hv]
    have hqq : q' = q := by rw [← HQ.out.1, hE]
    have hTT : T' = T := by rw [← HQ.out.2.1, hE]
    have hFF : F' = (trm q T F (F.length + 1)).drop 1 := by rw [← HQ.out.2.2, hE]
    subst hqq; subst hTT
    have hv' := next_valid hv
    have hnt := next_trm hv 23
    rw [← hFF] at hv' hnt
    have HNT := Lib.hid hnt
    have HV := Lib.hid hv
    have HV' := Lib.hid hv'
    have HT1 := Lib.hid (show termsO q' T' F 24 = trm q' T' F 24 by unfold termsO; rw [if_pos ⟨hv, by decide, by decide⟩]; rfl)
    have HT2 := Lib.hid (show termsO q' T' F' 23 = trm q' T' F' 23 by unfold termsO; rw [if_pos ⟨hv', by decide, by decide⟩]; rfl)
    clear hE hFF hv hv' hnt
    have HRV6 := Lib.hid HRV5.out
    go_wp2_with (go_at_call 13; refine (specRecValid _ q' T' F _ HRV6.out).mono ?_; rintro e w5 ⟨rfl, hN⟩; rw [HV.out]; have HB6 := Lib.hid (below_more HB5.out hN); have BX6 := Lib.hid (BX5.out.below hN); have BY6 := Lib.hid (BY5.out.below hN); have HRV7 := Lib.hid (HRV6.out.below hN); have HRX6 := Lib.hid (HRX5.out.below hN); have x0 := BX6.out.1; have x1 := BX6.out.2.1; have x2 := BX6.out.2.2; clear hN)
    refine (implRecTerms _ q' T' F 24 _ HRV7.out).mono ?_
    rw [HT1.out, trm_len]
    rintro e w6 ⟨A5, c5, rfl, hO, hN⟩
    have hcap := OI.capLe hO
    obtain ⟨b5, hI⟩ := hO.ia
    have HI5 := Lib.hid hI
    have HB7 := Lib.hid (below_more HB6.out hN)
    have BX7 := Lib.hid (BX6.out.below hN)
    have BY7 := Lib.hid (BY6.out.below hN)
    have HRX7 := Lib.hid (HRX6.out.below hN)
    clear hO hI hN x0 x1 x2 y0 y1 y2
    obtain ⟨y0, y1, y2⟩ := BY7.out
    have hc1 : ¬ c5 = 1 := by omega
    have hc2 : (1 : Int) ≤ (c5 : Int) := by omega
    have hc3 : (24 : Int) ≤ (c5 : Int) := by omega
    obtain rfl := HI5.out.adr (by omega)
    obtain ⟨G, hG⟩ : ∃ G, (trm q' T' F 24).drop 1 = G := ⟨_, rfl⟩
    have hGl : G.length = 23 := by rw [← hG, List.length_drop, trm_len]
    have HNG := Lib.hid (show trm q' T' F' 23 = G by rw [HNT.out, hG])
    have HI5t := Lib.hid (show IA w6 (some ⟨b5, 1, none⟩) 23 b5 1 G from by
      rw [← hG] at hGl ⊢
      refine ⟨hGl, fun _ => rfl, by omega, fun i hi => ?_⟩
      obtain ⟨y, hy, hc⟩ := HI5.out.cell (i + 1) (by omega)
      rw [Nat.zero_add] at hc
      exact ⟨y, by rw [List.getElem?_drop, Nat.add_comm 1 i]; exact hy, by rw [Nat.add_comm 1 i]; exact hc⟩)
    clear hG hGl
    go_wp2_with (fail)
    have HRXd2 := Lib.hid (HRX7.out.below (below_new_drew w6))
    have HBd2 := Lib.hid HB7.out.drew
    have HTd := Lib.hid (HI5t.out.below (below_new_drew w6))
    have HYd := Lib.hid BY7.out.drew
    have ZS := BY7.out
    have Zd := BY7.out.drew
    unfold Bx at ZS Zd
    go_region_held3 (fun w' => w'.cell? ⟨w2.heap.size, 0, none⟩ = some (.int .i64 q') ∧ w'.cell? ⟨w2.heap.size, 1, none⟩ = some (.slice A3 T'.length c3) ∧ w'.cell? ⟨w2.heap.size, 2, none⟩ = some (.slice A4 F'.length c4)) (first | assumption | exact ZC | exact ZB | exact ZA | exact Zd | exact ZS | go_keep)
      (first
        | (go_at_call 12; refine (implRecValid _ q' T' F' _ HRXd2.out).mono ?_; rintro e w7 ⟨rfl, hN⟩; rw [HV'.out]; have HB8 := Lib.hid (below_more HBd2.out hN); have HY8 := Lib.hid (HYd.out.below hN); have HRX8 := Lib.hid (HRXd2.out.below hN); have HT8 := Lib.hid (HTd.out.below hN); have ZA := HY8.out; unfold Bx at ZA; clear hN)
        | (go_at_call 22; refine (implRecTerms _ q' T' F' 23 _ HRX8.out).mono ?_; rw [HT2.out, HNG.out]; rintro e w8 ⟨A6, c6, rfl, hO, hN⟩; obtain ⟨b6, hI⟩ := hO.ia; have HI6 := Lib.hid hI; have HB9 := Lib.hid (below_more HB8.out hN); have HY9 := Lib.hid (HY8.out.below hN); have HT9 := Lib.hid (HT8.out.below hN); have ZB := HY9.out; unfold Bx at ZB; clear hN hO hI)
        | (go_at_call 23; refine (sameIntsC A6 G.length c6 b6 0 G (some ⟨b5, 1, none⟩) 23 _ b5 1 G _ HI6.out HT9.out).mono ?_; rintro e w9 ⟨rfl, hm⟩; rw [decide_eq_true rfl]; have HB10 := Lib.hid (below_drawn HB9.out hm); obtain ⟨mm, rfl⟩ := hm; have ZC := HY9.out; unfold Bx at ZC))
    all_goals
      go_wp2_with (fail)
      go_ret
      exact ⟨rfl, HB10.out⟩
end Go.Proofs.Ytllakclbgmingaa

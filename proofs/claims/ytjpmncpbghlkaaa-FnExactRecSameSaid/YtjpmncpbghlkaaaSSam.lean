/-
  The contract of the model's RecSame.
-/
import Derived.Test.YtjpmncpbghlkaaaSam
namespace Go.Proofs.Ytjpmncpbghlkaaa
open Go.RowKit
set_option maxRecDepth 100000 in
set_option maxHeartbeats 2000000 in
theorem specRecSame (v : Value) (p : Int) (T F : List Int) (u : Value) (q : Int) (T' F' : List Int) (w : World) (h : RV w v p T F) (h' : RV w u q T' F') :
    Calls Try.prog 36 #[v, u] w fun e w' => e = .returned (.bool (sameO p T F q T' F')) ∧ Below w.heap.size w w' := by
  obtain ⟨A, n, c, b, o, A', n', c', b', o', rfl, g1, g2⟩ := h
  obtain ⟨D, m, d, e, f, D', m', d', e', f', rfl, g3, g4⟩ := h'
  have hH0 := HoldRR.start w (.int .i64 p) (.slice A n c) (.slice A' n' c') 25 (.int .i64 q) (.slice D m d) (.slice D' m' d') 25
  have HA := Lib.hid (show RV w (.agg #[.int .i64 p, .slice A n c, .slice A' n' c']) p T F from ⟨_, _, _, _, _, _, _, _, _, _, rfl, g1, g2⟩)
  have HD := Lib.hid (show RV w (.agg #[.int .i64 q, .slice D m d, .slice D' m' d']) q T' F' from ⟨_, _, _, _, _, _, _, _, _, _, rfl, g3, g4⟩)
  have HL := Lib.hid g2.len
  have HL' := Lib.hid g4.len
  have HLT := Lib.hid g1.len
  have HLT' := Lib.hid g3.len
  have HA0 := Lib.hid (HA.out.below hH0.bel)
  have HH0 := Lib.hid hH0
  clear g1 g2 g3 g4 hH0
  rcases hv : recB p T F
  · have HV := Lib.hid hv
    have HE := Lib.hid (show sameO p T F q T' F' = false by unfold sameO; rw [hv]; rfl)
    clear hv
    go_enter Try.func36, Try.ntmps36
    go_wp2_with (go_at_call 17; refine (specRecValid _ p T F _ HA0.out).mono ?_; rintro e w1 ⟨rfl, hB⟩; rw [HV.out]; have HB := Lib.hid hB; clear hB)
    go_ret
    exact ⟨ret_bool HE.out.symm, below_more HH0.out.bel HB.out⟩
  have HV := Lib.hid hv
  rcases hv' : recB q T' F'
  · have HV' := Lib.hid hv'
    have HE := Lib.hid (show sameO p T F q T' F' = false by unfold sameO; rw [hv, hv']; rfl)
    clear hv hv'
    go_enter Try.func36, Try.ntmps36
    go_wp2_with (first
      | (go_at_call 17; (with_reducible refine (specRecValid _ p T F _ HA0.out).mono ?_); rintro e w1 ⟨rfl, hB⟩; rw [HV.out]; have hH1 := HH0.out.below hB; have y0 := hH1.b0; have y1 := hH1.b1; have y2 := hH1.b2; have HD1 := Lib.hid (HD.out.below hH1.bel); have HH1 := Lib.hid hH1; clear hB hH1)
      | (go_at_call 17; (with_reducible refine (specRecValid _ q T' F' _ HD1.out).mono ?_); rintro e w2 ⟨rfl, hB⟩; rw [HV'.out]; have HB := Lib.hid hB; clear hB))
    go_ret
    exact ⟨ret_bool HE.out.symm, below_more HH1.out.bel HB.out⟩
  have HV' := Lib.hid hv'
  by_cases hpq : p = q
  case neg =>
    have HE := Lib.hid (show sameO p T F q T' F' = false by unfold sameO; simp [hpq])
    have hq : (p != q) = true := by simp [hpq]
    clear hv hv'
    go_enter Try.func36, Try.ntmps36
    go_wp2_with (first
      | (go_at_call 17; (with_reducible refine (specRecValid _ p T F _ HA0.out).mono ?_); rintro e w1 ⟨rfl, hB⟩; rw [HV.out]; have hH1 := HH0.out.below hB; have y0 := hH1.b0; have y1 := hH1.b1; have y2 := hH1.b2; have HD1 := Lib.hid (HD.out.below hH1.bel); have HH1 := Lib.hid hH1; clear hB hH1)
      | (go_at_call 17; (with_reducible refine (specRecValid _ q T' F' _ HD1.out).mono ?_); rintro e w2 ⟨rfl, hB⟩; rw [HV'.out]; have hH2 := HH1.out.below hB; have x0 := hH2.a0; have u0 := hH2.b0; have HH2 := Lib.hid hH2; clear hB hH2))
    go_ret
    exact ⟨ret_bool HE.out.symm, HH2.out.bel⟩
  subst hpq
  have hq : (p != p) = false := by simp
  have h6 := (recB_true hv).2.1
  have h6' := (recB_true hv').2.1
  have hl := (recB_true hv).2.2.1
  have hl' := (recB_true hv').2.2.1
  rw [HLT.out] at h6 hl
  rw [HLT'.out] at h6' hl'
  rw [HL.out] at hl
  rw [HL'.out] at hl'
  obtain ⟨mm, hmm⟩ : ∃ mm : Nat, n' + m' = mm := ⟨_, rfl⟩
  have hm12 : mm ≤ 12 := by omega
  have hw1 : IntKind.i64.wrap ((n' : Int) + (m' : Int)) = (mm : Int) := by rw [show (n' : Int) + (m' : Int) = (mm : Int) by omega]; exact IntWalk.i64_in _ ⟨by omega, by omega⟩
  have HE := Lib.hid (show sameO p T F p T' F' = decide (trm p T F mm = trm p T' F' mm) by unfold sameO; rw [hv, hv', HL.out, HL'.out, hmm]; simp)
  clear hv hv' hl hl' hmm h6 h6'
  go_enter Try.func36, Try.ntmps36
  go_wp2_with (first
    | (go_at_call 17; (with_reducible refine (specRecValid _ p T F _ HA0.out).mono ?_); rintro e w1 ⟨rfl, hB⟩; rw [HV.out]; have hH1 := HH0.out.below hB; have y0 := hH1.b0; have y1 := hH1.b1; have y2 := hH1.b2; have HD1 := Lib.hid (HD.out.below hH1.bel); have HH1 := Lib.hid hH1; clear hB hH1)
    | (go_at_call 17; (with_reducible refine (specRecValid _ p T' F' _ HD1.out).mono ?_); rintro e w2 ⟨rfl, hB⟩; rw [HV'.out]; have hH2 := HH1.out.below hB; have x0 := hH2.a0; have x1 := hH2.a1; have x2 := hH2.a2; have u0 := hH2.b0; have u1 := hH2.b1; have u2 := hH2.b2; have HA2 := Lib.hid (HA.out.below hH2.bel); have HH2 := Lib.hid hH2; clear hB hH2)
    | (go_at_call 58; (with_reducible refine (specL3 _ p T F mm _ HA2.out HV.out (by omega)).mono ?_); rintro e w3 ⟨A5, c5, rfl, hO, hB⟩; have hH3 := HH2.out.below hB; have s0 := hH3.b0; have s1 := hH3.b1; have s2 := hH3.b2; obtain ⟨b5, hI⟩ := hO.ia; have HIA := Lib.hid hI; have HD3 := Lib.hid (HD.out.below hH3.bel); have HH3 := Lib.hid hH3; clear hH3 hO hI hB)
    | (go_at_call 58; (with_reducible refine (specL3 _ p T' F' mm _ HD3.out HV'.out (by omega)).mono ?_); rintro e w4 ⟨D5, d5, rfl, hO, hB⟩; have hH4 := HH3.out.below hB; obtain ⟨e5, hI⟩ := hO.ia; have HID := Lib.hid hI; have HIB := Lib.hid (HIA.out.below hB); have HH4 := Lib.hid hH4; clear hH4 hO hI hB))
  go_loopw [8] (fun i wr => ∃ k : Nat, k ≤ mm ∧ i = .int .i64 k ∧ Hid ((trm p T F mm).take k = (trm p T' F' mm).take k) ∧ Hid (∃ m, wr = w4.drewN m)) (fun i _ => mm - (intOf i).toNat)
  case atStart => exact ⟨0, by omega, rfl, rfl, 0, rfl⟩
  case round =>
    obtain ⟨k, hk, rfl, heq, hw⟩ := hrel
    by_cases hlt : k < mm
    · obtain rfl := HIB.out.adr (by omega)
      obtain rfl := HID.out.adr (by omega)
      obtain ⟨x, hx, hc⟩ := (HIB.out.drewN hw.out).cell k hlt
      obtain ⟨y, hy, hc'⟩ := (HID.out.drewN hw.out).cell k hlt
      rw [Nat.zero_add] at hc hc'
      have HX := Lib.hid hx
      have HY := Lib.hid hy
      clear hx hy
      have hne : (x = y ∧ (x != y) = false) ∨ (x ≠ y ∧ (x != y) = true) := by
        by_cases h : x = y
        · exact .inl ⟨h, by simp [h]⟩
        · exact .inr ⟨h, by simp [h]⟩
      rcases hne with ⟨hxy, hb⟩ | ⟨hxy, hb⟩
      · have HEq := Lib.hid hxy
        clear hxy
        go_wp2_with (fail)
        go_quiet (fail)
        go_wp2_with (fail)
        go_roundw
        case rel => exact ⟨k + 1, by omega, by go_num, take_eq_step heq.out HX.out (HEq.out ▸ HY.out), drewN_more hw.out _⟩
        case measure => simp [intOf]; omega
      · have HEq := Lib.hid hxy
        clear hxy
        go_wp2_with (fail)
        go_quiet (fail)
        go_wp2_with (fail)
        go_ret
        exact ⟨ret_bool (HE.out.trans (decide_eq_false (ne_of_at HX.out HY.out HEq.out))).symm, (HH4.out.drewN (drewN_more hw.out _)).bel⟩
    · have HEq := Lib.hid (show trm p T F mm = trm p T' F' mm by
        have := heq.out
        rwa [List.take_of_length_le (by rw [trm_len]; omega), List.take_of_length_le (by rw [trm_len]; omega)] at this)
      go_wp2_with (fail)
      go_ret
      exact ⟨ret_bool (HE.out.trans (decide_eq_true HEq.out)).symm, (HH4.out.drewN hw.out).bel⟩
end Go.Proofs.Ytjpmncpbghlkaaa

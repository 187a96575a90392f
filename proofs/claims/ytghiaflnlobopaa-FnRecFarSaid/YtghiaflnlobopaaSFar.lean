/-
  The contract of the model's RecFar.
-/
import Derived.Test.YtghiaflnlobopaaFar
import Derived.Test.YtghiaflnlobopaaRowV
namespace Go.Proofs.Ytghiaflnlobopaa
open Go.RowKit
set_option maxRecDepth 100000 in
set_option maxHeartbeats 2000000 in
theorem specRecFar (v : Value) (p : Int) (T F : List Int) (x : Int) (w : World) (h : RV w v p T F) :
    Calls Try.prog 6 #[v, .int .i64 x] w fun e w' => e = .returned (.int .i64 (farO p T F x)) ∧ Below w.heap.size w w' := by
  obtain ⟨A, n, c, b, o, A', n', c', b', o', rfl, g1, g2⟩ := h
  have H := Lib.hid (show RV w (.agg #[.int .i64 p, .slice A n c, .slice A' n' c']) p T F from ⟨_, _, _, _, _, _, _, _, _, _, rfl, g1, g2⟩)
  have HF2 := Lib.hid g2
  have HL := Lib.hid g1.len
  have HL' := Lib.hid g2.len
  have hbx := Bx.new w (.int .i64 p) (.slice A n c) (.slice A' n' c') 25
  have hB0 := below_new w (.cells #[.int .i64 p, .slice A n c, .slice A' n' c'] 25)
  have HV0 := Lib.hid (H.out.below hB0)
  have HBX := Lib.hid hbx
  have HB0 := Lib.hid hB0
  clear g1 g2 hbx hB0
  rcases hv : recB p T F
  · have HV := Lib.hid hv
    have HE := Lib.hid (show farO p T F x = -1 by unfold farO; rw [if_neg (by simp [hv])])
    clear hv
    go_enter Try.func6, Try.ntmps6
    go_wp2_with (go_at_call 17; refine (specRecValid _ p T F _ HV0.out).mono ?_; rintro e w1 ⟨rfl, hB⟩; rw [HV.out]; have HB := Lib.hid hB; clear hB)
    go_ret
    exact ⟨ret_int HE.out.symm, below_more HB0.out HB.out⟩
  have HV := Lib.hid hv
  by_cases hx : 0 ≤ x ∧ x ≤ 1000000
  case neg =>
    have HE := Lib.hid (show farO p T F x = -1 by unfold farO; rw [if_neg (by simp only [not_and]; intro _; omega)])
    have HI := Lib.hid (show inB x 0 1000000 = false by unfold inB; rw [Bool.eq_false_iff]; simp; omega)
    clear hx hv
    go_enter Try.func6, Try.ntmps6
    go_wp2_with (first | (go_at_call 17; refine (specRecValid _ p T F _ HV0.out).mono ?_; rintro e w1 ⟨rfl, hB⟩; rw [HV.out]; have HB := Lib.hid hB; clear hB) | (go_at_call 18; refine (specIn _ _ _ _).mono ?_; rintro e w1 ⟨rfl, rfl⟩; rw [HI.out]))
    go_ret
    exact ⟨ret_int HE.out.symm, below_more HB0.out HB.out⟩
  obtain ⟨N, rfl⟩ : ∃ m : Nat, x = (m : Int) := ⟨x.toNat, by omega⟩
  have hN : N ≤ 1000000 := by omega
  obtain ⟨hp, h6, hl, hT, hF⟩ := recB_true hv
  have hpb := prime_ge hp
  have hp0 : p ≠ 0 := by omega
  have HI := Lib.hid (show inB (N : Int) 0 1000000 = true by unfold inB; rw [Bool.and_eq_true]; exact ⟨decide_eq_true hx.1, decide_eq_true hx.2⟩)
  have HE := Lib.hid (show farO p T F (N : Int) = stm p T F N by unfold farO; rw [if_pos ⟨hv, hx⟩]; rfl)
  by_cases h0 : n = 0
  · subst h0
    have HZ := Lib.hid (show stm p T F N = 0 by
      obtain rfl : T = [] := List.eq_nil_of_length_eq_zero HL.out
      obtain rfl : F = [] := List.eq_nil_of_length_eq_zero (by simpa using hl)
      exact stm_nil p N)
    clear hx hv hp hT hF hl
    go_enter Try.func6, Try.ntmps6
    go_wp2_with (first | (go_at_call 17; refine (specRecValid _ p T F _ HV0.out).mono ?_; rintro e w1 ⟨rfl, hB⟩; rw [HV.out]; have HB1 := Lib.hid (below_more HB0.out hB); have hbx := HBX.out.below hB; have y0 := hbx.1; have y1 := hbx.2.1; have y2 := hbx.2.2; clear hB hbx) | (go_at_call 18; refine (specIn _ _ _ _).mono ?_; rintro e w1' ⟨rfl, rfl⟩; rw [HI.out]))
    go_ret
    exact ⟨ret_int (by rw [HE.out, HZ.out]), HB1.out⟩
  have HPO := Lib.hid (show polyO p T F = recP p T by unfold polyO; rw [if_pos hv])
  have HG := Lib.hid (recP_pol hp h6)
  have HGL := Lib.hid (recP_len p T)
  have hfar := far_is hv hN
  have hob : powO p (recP p T) (N : Int) = some (powR p (recP p T) N) := by unfold powO; rw [if_pos ⟨HG.out, by rw [HGL.out, HL.out]; omega, by rw [HGL.out]; omega, by omega, by omega⟩]; rfl
  rw [hob] at hfar
  obtain ⟨R, hR⟩ : ∃ R, powR p (recP p T) N = R := ⟨_, rfl⟩
  have hg0 : (some (powR p (recP p T) N)).getD [] = R := hR
  rw [hg0] at hfar
  have HR := Lib.hid hR
  have HL6 := Lib.hid h6
  have HN0 := Lib.hid h0
  obtain ⟨m, hm⟩ : ∃ m, R.length = m := ⟨_, rfl⟩
  have hmn : m ≤ n' := by rw [← HL'.out, ← hm]; exact hfar.1
  have hn8 : n' ≤ 8 := by rw [← HL'.out]; omega
  have HRN := Lib.hid hfar.2.1
  have HF := Lib.hid hF
  have HBD := Lib.hid (far2_bd hfar.2.1 hF hpb.2 (n := m) (by omega) hfar.1 (by rw [HL'.out]; omega))
  obtain ⟨f, hf⟩ : ∃ f, far2 R F = f := ⟨_, rfl⟩
  have HFF := Lib.hid hf
  have HRES := Lib.hid (show f m % p = stm p T F N by rw [← hf, ← hm]; exact hfar.2.2)
  have hf0 : f 0 = 0 := by rw [← hf]; rfl
  have HM := Lib.hid hm
  have hlz : ((n : Int) == 0) = false := by rw [beq_eq_false_iff_ne]; omega
  clear hx hv hp hT hF hl hob hR hg0 hfar hm hf h6
  go_enter Try.func6, Try.ntmps6
  go_wp2_with (first | (go_at_call 17; refine (specRecValid _ p T F _ HV0.out).mono ?_; rintro e w1 ⟨rfl, hB⟩; rw [HV.out]; have HB1 := Lib.hid (below_more HB0.out hB); have hbx := HBX.out.below hB; have y0 := hbx.1; have y1 := hbx.2.1; have y2 := hbx.2.2; have HBX1 := Lib.hid hbx; clear hB hbx) | (go_at_call 18; refine (specIn _ _ _ _).mono ?_; rintro e w1' ⟨rfl, rfl⟩; rw [HI.out]))
  have HVd := Lib.hid (H.out.below HB1.out.drew)
  have ZS := HBX1.out
  have Zd := HBX1.out.drew
  have Q1 : True := trivial
  unfold Bx at ZS Zd
  go_region_held3 (fun w' => w'.cell? ⟨w.heap.size, 0, none⟩ = some (.int .i64 p) ∧ w'.cell? ⟨w.heap.size, 1, none⟩ = some (.slice A n c) ∧ w'.cell? ⟨w.heap.size, 2, none⟩ = some (.slice A' n' c')) (first | assumption | exact ZB | exact ZA | exact Zd | exact ZS | go_keep)
    (first
      | (clear Q1; go_at_call 20; refine (specRecPoly _ p T F _ HVd.out).mono ?_; rw [HPO.out]; rintro e wA ⟨A5, c5, rfl, hO, hB⟩; obtain ⟨b5, hI⟩ := hO.ia; have HI5 := Lib.hid hI; have HB2 := Lib.hid (below_more HB1.out.drew hB); have HBX2 := Lib.hid (HBX1.out.drew.below hB); have ZA := HBX2.out; unfold Bx at ZA; have Q2 : True := trivial; clear hO hI hB)
      | (clear Q2; go_at_call 19; refine (specPower p _ _ _ _ _ (recP p T) N _ HI5.out HG.out (by rw [HGL.out, HL.out]; have := HN0.out; omega) (by rw [HGL.out]; have := HL6.out; omega) hN).mono ?_; rw [HR.out, HM.out]; rintro e wB ⟨A6, c6, rfl, hO, hB⟩; obtain ⟨b6, hI⟩ := hO.ia; have HI6 := Lib.hid hI; have HB3 := Lib.hid (below_more HB2.out hB); have HBX3 := Lib.hid (HBX2.out.below hB); have ZB := HBX3.out; unfold Bx at ZB; clear hO hI hB))
  all_goals
    clear ZS Zd y0 y1 y2
    have HF3 := Lib.hid (HF2.out.below HB3.out)
    go_wp2_with (fail)
    go_loopw [6, 7] (fun s i wr => ∃ k : Nat, k ≤ m ∧ i = .int .i64 k ∧ s = .int .i64 (f k) ∧ Hid (∃ mm, wr = wB.drewN mm)) (fun _ i _ => m - (intOf i).toNat)
    case atStart => exact ⟨0, by omega, rfl, by rw [hf0], 0, rfl⟩
    case round =>
      obtain ⟨k, hk, rfl, rfl, hw⟩ := hrel
      have hb := HBD.out k (by omega)
      rw [HFF.out] at hb
      have hbx := HBX3.out.below (below_drawn (Below.refl _ wB) hw.out)
      obtain ⟨y0, y1, y2⟩ := hbx
      by_cases hlt : k < m
      · obtain rfl := HI6.out.adr (by omega)
        obtain rfl := HF3.out.adr (by omega)
        obtain ⟨x, hx, hc⟩ := (HI6.out.drewN hw.out).cell k hlt
        obtain ⟨y, hy, hc'⟩ := (HF3.out.drewN hw.out).cell k (by omega)
        rw [Nat.zero_add] at hc
        have hxb := numB_bd (HRN.out x (List.mem_of_getElem? hx))
        have hyb := numB_bd (HF.out y (List.mem_of_getElem? hy))
        have hm := mul_bd hxb.1 (by omega) hyb.1 (by omega)
        have hkn' : k < n' := by omega
        have hkn2 : (k : Int) < (n' : Int) := by omega
        have HD := Lib.hid (show f (k + 1) = f k + x * y by
          rw [← HFF.out]
          show far2 R F k + co R k * co F k = _
          rw [show co R k = x from getD_at hx, show co F k = y from getD_at hy])
        clear hx hy
        go_wp2_with (fail)
        go_quiet (fail)
        go_wp2_with (fail)
        go_roundw
        case rel => exact ⟨k + 1, by omega, by go_num, by rw [HD.out], drewN_more hw.out _⟩
        case measure => simp [intOf]; omega
      · obtain rfl : k = m := by omega
        go_wp2_with (fail)
        go_ret
        exact ⟨ret_int (by rw [HE.out, HRES.out]), below_drawn HB3.out hw.out⟩
end Go.Proofs.Ytghiaflnlobopaa

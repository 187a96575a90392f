/-
  The contracts of slices.Equal over numbers, RecSame.
-/
import Derived.Deep.RegionHeld3
import Derived.Test.YtjpmncpbghlkaaaSRt
import Derived.Test.YtjpmncpbghlkaaaEq
namespace Go.Proofs.Ytjpmncpbghlkaaa
open Go.RowKit
/-- the boxes of two recurrences -/
structure HoldRR (w wr : World) (v0 v1 v2 u0 u1 u2 : Value) : Prop where
  bel : Below w.heap.size w wr
  a0 : wr.cell? ⟨w.heap.size, 0, none⟩ = some v0
  a1 : wr.cell? ⟨w.heap.size, 1, none⟩ = some v1
  a2 : wr.cell? ⟨w.heap.size, 2, none⟩ = some v2
  b0 : wr.cell? ⟨w.heap.size + 1, 0, none⟩ = some u0
  b1 : wr.cell? ⟨w.heap.size + 1, 1, none⟩ = some u1
  b2 : wr.cell? ⟨w.heap.size + 1, 2, none⟩ = some u2
theorem HoldRR.below {w w1 w2 : World} {v0 v1 v2 u0 u1 u2 : Value} (h : HoldRR w w1 v0 v1 v2 u0 u1 u2) (k : Below w1.heap.size w1 w2) : HoldRR w w2 v0 v1 v2 u0 u1 u2 := by
  have hk := keep_of_below k
  exact ⟨below_more h.bel k, hk.cell h.a0 (fun h => h), hk.cell h.a1 (fun h => h), hk.cell h.a2 (fun h => h), hk.cell h.b0 (fun h => h), hk.cell h.b1 (fun h => h), hk.cell h.b2 (fun h => h)⟩
theorem HoldRR.start (w : World) (v0 v1 v2 : Value) (t : TypeId) (u0 u1 u2 : Value) (t' : TypeId) : HoldRR w ((w.alloc (.cells #[v0, v1, v2] t)).alloc (.cells #[u0, u1, u2] t')) v0 v1 v2 u0 u1 u2 := by
  refine ⟨((Below.refl _ _).alloc (Nat.le_refl _) _).alloc (by simp) _, ?_, ?_, ?_, ?_, ?_, ?_⟩ <;> simp [go_sem]
theorem HoldRR.drew {w wr : World} {v0 v1 v2 u0 u1 u2 : Value} (h : HoldRR w wr v0 v1 v2 u0 u1 u2) : HoldRR w wr.drew v0 v1 v2 u0 u1 u2 := ⟨h.bel.drew, h.a0, h.a1, h.a2, h.b0, h.b1, h.b2⟩
theorem HoldRR.drewN {w wr w' : World} {v0 v1 v2 u0 u1 u2 : Value} (h : HoldRR w wr v0 v1 v2 u0 u1 u2) (k : ∃ m, w' = wr.drewN m) : HoldRR w w' v0 v1 v2 u0 u1 u2 := h.below (below_drawn (Below.refl _ _) k)
theorem HoldRR.six {w wr : World} {v0 v1 v2 u0 u1 u2 : Value} (h : HoldRR w wr v0 v1 v2 u0 u1 u2) : wr.cell? ⟨w.heap.size, 0, none⟩ = some v0 ∧ wr.cell? ⟨w.heap.size, 1, none⟩ = some v1 ∧ wr.cell? ⟨w.heap.size, 2, none⟩ = some v2 ∧ wr.cell? ⟨w.heap.size + 1, 0, none⟩ = some u0 ∧ wr.cell? ⟨w.heap.size + 1, 1, none⟩ = some u1 ∧ wr.cell? ⟨w.heap.size + 1, 2, none⟩ = some u2 := ⟨h.a0, h.a1, h.a2, h.b0, h.b1, h.b2⟩
theorem equal_any (A : Option Addr) (n c b o : Nat) (xs : List Int) (A' : Option Addr) (n' c' b' o' : Nat) (ys : List Int) (w : World) (h : IA w A n b o xs) (h' : IA w A' n' b' o' ys) :
    Calls Try.prog 64 #[.slice A n c, .slice A' n' c'] w (BoolPost (decide (xs = ys)) w) := by
  have hbig := h.big
  have hbig' := h'.big
  have H := Lib.hid h
  have H' := Lib.hid h'
  clear h h'
  by_cases hn : n = n'
  · subst hn
    have hq : ((n : Int) != (n : Int)) = false := by simp
    go_enter Try.func64, Try.ntmps64
    go_wp2_with (fail)
    go_loopw [13] (fun i wr => ∃ k : Nat, k ≤ n ∧ i = .int .i64 k ∧ Hid (xs.take k = ys.take k) ∧ Hid (∃ m, wr = w.drewN m)) (fun i _ => n - (intOf i).toNat)
    case atStart => exact ⟨0, by omega, rfl, rfl, 0, rfl⟩
    case round =>
      obtain ⟨k, hk, rfl, heq, hw⟩ := hrel
      by_cases hlt : k < n
      · obtain rfl := H.out.adr (by omega)
        obtain rfl := H'.out.adr (by omega)
        obtain ⟨x, hx, hc⟩ := (H.out.drewN hw.out).cell k hlt
        obtain ⟨y, hy, hc'⟩ := (H'.out.drewN hw.out).cell k hlt
        have HX := Lib.hid hx
        have HY := Lib.hid hy
        clear hx hy
        have hne : (x = y ∧ (x != y) = false) ∨ (x ≠ y ∧ (x != y) = true) := by
          by_cases h : x = y
          · exact .inl ⟨h, by simp [h]⟩
          · exact .inr ⟨h, by simp [h]⟩
        rcases hne with ⟨hxy, hb⟩ | ⟨hxy, hb⟩
        · have HE := Lib.hid hxy
          clear hxy
          go_wp2_with (fail)
          go_quiet (fail)
          go_wp2_with (fail)
          go_roundw
          case rel => exact ⟨k + 1, by omega, by go_num, take_eq_step heq.out HX.out (HE.out ▸ HY.out), drewN_more hw.out _⟩
          case measure => simp [intOf]; omega
        · have HE := Lib.hid hxy
          clear hxy
          go_wp2_with (fail)
          go_quiet (fail)
          go_wp2_with (fail)
          go_ret
          exact ⟨ret_bool (decide_eq_false (ne_of_at HX.out HY.out HE.out)).symm, drewN_more hw.out _⟩
      · have HE := Lib.hid (show xs = ys by
          have := heq.out
          rwa [List.take_of_length_le (by rw [H.out.len]; omega), List.take_of_length_le (by rw [H'.out.len]; omega)] at this)
        go_wp2_with (fail)
        go_ret
        exact ⟨ret_bool (decide_eq_true HE.out).symm, hw.out⟩
  · have hq := neInt hn
    have HE := Lib.hid (show xs ≠ ys by rintro rfl; exact hn (H.out.len.symm.trans H'.out.len))
    go_enter Try.func64, Try.ntmps64
    go_wp2_with (fail)
    go_ret
    exact ⟨ret_bool (decide_eq_false HE.out).symm, 0, rfl⟩
def sameO (p : Int) (T F : List Int) (q : Int) (T' F' : List Int) : Bool :=
  recB p T F && (recB q T' F' && (decide (p = q) && decide (trm p T F (F.length + F'.length) = trm q T' F' (F.length + F'.length))))
set_option maxRecDepth 100000 in
set_option maxHeartbeats 2000000 in
theorem implRecSame (v : Value) (p : Int) (T F : List Int) (u : Value) (q : Int) (T' F' : List Int) (w : World) (h : RV w v p T F) (h' : RV w u q T' F') :
    Calls Try.prog 35 #[v, u] w fun e w' => e = .returned (.bool (sameO p T F q T' F')) ∧ Below w.heap.size w w' := by
  obtain ⟨A, n, c, b, o, A', n', c', b', o', rfl, g1, g2⟩ := h
  obtain ⟨D, m, d, e, f, D', m', d', e', f', rfl, g3, g4⟩ := h'
  have hH0 := HoldRR.start w (.int .i64 p) (.slice A n c) (.slice A' n' c') 25 (.int .i64 q) (.slice D m d) (.slice D' m' d') 25
  have HA := Lib.hid (show RV w (.agg #[.int .i64 p, .slice A n c, .slice A' n' c']) p T F from ⟨_, _, _, _, _, _, _, _, _, _, rfl, g1, g2⟩)
  have HD := Lib.hid (show RV w (.agg #[.int .i64 q, .slice D m d, .slice D' m' d']) q T' F' from ⟨_, _, _, _, _, _, _, _, _, _, rfl, g3, g4⟩)
  have HL := Lib.hid g2.len
  have HL' := Lib.hid g4.len
  have HLT := Lib.hid g1.len
  have HLT' := Lib.hid g3.len
  have HA0 := Lib.hid (HA.out.below hH0.bel)
  have HH0 := Lib.hid hH0
  clear g1 g2 g3 g4 hH0
  rcases hv : recB p T F
  · have HV := Lib.hid hv
    have HE := Lib.hid (show sameO p T F q T' F' = false by unfold sameO; rw [hv]; rfl)
    clear hv
    go_enter Try.func35, Try.ntmps35
    go_wp2_with (go_at_call 16; refine (implRecValid _ p T F _ HA0.out).mono ?_; rintro e w1 ⟨rfl, hB⟩; rw [HV.out]; have HB := Lib.hid hB; clear hB)
    go_ret
    exact ⟨ret_bool HE.out.symm, below_more HH0.out.bel HB.out⟩
  have HV := Lib.hid hv
  rcases hv' : recB q T' F'
  · have HV' := Lib.hid hv'
    have HE := Lib.hid (show sameO p T F q T' F' = false by unfold sameO; rw [hv, hv']; rfl)
    clear hv hv'
    go_enter Try.func35, Try.ntmps35
    go_wp2_with (first
      | (go_at_call 16; (with_reducible refine (implRecValid _ p T F _ HA0.out).mono ?_); rintro e w1 ⟨rfl, hB⟩; rw [HV.out]; have hH1 := HH0.out.below hB; have y0 := hH1.b0; have y1 := hH1.b1; have y2 := hH1.b2; have HD1 := Lib.hid (HD.out.below hH1.bel); have HH1 := Lib.hid hH1; clear hB hH1)
      | (go_at_call 16; (with_reducible refine (implRecValid _ q T' F' _ HD1.out).mono ?_); rintro e w2 ⟨rfl, hB⟩; rw [HV'.out]; have HB := Lib.hid hB; clear hB))
    go_ret
    exact ⟨ret_bool HE.out.symm, below_more HH1.out.bel HB.out⟩
  have HV' := Lib.hid hv'
  by_cases hpq : p = q
  case neg =>
    have HE := Lib.hid (show sameO p T F q T' F' = false by unfold sameO; simp [hpq])
    have hq : (p != q) = true := by simp [hpq]
    clear hv hv'
    go_enter Try.func35, Try.ntmps35
    go_wp2_with (first
      | (go_at_call 16; (with_reducible refine (implRecValid _ p T F _ HA0.out).mono ?_); rintro e w1 ⟨rfl, hB⟩; rw [HV.out]; have hH1 := HH0.out.below hB; have y0 := hH1.b0; have y1 := hH1.b1; have y2 := hH1.b2; have HD1 := Lib.hid (HD.out.below hH1.bel); have HH1 := Lib.hid hH1; clear hB hH1)
      | (go_at_call 16; (with_reducible refine (implRecValid _ q T' F' _ HD1.out).mono ?_); rintro e w2 ⟨rfl, hB⟩; rw [HV'.out]; have hH2 := HH1.out.below hB; have x0 := hH2.a0; have u0 := hH2.b0; have HH2 := Lib.hid hH2; clear hB hH2))
    go_ret
    exact ⟨ret_bool HE.out.symm, HH2.out.bel⟩
  subst hpq
  have hq : (p != p) = false := by simp
  have h6 := (recB_true hv).2.1
  have h6' := (recB_true hv').2.1
  have hl := (recB_true hv).2.2.1
  have hl' := (recB_true hv').2.2.1
  rw [HLT.out] at h6 hl
  rw [HLT'.out] at h6' hl'
  rw [HL.out] at hl
  rw [HL'.out] at hl'
  obtain ⟨mm, hmm⟩ : ∃ mm : Nat, n' + m' = mm := ⟨_, rfl⟩
  have hw1 : IntKind.i64.wrap ((n' : Int) + (m' : Int)) = (mm : Int) := by rw [show (n' : Int) + (m' : Int) = (mm : Int) by omega]; exact IntWalk.i64_in _ ⟨by omega, by omega⟩
  have HE := Lib.hid (show sameO p T F p T' F' = decide (trm p T F mm = trm p T' F' mm) by unfold sameO; rw [hv, hv', HL.out, HL'.out, hmm]; simp)
  have HTA := Lib.hid (show termsO p T F (mm : Int) = trm p T F mm by unfold termsO; rw [if_pos ⟨hv, by omega, by omega⟩]; rfl)
  have HTD := Lib.hid (show termsO p T' F' (mm : Int) = trm p T' F' mm by unfold termsO; rw [if_pos ⟨hv', by omega, by omega⟩]; rfl)
  clear hv hv' hl hl' hmm
  go_enter Try.func35, Try.ntmps35
  go_wp2_with (first
    | (go_at_call 16; (with_reducible refine (implRecValid _ p T F _ HA0.out).mono ?_); rintro e w1 ⟨rfl, hB⟩; rw [HV.out]; have hH1 := HH0.out.below hB; have y0 := hH1.b0; have y1 := hH1.b1; have y2 := hH1.b2; have HD1 := Lib.hid (HD.out.below hH1.bel); have HH1 := Lib.hid hH1; clear hB hH1)
    | (go_at_call 16; (with_reducible refine (implRecValid _ p T' F' _ HD1.out).mono ?_); rintro e w2 ⟨rfl, hB⟩; rw [HV'.out]; have hH2 := HH1.out.below hB; have x0 := hH2.a0; have x1 := hH2.a1; have x2 := hH2.a2; have u0 := hH2.b0; have u1 := hH2.b1; have u2 := hH2.b2; have HH2 := Lib.hid hH2; clear hB hH2))
  have HAd := Lib.hid (HA.out.below HH2.out.drew.bel)
  have HDd := Lib.hid (HD.out.below HH2.out.drew.bel)
  have ZS := HH2.out.six
  have Zd := HH2.out.drew.six
  have T1 : True := trivial
  go_region_held3 (fun w' => w'.cell? ⟨w.heap.size, 0, none⟩ = some (.int .i64 p) ∧ w'.cell? ⟨w.heap.size, 1, none⟩ = some (.slice A n c) ∧ w'.cell? ⟨w.heap.size, 2, none⟩ = some (.slice A' n' c') ∧ w'.cell? ⟨w.heap.size + 1, 0, none⟩ = some (.int .i64 p) ∧ w'.cell? ⟨w.heap.size + 1, 1, none⟩ = some (.slice D m d) ∧ w'.cell? ⟨w.heap.size + 1, 2, none⟩ = some (.slice D' m' d')) (first | assumption | exact ZE | exact ZB | exact ZA | exact Zd | exact ZS | go_keep)
    (first
      | (clear T1; go_at_call 23; (with_reducible refine (implRecTerms _ p T F (mm : Int) _ HAd.out).mono ?_); rw [HTA.out, trm_len]; rintro e wA ⟨A5, c5, rfl, hO, hB⟩; have hHA := HH2.out.drew.below hB; have ZA := hHA.six; obtain ⟨b5, hI⟩ := hO.ia; have HIA := Lib.hid hI; have HDb := Lib.hid (HD.out.below hHA.bel); have HHA := Lib.hid hHA; have T2 : True := trivial; clear hHA hO hI hB)
      | (clear T1; go_at_call 23; (with_reducible refine (implRecTerms _ p T' F' (mm : Int) _ HDd.out).mono ?_); rw [HTD.out, trm_len]; rintro e wA ⟨D5, d5, rfl, hO, hB⟩; have hHA := HH2.out.drew.below hB; have ZA := hHA.six; obtain ⟨e5, hI⟩ := hO.ia; have HID := Lib.hid hI; have HAb := Lib.hid (HA.out.below hHA.bel); have HHA := Lib.hid hHA; have T3 : True := trivial; clear hHA hO hI hB)
      | (clear T2; go_at_call 23; (with_reducible refine (implRecTerms _ p T' F' (mm : Int) _ HDb.out).mono ?_); rw [HTD.out, trm_len]; rintro e wB ⟨D5, d5, rfl, hO, hB⟩; have hHB := HHA.out.below hB; have ZB := hHB.six; obtain ⟨e5, hI⟩ := hO.ia; have HIB := Lib.hid hI; have HIA2 := Lib.hid (HIA.out.below hB); have HHB := Lib.hid hHB; have T4 : True := trivial; clear hHB hO hI hB)
      | (clear T3; go_at_call 23; (with_reducible refine (implRecTerms _ p T F (mm : Int) _ HAb.out).mono ?_); rw [HTA.out, trm_len]; rintro e wB ⟨A5, c5, rfl, hO, hB⟩; have hHB := HHA.out.below hB; have ZB := hHB.six; obtain ⟨b5, hI⟩ := hO.ia; have HIA2 := Lib.hid hI; have HIB := Lib.hid (HID.out.below hB); have HHB := Lib.hid hHB; have T4 : True := trivial; clear hHB hO hI hB)
      | (clear T4; go_at_call 64; refine (equal_any _ _ _ _ _ _ _ _ _ _ _ _ _ HIA2.out HIB.out).mono ?_; rintro e wE ⟨rfl, hw⟩; have hHE := HHB.out.drewN hw; have ZE := hHE.six; have HHE := Lib.hid hHE; clear hHE hw))
  all_goals
    go_wp2_with (fail)
    go_ret
    exact ⟨ret_bool HE.out.symm, HHE.out.bel⟩
end Go.Proofs.Ytjpmncpbghlkaaa

/-
  The contracts of TableOf of the program and of the model.
-/
import Derived.Test.YtcjpjcigjljplaaTms
import Derived.Test.YtcjpjcigjljplaaCpyS
import Derived.Test.YtcjpjcigjljplaaCpy
import Derived.Test.YtcjpjcigjljplaaVal
namespace Go.Proofs.Ytcjpjcigjljplaa
open Go.RowKit
def tabOk (p : Int) (s : List Int) (r q : Int) : Bool := serB p s && (inB r 1 8 && (inB q 1 8 && decide (r + q - 1 ≤ (s.length : Int))))
def winL (s : List Int) (Q k : Nat) : List Int := (s.drop k).take Q
def tabL (s : List Int) (R Q : Nat) : List (List Int) := (List.range R).map (winL s Q)
def tabR (p : Int) (s : List Int) (r q : Int) : List (List Int) := if tabOk p s r q = true then tabL s r.toNat q.toNat else []
theorem tabL_len (s : List Int) (R Q : Nat) : (tabL s R Q).length = R := by simp [tabL]
theorem tabL_get (s : List Int) {R Q k : Nat} (h : k < R) : (tabL s R Q)[k]? = some (winL s Q k) := by unfold tabL; rw [List.getElem?_map, List.getElem?_range h]; rfl
theorem winL_len {s : List Int} {Q k : Nat} (h : k + Q ≤ s.length) : (winL s Q k).length = Q := by unfold winL; rw [List.length_take, List.length_drop]; omega
theorem IA.win {w : World} {A : Option Addr} {n b o : Nat} {xs : List Int} (h : IA w A n b o xs) {k m : Nat} (hk : k + m ≤ n) : IA w (some ⟨b, o + k, none⟩) m b (o + k) (winL xs m k) := by
  refine ⟨winL_len (by rw [h.len]; exact hk), fun _ => rfl, by have := h.big; omega, fun i hi => ?_⟩
  obtain ⟨x, hx, hc⟩ := h.cell (k + i) (by omega)
  refine ⟨x, ?_, by rw [Nat.add_assoc]; exact hc⟩
  unfold winL
  rw [List.getElem?_take_of_lt hi, List.getElem?_drop]
  exact hx
theorem tabOk_true {p : Int} {s : List Int} {r q : Int} (h : tabOk p s r q = true) : serB p s = true ∧ ∃ R Q : Nat, r = R ∧ q = Q ∧ 1 ≤ R ∧ R ≤ 8 ∧ 1 ≤ Q ∧ Q ≤ 8 ∧ R + Q - 1 ≤ s.length := by
  unfold tabOk inB at h
  simp only [Bool.and_eq_true, decide_eq_true_eq] at h
  obtain ⟨h1, ⟨h2, h3⟩, ⟨h4, h5⟩, h6⟩ := h
  exact ⟨h1, r.toNat, q.toNat, by omega, by omega, by omega, by omega, by omega, by omega, by omega⟩
theorem tabOk_false {p : Int} {s : List Int} {r q : Int} (h : tabOk p s r q = false) : serB p s = false ∨ (serB p s = true ∧ (r < 1 ∨ (¬ r < 1 ∧ (8 < r ∨ (¬ 8 < r ∧ (q < 1 ∨ (¬ q < 1 ∧ (8 < q ∨ (¬ 8 < q ∧ (s.length : Int) < r + q - 1))))))))) := by
  cases hs : serB p s
  · exact .inl rfl
  right
  refine ⟨rfl, ?_⟩
  unfold tabOk inB at h
  rw [hs] at h
  simp only [Bool.true_and, Bool.and_eq_false_iff, decide_eq_false_iff_not] at h
  omega
theorem tabR_bd (p : Int) (s : List Int) (r q : Int) : tot (tabR p s r q) ≤ 1048576 := by
  rcases h : tabOk p s r q
  · unfold tabR; rw [if_neg (by simp [h])]; decide
  obtain ⟨_, R, Q, rfl, rfl, h1, h2, h3, h4, h5⟩ := tabOk_true h
  unfold tabR; rw [if_pos h]
  simp only [Int.toNat_natCast]
  have h6 := tot_rows (tabL s R Q) 8 (fun row hr => by
    obtain ⟨k, hk, rfl⟩ := List.mem_map.1 hr
    unfold winL; rw [List.length_take]; omega)
  rw [tabL_len] at h6
  omega
set_option maxRecDepth 100000 in
set_option maxHeartbeats 4000000 in
theorem implTableOf (p : Int) (A : Option Addr) (n c b o : Nat) (s : List Int) (r q : Int) (w : World) (h : IA w A n b o s) (hcp : n ≤ c) :
    Calls Try.prog 11 #[.int .i64 p, .slice A n c, .int .i64 r, .int .i64 q] w (MadeM (tabR p s r q).length (tabR p s r q) w) := by
  have hbig := h.big
  have hlen := h.len
  have H := Lib.hid h
  rcases hv : tabOk p s r q
  · have HE := Lib.hid (show tabR p s r q = [] by unfold tabR; rw [if_neg (by simp [hv])])
    have hc := tabOk_false hv
    rw [hlen] at hc
    clear h hv hlen
    rcases hc with hc | ⟨hs, hc⟩
    · have HV := Lib.hid hc
      clear hc
      go_enter Try.func11, Try.ntmps11
      go_wp2_with (go_at_call 42; refine (implSeriesValidB p A n c b o s _ H.out).mono ?_; rintro e w1 ⟨rfl, hB⟩; rw [HV.out]; have HB1 := Lib.hid hB; clear hB)
      go_ret
      rw [HE.out]
      exact ⟨none, 0, [], rfl, OM.none _ _, HB1.out⟩
    have HV := Lib.hid hs
    clear hs
    rcases hc with hc | ⟨h1, hc | ⟨h2, hc | ⟨h3, hc | ⟨h4, hc⟩⟩⟩⟩
    case inr.inr.inr.inr =>
      have hw1 : IntKind.i64.wrap (r + q) = r + q := IntWalk.i64_in _ ⟨by omega, by omega⟩
      have hw2 : IntKind.i64.wrap (r + q - 1) = r + q - 1 := IntWalk.i64_in _ ⟨by omega, by omega⟩
      go_enter Try.func11, Try.ntmps11
      go_wp2_with (go_at_call 42; refine (implSeriesValidB p A n c b o s _ H.out).mono ?_; rintro e w1 ⟨rfl, hB⟩; rw [HV.out]; have HB1 := Lib.hid hB; clear hB)
      go_ret
      rw [HE.out]
      exact ⟨none, 0, [], rfl, OM.none _ _, HB1.out⟩
    all_goals
      go_enter Try.func11, Try.ntmps11
      go_wp2_with (go_at_call 42; refine (implSeriesValidB p A n c b o s _ H.out).mono ?_; rintro e w1 ⟨rfl, hB⟩; rw [HV.out]; have HB1 := Lib.hid hB; clear hB)
      go_ret
      rw [HE.out]
      exact ⟨none, 0, [], rfl, OM.none _ _, HB1.out⟩
  obtain ⟨hs, R, Q, rfl, rfl, r1, r8, q1, q8, hrq⟩ := tabOk_true hv
  rw [hlen] at hrq
  have HV := Lib.hid hs
  have HE := Lib.hid (show tabR p s (R : Int) (Q : Int) = tabL s R Q by unfold tabR; rw [if_pos hv]; rfl)
  obtain ⟨T, hT⟩ : ∃ T, tabL s R Q = T := ⟨_, rfl⟩
  have HT := Lib.hid hT
  have HTL := Lib.hid (show T.length = R by rw [← hT, tabL_len])
  have HTG := Lib.hid (show ∀ k, k < R → T[k]? = some (winL s Q k) from fun k hk => by rw [← hT, tabL_get s hk])
  have HSL := Lib.hid hlen
  obtain rfl := h.adr (by omega)
  have hw1 : IntKind.i64.wrap ((R : Int) + Q) = (R : Int) + Q := IntWalk.i64_in _ ⟨by omega, by omega⟩
  have hw2 : IntKind.i64.wrap ((R : Int) + Q - 1) = (R : Int) + Q - 1 := IntWalk.i64_in _ ⟨by omega, by omega⟩
  have hmk := run_make_row' (P := Try.prog) 26 23 (.slice none 0 0) 24 Try.underlying26 infoInts rfl .i64 .i64 R (by omega) (by omega)
  clear h hs hv hT hlen
  go_enter Try.func11, Try.ntmps11
  go_wp2_with (go_at_call 42; refine (implSeriesValidB p _ n c b o s _ H.out).mono ?_; rintro e w1 ⟨rfl, hB⟩; rw [HV.out]; have HB1 := Lib.hid hB; clear hB)
  go_loopw [44] (fun i wr => ∃ (k : Nat) (vs : List Value), k ≤ R ∧ i = .int .i64 k ∧ Half wr w1.heap.size R k T vs ∧ Below w1.heap.size w1 wr) (fun i _ => R - (intOf i).toNat)
  case atStart => exact ⟨0, [], by omega, rfl, Half.start w1 R T (by omega), (Below.refl _ _).alloc (Nat.le_refl _) _⟩
  case round =>
    obtain ⟨k, vs, hk, rfl, hown, hbel⟩ := hrel
    by_cases hlt : k < R
    · have HI := Lib.hid ((((H.out.below HB1.out)).below hbel).win (k := k) (m := Q) (by omega))
      have HO := Lib.hid hown
      have HB := Lib.hid hbel
      have HRR := Lib.hid (HTG.out k hlt)
      have hwl := winL_len (s := s) (Q := Q) (k := k) (by rw [HSL.out]; omega)
      have HWL := Lib.hid hwl
      have hkq : IntKind.i64.wrap ((k : Int) + Q) = (k : Int) + Q := IntWalk.i64_in _ ⟨by omega, by omega⟩
      have hkc : k + Q ≤ c := by omega
      clear hown hbel hwl
      go_wp2_with (fail)
      refine (cloneI_any (some ⟨b, o + k, none⟩) Q (c - k) b (o + k) (winL s Q k) _ HI.out (by omega)).mono ?_
      rintro e w2 ⟨A2, c2, rfl, hI2, hB2⟩
      have hI2' : OI w2 wr.heap.size A2 (winL s Q k).length c2 (winL s Q k) := by rw [HWL.out]; exact hI2
      obtain ⟨hst, hgr⟩ := HO.out.step hlt HTL.out hB2 HRR.out hI2'
      rw [HWL.out] at hst
      have ho := owns_below HO.out.out hB2
      have hcell := World.ownsRow.cellAt ho k (by omega)
      have hfr := World.ownsRow.frozenAt ho k
      obtain ⟨v0, hv0⟩ : ∃ v0, w2.cell? ⟨w1.heap.size, k, none⟩ = some v0 := by
        rw [hcell]; exact ⟨_, List.getElem?_eq_getElem (by have := HO.out.vlen; simp; omega)⟩
      have hs0 := HB.out.size
      have HS := Lib.hid hst
      have HB2 := Lib.hid (HB.out.trans (hB2.mono hs0))
      clear hcell ho hst hgr hB2 hI2 hI2'
      go_wp2_with (fail)
      go_roundw
      case rel => exact ⟨k + 1, _, by omega, by go_num, HS.out, HB2.out.setCell (Nat.le_refl _) _⟩
      case measure => simp [intOf]; omega
    · obtain rfl : k = R := by omega
      have HO := Lib.hid (hown.done HTL.out)
      have HB := Lib.hid hbel
      clear hown hbel
      go_wp2_with (fail)
      go_ret
      rw [HE.out, HT.out, HTL.out]
      exact ⟨_, _, _, rfl, HO.out.mono HB1.out.size, below_more HB1.out HB.out⟩
set_option maxRecDepth 100000 in
set_option maxHeartbeats 4000000 in
theorem specTableOf (p : Int) (A : Option Addr) (n c b o : Nat) (s : List Int) (r q : Int) (w : World) (h : IA w A n b o s) (hcp : n ≤ c) :
    Calls Try.prog 13 #[.int .i64 p, .slice A n c, .int .i64 r, .int .i64 q] w (MadeM (tabR p s r q).length (tabR p s r q) w) := by
  have hbig := h.big
  have hlen := h.len
  have HB0 := Lib.hid ((Below.refl w.heap.size w).alloc (Nat.le_refl _) (.cells #[] 23))
  have H := Lib.hid (h.below HB0.out)
  have H0 := Lib.hid h
  obtain ⟨ir, hir⟩ : ∃ i, inB r 1 8 = i := ⟨_, rfl⟩
  obtain ⟨iq, hiq⟩ : ∃ i, inB q 1 8 = i := ⟨_, rfl⟩
  have HIR := Lib.hid hir
  have HIQ := Lib.hid hiq
  rcases hv : tabOk p s r q
  · have HE := Lib.hid (show tabR p s r q = [] by unfold tabR; rw [if_neg (by simp [hv])])
    have hc : serB p s = false ∨ (serB p s = true ∧ (ir = false ∨ (ir = true ∧ (iq = false ∨ (iq = true ∧ (r ≤ 8 ∧ 1 ≤ r ∧ q ≤ 8 ∧ 1 ≤ q ∧ (n : Int) < r + q - 1)))))) := by
      rcases tabOk_false hv with hc | ⟨hc, h1⟩
      · exact .inl hc
      refine .inr ⟨hc, ?_⟩
      rw [hlen] at h1
      rw [← hir, ← hiq]
      unfold inB
      simp only [Bool.and_eq_true, Bool.and_eq_false_iff, decide_eq_false_iff_not, decide_eq_true_eq]
      omega
    clear h hv hlen hir hiq
    rcases hc with hc | ⟨hs, hc⟩
    · have HV := Lib.hid hc
      clear hc
      go_enter Try.func13, Try.ntmps13
      go_wp2_with (go_at_call 45; refine (specSeriesValidB p A n c b o s _ H.out).mono ?_; rintro e w1 ⟨rfl, hB⟩; rw [HV.out]; have HB1 := Lib.hid hB; clear hB)
      go_ret
      rw [HE.out]
      exact ⟨_, 0, [], rfl, (OM.empty w).below HB1.out, below_more HB0.out HB1.out⟩
    have HV := Lib.hid hs
    clear hs
    rcases hc with rfl | ⟨rfl, rfl | ⟨rfl, c1, c2, c3, c4, c5⟩⟩
    case inr.inr =>
      have hw1 : IntKind.i64.wrap (r + q) = r + q := IntWalk.i64_in _ ⟨by omega, by omega⟩
      have hw2 : IntKind.i64.wrap (r + q - 1) = r + q - 1 := IntWalk.i64_in _ ⟨by omega, by omega⟩
      go_enter Try.func13, Try.ntmps13
      go_wp2_with (first | (go_at_call 45; refine (specSeriesValidB p A n c b o s _ H.out).mono ?_; rintro e w1 ⟨rfl, hB⟩; rw [HV.out]; have HB1 := Lib.hid hB; clear hB) | (go_at_call 46; (with_reducible refine (specIn r _ _ _).mono ?_); rintro e w1 ⟨rfl, rfl⟩; rw [HIR.out]) | (go_at_call 46; (with_reducible refine (specIn q _ _ _).mono ?_); rintro e w1 ⟨rfl, rfl⟩; rw [HIQ.out]))
      go_ret
      rw [HE.out]
      exact ⟨_, 0, [], rfl, (OM.empty w).below HB1.out, below_more HB0.out HB1.out⟩
    all_goals
      go_enter Try.func13, Try.ntmps13
      go_wp2_with (first | (go_at_call 45; refine (specSeriesValidB p A n c b o s _ H.out).mono ?_; rintro e w1 ⟨rfl, hB⟩; rw [HV.out]; have HB1 := Lib.hid hB; clear hB) | (go_at_call 46; (with_reducible refine (specIn r _ _ _).mono ?_); rintro e w1 ⟨rfl, rfl⟩; rw [HIR.out]) | (go_at_call 46; (with_reducible refine (specIn q _ _ _).mono ?_); rintro e w1 ⟨rfl, rfl⟩; rw [HIQ.out]))
      go_ret
      rw [HE.out]
      exact ⟨_, 0, [], rfl, (OM.empty w).below HB1.out, below_more HB0.out HB1.out⟩
  obtain ⟨hs, R, Q, rfl, rfl, r1, r8, q1, q8, hrq⟩ := tabOk_true hv
  rw [hlen] at hrq
  have HV := Lib.hid hs
  have HE := Lib.hid (show tabR p s (R : Int) (Q : Int) = tabL s R Q by unfold tabR; rw [if_pos hv]; rfl)
  obtain rfl : ir = true := by rw [← hir]; unfold inB; simp only [Bool.and_eq_true, decide_eq_true_eq]; omega
  obtain rfl : iq = true := by rw [← hiq]; unfold inB; simp only [Bool.and_eq_true, decide_eq_true_eq]; omega
  obtain ⟨T, hT⟩ : ∃ T, tabL s R Q = T := ⟨_, rfl⟩
  have HT := Lib.hid hT
  have HTL := Lib.hid (show T.length = R by rw [← hT, tabL_len])
  have HTG := Lib.hid (show ∀ k, k < R → T[k]? = some (winL s Q k) from fun k hk => by rw [← hT, tabL_get s hk])
  have HSL := Lib.hid hlen
  obtain rfl := h.adr (by omega)
  have hw1 : IntKind.i64.wrap ((R : Int) + Q) = (R : Int) + Q := IntWalk.i64_in _ ⟨by omega, by omega⟩
  have hw2 : IntKind.i64.wrap ((R : Int) + Q - 1) = (R : Int) + Q - 1 := IntWalk.i64_in _ ⟨by omega, by omega⟩
  clear h hs hv hT hlen hir hiq
  go_enter Try.func13, Try.ntmps13
  go_wp2_with (first | (go_at_call 45; refine (specSeriesValidB p _ n c b o s _ H.out).mono ?_; rintro e w1 ⟨rfl, hB⟩; rw [HV.out]; have HB1 := Lib.hid hB; clear hB) | (go_at_call 46; (with_reducible refine (specIn (R : Int) _ _ _).mono ?_); rintro e w1 ⟨rfl, rfl⟩; rw [HIR.out]) | (go_at_call 46; (with_reducible refine (specIn (Q : Int) _ _ _).mono ?_); rintro e w1 ⟨rfl, rfl⟩; rw [HIQ.out]))
  go_loopw [9, 10] (fun v i wr => ∃ (k : Nat) (Ao : Option Addr) (co : Nat) (vs : List Value), k ≤ R ∧ i = .int .i64 k ∧ v = .slice Ao k co ∧ OM wr w.heap.size Ao k co (T.take k) vs ∧ Below w.heap.size w wr) (fun _ i _ => R - (intOf i).toNat)
  case atStart => exact ⟨0, _, _, [], by omega, rfl, rfl, (OM.empty w).below HB1.out, below_more HB0.out HB1.out⟩
  case round =>
    obtain ⟨k, Ao, co, vs, hk, rfl, rfl, hown, hbel⟩ := hrel
    obtain ⟨wo, rfl⟩ : ∃ wo : World, wo = wr := ⟨_, rfl⟩
    have hs0 := hbel.size
    by_cases hlt : k < R
    · have HI := Lib.hid ((H0.out.below hbel).win (k := k) (m := Q) (by omega))
      have hwl := winL_len (s := s) (Q := Q) (k := k) (by rw [HSL.out]; omega)
      have HO := Lib.hid hown
      have HB := Lib.hid hbel
      have HS := Lib.hid (take_snoc T k _ (HTG.out k hlt))
      have HRL := Lib.hid hwl
      have hkq : IntKind.i64.wrap ((k : Int) + Q) = (k : Int) + Q := IntWalk.i64_in _ ⟨by omega, by omega⟩
      have hkc : k + Q ≤ c := by omega
      clear hown hbel hwl
      go_wp2_with (at_builtin; refine wpList_app_ints rfl (.tmp 42) (.tmp 48) rfl wo.heap.size _ 0 0 [] rfl (OI.empty wo) (k + Q - k) (c - k) b (o + k) (winL s Q k) rfl (by rw [Nat.add_sub_cancel_left]; exact HI.out.below ((Below.refl _ wo).alloc (Nat.le_refl _) _)) (by omega) (by simp) ?_)
      intro A2 c2 w2 hI2 hK2
      have HI2 := Lib.hid (show OI w2 wo.heap.size A2 Q c2 (winL s Q k) by simpa using hI2)
      have hB2 : Below wo.heap.size wo w2 := ((Below.refl _ _).alloc (Nat.le_refl _) _).trans (hK2.below (by simp) (fun q hq => by simp [Value.ownBlock] at hq; omega))
      have HB2 := Lib.hid hB2
      have hs2 := hB2.size
      clear hI2 hK2 hB2
      go_wp2_with (at_builtin; refine wpList_app_row rfl (.tmp 41) (.tmp 50) rfl w.heap.size Ao k co vs rfl (World.ownsRow.alloc (owns_below HO.out.out HB2.out) _) A2 Q c2 _ _ rfl ?_ (by omega) ?_ ?_)
      · simp
      · simp; omega
      · intro A3 c3 w3 ho3 hK3
        have hp := HO.out.push (HB2.out.alloc hs2 (.cells #[.slice A2 Q c2] 23)) (row := winL s Q k) (A1 := A2) (c1 := c2) (by rw [HRL.out]; exact HI2.out.alloc _) (by rw [HRL.out]; exact ho3) hK3 hs0
        rw [HS.out] at hp
        have HP := Lib.hid hp
        have HB3 := Lib.hid (HB.out.trans (((HB2.out.alloc hs2 (.cells #[.slice A2 Q c2] 23)).mono hs0).trans (hK3.below (B := w.heap.size) (by simp; omega) (fun q hq => (HO.out.out.lt q hq).1))))
        clear hp ho3 hK3
        go_wp2_with (fail)
        go_roundw
        case rel => exact ⟨k + 1, _, _, _, by omega, by go_num, rfl, HP.out, HB3.out⟩
        case measure => simp [intOf]; omega
    · obtain rfl : k = R := by omega
      have e : T.take k = T := List.take_of_length_le (by rw [HTL.out]; omega)
      rw [e] at hown
      have HO := Lib.hid hown
      have HB := Lib.hid hbel
      clear e hown hbel
      go_wp2_with (fail)
      go_ret
      rw [HE.out, HT.out, HTL.out]
      exact ⟨_, _, _, rfl, HO.out, HB.out⟩
theorem specTableOfG (p : Int) (A : Option Addr) (n c b o : Nat) (s : List Int) (r q : Int) (w : World) (h : IA w A n b o s) (hcp : n ≤ c) :
    Calls Try.prog 13 #[.int .i64 p, .slice A n c, .int .i64 r, .int .i64 q] w (GivesM (tabR p s r q) w) := by
  refine (specTableOf p A n c b o s r q w h hcp).mono ?_
  rintro e w' ⟨A1, c1, vs, rfl, hO, hB⟩
  obtain ⟨b1, hR⟩ := hO.ra
  exact ⟨A1, c1, b1, 0, rfl, hR, hB⟩
theorem implTableOfG (p : Int) (A : Option Addr) (n c b o : Nat) (s : List Int) (r q : Int) (w : World) (h : IA w A n b o s) (hcp : n ≤ c) :
    Calls Try.prog 11 #[.int .i64 p, .slice A n c, .int .i64 r, .int .i64 q] w (MadeM (tabR p s r q).length (tabR p s r q) w) := implTableOf p A n c b o s r q w h hcp
end Go.Proofs.Ytcjpjcigjljplaa

/-
  The contracts of slices.Clone over numbers, RecTimes of the program.
  The contracts of TableOf of the program and of the model.
  The contract of slices.Reverse over numbers; equations of beginnings.
  The contract of solveTimes.
  The contract of the model's l5Times.
  The contracts of ShortestRec of the program and of the model.
  The contracts of GuessOf of the program and of the model.
  Equations of beginnings: what solves them, whatever can be solved, and sure guesses.
-/
import Derived.Deep.RegionHeld3
import Derived.Test.YtdecaokngedghaaBxs
import Derived.Test.YtdecaokngedghaaSRPol
import Derived.Test.YtdecaokngedghaaElim
import Derived.Test.YtdecaokngedghaaGb
import Derived.Test.YtdecaokngedghaaVal
import Derived.Test.YtdecaokngedghaaApA
import Derived.Test.YtdecaokngedghaaGuB
import Derived.Test.YtdecaokngedghaaGc
namespace Go.Proofs.Ytdecaokngedghaa
open Go.RowKit
theorem mixI_set {xs ys : List Int} {k : Nat} {y : Int} (hl : ys.length = xs.length) (hy : ys[k]? = some y) : (ys.take k ++ xs.drop k).set k y = ys.take (k + 1) ++ xs.drop (k + 1) := set_step ys xs k y hl hy
def RowPostI (B n c : Nat) (A : Option Addr) (ys : List Int) (w : World) (e : Ending) (w' : World) : Prop :=
  e = .returned (.tuple #[]) ∧ OI w' B A n c ys ∧ Keep (fun g => (Value.slice A n c).ownBlock = some g) w w'
theorem scaleI_get {p t : Int} {row : List Int} {k : Nat} {x : Int} (h : row[k]? = some x) : (scaleRow p t row)[k]? = some (x * t % p) := by simp [scaleRow, h]
theorem multiplyI_any (p t : Int) (B : Nat) (A : Option Addr) (n c : Nat) (xs : List Int) (w : World) (h : OI w B A n c xs) (ht : numB p t = true) (hx : ∀ x ∈ xs, numB p x = true) (hn : n ≤ 1000) :
    Calls Try.prog 87 #[.int .i64 p, .slice A n c, .int .i64 t] w (RowPostI B n c A (scaleRow p t xs) w) := by
  have htb := numB_bd ht
  have hlen := h.len
  have hadr := h.adr
  have H := Lib.hid h
  have HX := Lib.hid hx
  have HL := Lib.hid hlen
  have HA := Lib.hid hadr
  clear h hlen hadr hx ht
  go_enter Try.func87, Try.ntmps87
  go_wp2_with (fail)
  go_loopw [9] (fun i wr => ∃ j : Nat, j ≤ n ∧ i = .int .i64 j ∧ OI wr B A n c ((scaleRow p t xs).take j ++ xs.drop j) ∧ Keep (fun g => (Value.slice A n c).ownBlock = some g) w wr) (fun i _ => n - (intOf i).toNat)
  case atStart => exact ⟨0, by omega, rfl, by simpa using H.out, Keep.refl _ _⟩
  case round =>
    obtain ⟨j, hj, rfl, hown, hkeep⟩ := hrel
    by_cases hlt : j < n
    · obtain ⟨g, hg, hBg⟩ : ∃ g, A = some ⟨g, 0, none⟩ ∧ B ≤ g := by
        rcases HA.out with ⟨_, h0, _⟩ | ⟨g, h1, h2, _⟩
        · omega
        · exact ⟨g, h1, h2⟩
      subst hg
      have hl := HL.out
      have hxj : xs[j]? = some (xs[j]'(by omega)) := List.getElem?_eq_getElem (by omega)
      obtain ⟨x, hxx⟩ : ∃ x, xs[j]'(by omega) = x := ⟨_, rfl⟩
      rw [hxx] at hxj
      have hxb := numB_bd (HX.out x (List.mem_of_getElem? hxj))
      have hm := mul_bd hxb.1 (by omega) htb.1 (by omega)
      have hcell := World.ownsRow.cellAt hown j (by omega)
      have hmx : (ints ((scaleRow p t xs).take j ++ xs.drop j))[j]? = some (.int .i64 x) := by
        unfold ints; rw [List.getElem?_map, mix_get _ _ _ (scaleRow_len p t xs) (by rw [scaleRow_len]; omega), hxj]; rfl
      rw [hmx] at hcell
      have hfr := World.ownsRow.frozenAt hown j
      have hst := World.ownsRow.stored hown j (.int .i64 (x * t % p))
      rw [ints_set, mixI_set (scaleRow_len p t xs) (scaleI_get hxj)] at hst
      have HO := Lib.hid hst.1
      have HK := Lib.hid (hkeep.trans ((setCell_keep wr ⟨g, j, none⟩ (.int .i64 (x * t % p))).mono (fun q _ hq => by rw [hq]; rfl)))
      clear hmx hst hown hkeep hl hxj hxx
      go_wp2_with (fail)
      go_roundw
      case rel => exact ⟨j + 1, by omega, by go_num, HO.out, HK.out⟩
      case measure => simp [intOf]; omega
    · obtain rfl : j = n := by omega
      have e : (scaleRow p t xs).take j ++ xs.drop j = scaleRow p t xs := by
        rw [List.take_of_length_le (by rw [scaleRow_len, HL.out]; omega), List.drop_of_length_le (by rw [HL.out]; omega)]; simp
      rw [e] at hown
      have HO := Lib.hid hown
      clear e hown
      go_wp2_with (fail)
      go_end0
      exact ⟨rfl, HO.out, hkeep⟩
theorem nilI1 (A : Addr) (n c : Nat) : ∀ w, (binOp BinOp.eql 23 (Value.slice (some A) n c) (Value.slice none 0 0)).run Try.prog w = .ok (.bool false) w := by
  intro w
  first | kernel_rfl | rfl
theorem nilI0 (n c : Nat) : ∀ w, (binOp BinOp.eql 23 (Value.slice none n c) (Value.slice none 0 0)).run Try.prog w = .ok (.bool true) w := by
  intro w
  first | kernel_rfl | rfl
theorem cloneI_any (A : Option Addr) (n c b o : Nat) (xs : List Int) (w : World) (h : IA w A n b o xs) (hn : n ≤ 1000000) :
    Calls Try.prog 33 #[.slice A n c] w (MadeI n xs w) := by
  have HL := Lib.hid h.len
  have H := Lib.hid h
  cases A with
  | none =>
    have h0 : n = 0 := by
      by_cases h0 : n = 0
      · exact h0
      · have := h.adr (by omega); cases this
    clear h
    subst h0
    have HX := Lib.hid (List.eq_nil_of_length_eq_zero HL.out)
    have hq := nilI0 0 c
    go_enter Try.func33, Try.ntmps33
    go_wp2_with (fail)
    go_ret
    rw [HX.out]
    exact ⟨none, 0, rfl, World.ownsRow_nil _ _ _ _, Below.refl _ _⟩
  | some a =>
    clear h
    have hq := nilI1 a n c
    go_enter Try.func33, Try.ntmps33
    go_wp2_with (at_builtin; refine wpList_app_rowI rfl (.tmp 5) (.tmp 6) rfl rfl w.heap.size w.heap.size 0 0 [] rfl (oi_empty w _ (Nat.le_refl _)) (some a) n c b o xs rfl (H.out.below ((Below.refl _ _).alloc (Nat.le_refl _) _)) (by simp) (by omega) (by simp) ?_)
    intro A' c' w' h2 h3
    have HO := Lib.hid h2
    have HB := Lib.hid (((Below.refl w.heap.size w).alloc (Nat.le_refl _) (.cells #[] 3)).grown h3 (by simp) (by intro k hk; simp at hk; omega))
    clear h2 h3
    go_wp2_with (fail)
    go_ret
    exact ⟨A', c', rfl, HO.out, HB.out⟩
def timesO (p : Int) (T F : List Int) (t : Int) : Int × List Int × List Int := if recB p T F = true ∧ numB p t = true then (p, T, scaleRow p t F) else (0, [], [])
theorem timesO_len (p : Int) (T F : List Int) (t : Int) : (timesO p T F t).2.1.length ≤ 1048576 ∧ (timesO p T F t).2.2.length ≤ 1048576 := by
  unfold timesO
  split
  · rename_i h
    obtain ⟨_, h6, hl, _, _⟩ := recB_true h.1
    simp only [scaleRow_len]
    omega
  · simp
end Go.Proofs.Ytdecaokngedghaa
namespace Go.Proofs.Ytdecaokngedghaa
open Go.RowKit
def tabOk (p : Int) (s : List Int) (r q : Int) : Bool := serB p s && (inB r 1 8 && (inB q 1 8 && decide (r + q - 1 ≤ (s.length : Int))))
def winL (s : List Int) (Q k : Nat) : List Int := (s.drop k).take Q
def tabL (s : List Int) (R Q : Nat) : List (List Int) := (List.range R).map (winL s Q)
def tabR (p : Int) (s : List Int) (r q : Int) : List (List Int) := if tabOk p s r q = true then tabL s r.toNat q.toNat else []
theorem tabL_len (s : List Int) (R Q : Nat) : (tabL s R Q).length = R := by simp [tabL]
theorem tabL_get (s : List Int) {R Q k : Nat} (h : k < R) : (tabL s R Q)[k]? = some (winL s Q k) := by unfold tabL; rw [List.getElem?_map, List.getElem?_range h]; rfl
theorem winL_len {s : List Int} {Q k : Nat} (h : k + Q ≤ s.length) : (winL s Q k).length = Q := by unfold winL; rw [List.length_take, List.length_drop]; omega
theorem IA.win {w : World} {A : Option Addr} {n b o : Nat} {xs : List Int} (h : IA w A n b o xs) {k m : Nat} (hk : k + m ≤ n) : IA w (some ⟨b, o + k, none⟩) m b (o + k) (winL xs m k) := by
  refine ⟨winL_len (by rw [h.len]; exact hk), fun _ => rfl, by have := h.big; omega, fun i hi => ?_⟩
  obtain ⟨x, hx, hc⟩ := h.cell (k + i) (by omega)
  refine ⟨x, ?_, by rw [Nat.add_assoc]; exact hc⟩
  unfold winL
  rw [List.getElem?_take_of_lt hi, List.getElem?_drop]
  exact hx
theorem tabOk_true {p : Int} {s : List Int} {r q : Int} (h : tabOk p s r q = true) : serB p s = true ∧ ∃ R Q : Nat, r = R ∧ q = Q ∧ 1 ≤ R ∧ R ≤ 8 ∧ 1 ≤ Q ∧ Q ≤ 8 ∧ R + Q - 1 ≤ s.length := by
  unfold tabOk inB at h
  simp only [Bool.and_eq_true, decide_eq_true_eq] at h
  obtain ⟨h1, ⟨h2, h3⟩, ⟨h4, h5⟩, h6⟩ := h
  exact ⟨h1, r.toNat, q.toNat, by omega, by omega, by omega, by omega, by omega, by omega, by omega⟩
theorem tabOk_false {p : Int} {s : List Int} {r q : Int} (h : tabOk p s r q = false) : serB p s = false ∨ (serB p s = true ∧ (r < 1 ∨ (¬ r < 1 ∧ (8 < r ∨ (¬ 8 < r ∧ (q < 1 ∨ (¬ q < 1 ∧ (8 < q ∨ (¬ 8 < q ∧ (s.length : Int) < r + q - 1))))))))) := by
  cases hs : serB p s
  · exact .inl rfl
  right
  refine ⟨rfl, ?_⟩
  unfold tabOk inB at h
  rw [hs] at h
  simp only [Bool.true_and, Bool.and_eq_false_iff, decide_eq_false_iff_not] at h
  omega
theorem tabR_bd (p : Int) (s : List Int) (r q : Int) : tot (tabR p s r q) ≤ 1048576 := by
  rcases h : tabOk p s r q
  · unfold tabR; rw [if_neg (by simp [h])]; decide
  obtain ⟨_, R, Q, rfl, rfl, h1, h2, h3, h4, h5⟩ := tabOk_true h
  unfold tabR; rw [if_pos h]
  simp only [Int.toNat_natCast]
  have h6 := tot_rows (tabL s R Q) 8 (fun row hr => by
    obtain ⟨k, hk, rfl⟩ := List.mem_map.1 hr
    unfold winL; rw [List.length_take]; omega)
  rw [tabL_len] at h6
  omega
set_option maxRecDepth 100000 in
set_option maxHeartbeats 4000000 in
theorem implTableOf (p : Int) (A : Option Addr) (n c b o : Nat) (s : List Int) (r q : Int) (w : World) (h : IA w A n b o s) (hcp : n ≤ c) :
    Calls Try.prog 83 #[.int .i64 p, .slice A n c, .int .i64 r, .int .i64 q] w (MadeM (tabR p s r q).length (tabR p s r q) w) := by
  have hbig := h.big
  have hlen := h.len
  have H := Lib.hid h
  rcases hv : tabOk p s r q
  · have HE := Lib.hid (show tabR p s r q = [] by unfold tabR; rw [if_neg (by simp [hv])])
    have hc := tabOk_false hv
    rw [hlen] at hc
    clear h hv hlen
    rcases hc with hc | ⟨hs, hc⟩
    · have HV := Lib.hid hc
      clear hc
      go_enter Try.func83, Try.ntmps83
      go_wp2_with (go_at_call 31; refine (implSeriesValidB p A n c b o s _ H.out).mono ?_; rintro e w1 ⟨rfl, hB⟩; rw [HV.out]; have HB1 := Lib.hid hB; clear hB)
      go_ret
      rw [HE.out]
      exact ⟨none, 0, [], rfl, OM.none _ _, HB1.out⟩
    have HV := Lib.hid hs
    clear hs
    rcases hc with hc | ⟨h1, hc | ⟨h2, hc | ⟨h3, hc | ⟨h4, hc⟩⟩⟩⟩
    case inr.inr.inr.inr =>
      have hw1 : IntKind.i64.wrap (r + q) = r + q := IntWalk.i64_in _ ⟨by omega, by omega⟩
      have hw2 : IntKind.i64.wrap (r + q - 1) = r + q - 1 := IntWalk.i64_in _ ⟨by omega, by omega⟩
      go_enter Try.func83, Try.ntmps83
      go_wp2_with (go_at_call 31; refine (implSeriesValidB p A n c b o s _ H.out).mono ?_; rintro e w1 ⟨rfl, hB⟩; rw [HV.out]; have HB1 := Lib.hid hB; clear hB)
      go_ret
      rw [HE.out]
      exact ⟨none, 0, [], rfl, OM.none _ _, HB1.out⟩
    all_goals
      go_enter Try.func83, Try.ntmps83
      go_wp2_with (go_at_call 31; refine (implSeriesValidB p A n c b o s _ H.out).mono ?_; rintro e w1 ⟨rfl, hB⟩; rw [HV.out]; have HB1 := Lib.hid hB; clear hB)
      go_ret
      rw [HE.out]
      exact ⟨none, 0, [], rfl, OM.none _ _, HB1.out⟩
  obtain ⟨hs, R, Q, rfl, rfl, r1, r8, q1, q8, hrq⟩ := tabOk_true hv
  rw [hlen] at hrq
  have HV := Lib.hid hs
  have HE := Lib.hid (show tabR p s (R : Int) (Q : Int) = tabL s R Q by unfold tabR; rw [if_pos hv]; rfl)
  obtain ⟨T, hT⟩ : ∃ T, tabL s R Q = T := ⟨_, rfl⟩
  have HT := Lib.hid hT
  have HTL := Lib.hid (show T.length = R by rw [← hT, tabL_len])
  have HTG := Lib.hid (show ∀ k, k < R → T[k]? = some (winL s Q k) from fun k hk => by rw [← hT, tabL_get s hk])
  have HSL := Lib.hid hlen
  obtain rfl := h.adr (by omega)
  have hw1 : IntKind.i64.wrap ((R : Int) + Q) = (R : Int) + Q := IntWalk.i64_in _ ⟨by omega, by omega⟩
  have hw2 : IntKind.i64.wrap ((R : Int) + Q - 1) = (R : Int) + Q - 1 := IntWalk.i64_in _ ⟨by omega, by omega⟩
  have hmk := run_make_row' (P := Try.prog) 74 23 (.slice none 0 0) 24 Try.underlying74 infoInts rfl .i64 .i64 R (by omega) (by omega)
  clear h hs hv hT hlen
  go_enter Try.func83, Try.ntmps83
  go_wp2_with (go_at_call 31; refine (implSeriesValidB p _ n c b o s _ H.out).mono ?_; rintro e w1 ⟨rfl, hB⟩; rw [HV.out]; have HB1 := Lib.hid hB; clear hB)
  go_loopw [44] (fun i wr => ∃ (k : Nat) (vs : List Value), k ≤ R ∧ i = .int .i64 k ∧ Half wr w1.heap.size R k T vs ∧ Below w1.heap.size w1 wr) (fun i _ => R - (intOf i).toNat)
  case atStart => exact ⟨0, [], by omega, rfl, Half.start w1 R T (by omega), (Below.refl _ _).alloc (Nat.le_refl _) _⟩
  case round =>
    obtain ⟨k, vs, hk, rfl, hown, hbel⟩ := hrel
    by_cases hlt : k < R
    · have HI := Lib.hid ((((H.out.below HB1.out)).below hbel).win (k := k) (m := Q) (by omega))
      have HO := Lib.hid hown
      have HB := Lib.hid hbel
      have HRR := Lib.hid (HTG.out k hlt)
      have hwl := winL_len (s := s) (Q := Q) (k := k) (by rw [HSL.out]; omega)
      have HWL := Lib.hid hwl
      have hkq : IntKind.i64.wrap ((k : Int) + Q) = (k : Int) + Q := IntWalk.i64_in _ ⟨by omega, by omega⟩
      have hkc : k + Q ≤ c := by omega
      clear hown hbel hwl
      go_wp2_with (fail)
      refine (cloneI_any (some ⟨b, o + k, none⟩) Q (c - k) b (o + k) (winL s Q k) _ HI.out (by omega)).mono ?_
      rintro e w2 ⟨A2, c2, rfl, hI2, hB2⟩
      have hI2' : OI w2 wr.heap.size A2 (winL s Q k).length c2 (winL s Q k) := by rw [HWL.out]; exact hI2
      obtain ⟨hst, hgr⟩ := HO.out.step hlt HTL.out hB2 HRR.out hI2'
      rw [HWL.out] at hst
      have ho := owns_below HO.out.out hB2
      have hcell := World.ownsRow.cellAt ho k (by omega)
      have hfr := World.ownsRow.frozenAt ho k
      obtain ⟨v0, hv0⟩ : ∃ v0, w2.cell? ⟨w1.heap.size, k, none⟩ = some v0 := by
        rw [hcell]; exact ⟨_, List.getElem?_eq_getElem (by have := HO.out.vlen; simp; omega)⟩
      have hs0 := HB.out.size
      have HS := Lib.hid hst
      have HB2 := Lib.hid (HB.out.trans (hB2.mono hs0))
      clear hcell ho hst hgr hB2 hI2 hI2'
      go_wp2_with (fail)
      go_roundw
      case rel => exact ⟨k + 1, _, by omega, by go_num, HS.out, HB2.out.setCell (Nat.le_refl _) _⟩
      case measure => simp [intOf]; omega
    · obtain rfl : k = R := by omega
      have HO := Lib.hid (hown.done HTL.out)
      have HB := Lib.hid hbel
      clear hown hbel
      go_wp2_with (fail)
      go_ret
      rw [HE.out, HT.out, HTL.out]
      exact ⟨_, _, _, rfl, HO.out.mono HB1.out.size, below_more HB1.out HB.out⟩
set_option maxRecDepth 100000 in
set_option maxHeartbeats 4000000 in
theorem specTableOf (p : Int) (A : Option Addr) (n c b o : Nat) (s : List Int) (r q : Int) (w : World) (h : IA w A n b o s) (hcp : n ≤ c) :
    Calls Try.prog 56 #[.int .i64 p, .slice A n c, .int .i64 r, .int .i64 q] w (MadeM (tabR p s r q).length (tabR p s r q) w) := by
  have hbig := h.big
  have hlen := h.len
  have HB0 := Lib.hid ((Below.refl w.heap.size w).alloc (Nat.le_refl _) (.cells #[] 23))
  have H := Lib.hid (h.below HB0.out)
  have H0 := Lib.hid h
  obtain ⟨ir, hir⟩ : ∃ i, inB r 1 8 = i := ⟨_, rfl⟩
  obtain ⟨iq, hiq⟩ : ∃ i, inB q 1 8 = i := ⟨_, rfl⟩
  have HIR := Lib.hid hir
  have HIQ := Lib.hid hiq
  rcases hv : tabOk p s r q
  · have HE := Lib.hid (show tabR p s r q = [] by unfold tabR; rw [if_neg (by simp [hv])])
    have hc : serB p s = false ∨ (serB p s = true ∧ (ir = false ∨ (ir = true ∧ (iq = false ∨ (iq = true ∧ (r ≤ 8 ∧ 1 ≤ r ∧ q ≤ 8 ∧ 1 ≤ q ∧ (n : Int) < r + q - 1)))))) := by
      rcases tabOk_false hv with hc | ⟨hc, h1⟩
      · exact .inl hc
      refine .inr ⟨hc, ?_⟩
      rw [hlen] at h1
      rw [← hir, ← hiq]
      unfold inB
      simp only [Bool.and_eq_true, Bool.and_eq_false_iff, decide_eq_false_iff_not, decide_eq_true_eq]
      omega
    clear h hv hlen hir hiq
    rcases hc with hc | ⟨hs, hc⟩
    · have HV := Lib.hid hc
      clear hc
      go_enter Try.func56, Try.ntmps56
      go_wp2_with (go_at_call 18; refine (specSeriesValidB p A n c b o s _ H.out).mono ?_; rintro e w1 ⟨rfl, hB⟩; rw [HV.out]; have HB1 := Lib.hid hB; clear hB)
      go_ret
      rw [HE.out]
      exact ⟨_, 0, [], rfl, (OM.empty w).below HB1.out, below_more HB0.out HB1.out⟩
    have HV := Lib.hid hs
    clear hs
    rcases hc with rfl | ⟨rfl, rfl | ⟨rfl, c1, c2, c3, c4, c5⟩⟩
    case inr.inr =>
      have hw1 : IntKind.i64.wrap (r + q) = r + q := IntWalk.i64_in _ ⟨by omega, by omega⟩
      have hw2 : IntKind.i64.wrap (r + q - 1) = r + q - 1 := IntWalk.i64_in _ ⟨by omega, by omega⟩
      go_enter Try.func56, Try.ntmps56
      go_wp2_with (first | (go_at_call 18; refine (specSeriesValidB p A n c b o s _ H.out).mono ?_; rintro e w1 ⟨rfl, hB⟩; rw [HV.out]; have HB1 := Lib.hid hB; clear hB) | (go_at_call 50; (with_reducible refine (specIn r _ _ _).mono ?_); rintro e w1 ⟨rfl, rfl⟩; rw [HIR.out]) | (go_at_call 50; (with_reducible refine (specIn q _ _ _).mono ?_); rintro e w1 ⟨rfl, rfl⟩; rw [HIQ.out]))
      go_ret
      rw [HE.out]
      exact ⟨_, 0, [], rfl, (OM.empty w).below HB1.out, below_more HB0.out HB1.out⟩
    all_goals
      go_enter Try.func56, Try.ntmps56
      go_wp2_with (first | (go_at_call 18; refine (specSeriesValidB p A n c b o s _ H.out).mono ?_; rintro e w1 ⟨rfl, hB⟩; rw [HV.out]; have HB1 := Lib.hid hB; clear hB) | (go_at_call 50; (with_reducible refine (specIn r _ _ _).mono ?_); rintro e w1 ⟨rfl, rfl⟩; rw [HIR.out]) | (go_at_call 50; (with_reducible refine (specIn q _ _ _).mono ?_); rintro e w1 ⟨rfl, rfl⟩; rw [HIQ.out]))
      go_ret
      rw [HE.out]
      exact ⟨_, 0, [], rfl, (OM.empty w).below HB1.out, below_more HB0.out HB1.out⟩
  obtain ⟨hs, R, Q, rfl, rfl, r1, r8, q1, q8, hrq⟩ := tabOk_true hv
  rw [hlen] at hrq
  have HV := Lib.hid hs
  have HE := Lib.hid (show tabR p s (R : Int) (Q : Int) = tabL s R Q by unfold tabR; rw [if_pos hv]; rfl)
  obtain rfl : ir = true := by rw [← hir]; unfold inB; simp only [Bool.and_eq_true, decide_eq_true_eq]; omega
  obtain rfl : iq = true := by rw [← hiq]; unfold inB; simp only [Bool.and_eq_true, decide_eq_true_eq]; omega
  obtain ⟨T, hT⟩ : ∃ T, tabL s R Q = T := ⟨_, rfl⟩
  have HT := Lib.hid hT
  have HTL := Lib.hid (show T.length = R by rw [← hT, tabL_len])
  have HTG := Lib.hid (show ∀ k, k < R → T[k]? = some (winL s Q k) from fun k hk => by rw [← hT, tabL_get s hk])
  have HSL := Lib.hid hlen
  obtain rfl := h.adr (by omega)
  have hw1 : IntKind.i64.wrap ((R : Int) + Q) = (R : Int) + Q := IntWalk.i64_in _ ⟨by omega, by omega⟩
  have hw2 : IntKind.i64.wrap ((R : Int) + Q - 1) = (R : Int) + Q - 1 := IntWalk.i64_in _ ⟨by omega, by omega⟩
  clear h hs hv hT hlen hir hiq
  go_enter Try.func56, Try.ntmps56
  go_wp2_with (first | (go_at_call 18; refine (specSeriesValidB p _ n c b o s _ H.out).mono ?_; rintro e w1 ⟨rfl, hB⟩; rw [HV.out]; have HB1 := Lib.hid hB; clear hB) | (go_at_call 50; (with_reducible refine (specIn (R : Int) _ _ _).mono ?_); rintro e w1 ⟨rfl, rfl⟩; rw [HIR.out]) | (go_at_call 50; (with_reducible refine (specIn (Q : Int) _ _ _).mono ?_); rintro e w1 ⟨rfl, rfl⟩; rw [HIQ.out]))
  go_loopw [9, 10] (fun v i wr => ∃ (k : Nat) (Ao : Option Addr) (co : Nat) (vs : List Value), k ≤ R ∧ i = .int .i64 k ∧ v = .slice Ao k co ∧ OM wr w.heap.size Ao k co (T.take k) vs ∧ Below w.heap.size w wr) (fun _ i _ => R - (intOf i).toNat)
  case atStart => exact ⟨0, _, _, [], by omega, rfl, rfl, (OM.empty w).below HB1.out, below_more HB0.out HB1.out⟩
  case round =>
    obtain ⟨k, Ao, co, vs, hk, rfl, rfl, hown, hbel⟩ := hrel
    obtain ⟨wo, rfl⟩ : ∃ wo : World, wo = wr := ⟨_, rfl⟩
    have hs0 := hbel.size
    by_cases hlt : k < R
    · have HI := Lib.hid ((H0.out.below hbel).win (k := k) (m := Q) (by omega))
      have hwl := winL_len (s := s) (Q := Q) (k := k) (by rw [HSL.out]; omega)
      have HO := Lib.hid hown
      have HB := Lib.hid hbel
      have HS := Lib.hid (take_snoc T k _ (HTG.out k hlt))
      have HRL := Lib.hid hwl
      have hkq : IntKind.i64.wrap ((k : Int) + Q) = (k : Int) + Q := IntWalk.i64_in _ ⟨by omega, by omega⟩
      have hkc : k + Q ≤ c := by omega
      clear hown hbel hwl
      go_wp2_with (at_builtin; refine wpList_app_ints rfl (.tmp 42) (.tmp 48) rfl wo.heap.size _ 0 0 [] rfl (OI.empty wo) (k + Q - k) (c - k) b (o + k) (winL s Q k) rfl (by rw [Nat.add_sub_cancel_left]; exact HI.out.below ((Below.refl _ wo).alloc (Nat.le_refl _) _)) (by omega) (by simp) ?_)
      intro A2 c2 w2 hI2 hK2
      have HI2 := Lib.hid (show OI w2 wo.heap.size A2 Q c2 (winL s Q k) by simpa using hI2)
      have hB2 : Below wo.heap.size wo w2 := ((Below.refl _ _).alloc (Nat.le_refl _) _).trans (hK2.below (by simp) (fun q hq => by simp [Value.ownBlock] at hq; omega))
      have HB2 := Lib.hid hB2
      have hs2 := hB2.size
      clear hI2 hK2 hB2
      go_wp2_with (at_builtin; refine wpList_app_row rfl (.tmp 41) (.tmp 50) rfl w.heap.size Ao k co vs rfl (World.ownsRow.alloc (owns_below HO.out.out HB2.out) _) A2 Q c2 _ _ rfl ?_ (by omega) ?_ ?_)
      · simp
      · simp; omega
      · intro A3 c3 w3 ho3 hK3
        have hp := HO.out.push (HB2.out.alloc hs2 (.cells #[.slice A2 Q c2] 23)) (row := winL s Q k) (A1 := A2) (c1 := c2) (by rw [HRL.out]; exact HI2.out.alloc _) (by rw [HRL.out]; exact ho3) hK3 hs0
        rw [HS.out] at hp
        have HP := Lib.hid hp
        have HB3 := Lib.hid (HB.out.trans (((HB2.out.alloc hs2 (.cells #[.slice A2 Q c2] 23)).mono hs0).trans (hK3.below (B := w.heap.size) (by simp; omega) (fun q hq => (HO.out.out.lt q hq).1))))
        clear hp ho3 hK3
        go_wp2_with (fail)
        go_roundw
        case rel => exact ⟨k + 1, _, _, _, by omega, by go_num, rfl, HP.out, HB3.out⟩
        case measure => simp [intOf]; omega
    · obtain rfl : k = R := by omega
      have e : T.take k = T := List.take_of_length_le (by rw [HTL.out]; omega)
      rw [e] at hown
      have HO := Lib.hid hown
      have HB := Lib.hid hbel
      clear e hown hbel
      go_wp2_with (fail)
      go_ret
      rw [HE.out, HT.out, HTL.out]
      exact ⟨_, _, _, rfl, HO.out, HB.out⟩
theorem specTableOfG (p : Int) (A : Option Addr) (n c b o : Nat) (s : List Int) (r q : Int) (w : World) (h : IA w A n b o s) (hcp : n ≤ c) :
    Calls Try.prog 56 #[.int .i64 p, .slice A n c, .int .i64 r, .int .i64 q] w (GivesM (tabR p s r q) w) := by
  refine (specTableOf p A n c b o s r q w h hcp).mono ?_
  rintro e w' ⟨A1, c1, vs, rfl, hO, hB⟩
  obtain ⟨b1, hR⟩ := hO.ra
  exact ⟨A1, c1, b1, 0, rfl, hR, hB⟩
theorem implTableOfG (p : Int) (A : Option Addr) (n c b o : Nat) (s : List Int) (r q : Int) (w : World) (h : IA w A n b o s) (hcp : n ≤ c) :
    Calls Try.prog 83 #[.int .i64 p, .slice A n c, .int .i64 r, .int .i64 q] w (MadeM (tabR p s r q).length (tabR p s r q) w) := implTableOf p A n c b o s r q w h hcp
end Go.Proofs.Ytdecaokngedghaa
namespace Go.Proofs.Ytdecaokngedghaa
open Go.RowKit
def revN (xs : List Int) (m i k : Nat) : Int := if k < m ∧ (k < i ∨ m ≤ k + i) then xs.getD (m - 1 - k) 0 else xs.getD k 0
def revL (xs : List Int) (m i : Nat) : List Int := (List.range xs.length).map (revN xs m i)
theorem revL_len (xs : List Int) (m i : Nat) : (revL xs m i).length = xs.length := by simp [revL]
theorem revL_get (xs : List Int) (m i : Nat) {k : Nat} (h : k < xs.length) : (revL xs m i)[k]? = some (revN xs m i k) := by unfold revL; rw [List.getElem?_map, List.getElem?_range h]; rfl
theorem revL_zero (xs : List Int) (m : Nat) : revL xs m 0 = xs := by
  apply List.ext_getElem?
  intro k
  by_cases hk : k < xs.length
  · rw [revL_get xs m 0 hk]
    unfold revN
    rw [if_neg (by omega), List.getD_eq_getElem?_getD, List.getElem?_eq_getElem hk]; rfl
  · rw [List.getElem?_eq_none (by rw [revL_len]; omega), List.getElem?_eq_none (by omega)]
theorem revL_step (xs : List Int) {m i : Nat} (hi : 2 * i + 1 < m) : ((revL xs m i).set i (revN xs m i (m - 1 - i))).set (m - 1 - i) (revN xs m i i) = revL xs m (i + 1) := by
  apply List.ext_getElem?
  intro k
  by_cases hk : k < xs.length
  · rw [revL_get xs m (i + 1) hk, List.getElem?_set, List.getElem?_set, List.length_set, revL_len, revL_get xs m i hk]
    by_cases e1 : m - 1 - i = k
    · subst e1
      rw [if_pos rfl, if_pos hk]
      congr 1
      unfold revN
      rw [if_neg (by omega), if_pos (by omega)]
      congr 1
      omega
    · rw [if_neg e1]
      by_cases e2 : i = k
      · subst e2
        rw [if_pos rfl, if_pos hk]
        congr 1
        unfold revN
        rw [if_neg (by omega), if_pos (by omega)]
      · rw [if_neg e2]
        congr 1
        unfold revN
        by_cases hc : k < m ∧ (k < i ∨ m ≤ k + i)
        · rw [if_pos hc, if_pos (by omega)]
        · rw [if_neg hc, if_neg (by omega)]
  · rw [List.getElem?_eq_none (by rw [List.length_set, List.length_set, revL_len]; omega), List.getElem?_eq_none (by rw [revL_len]; omega)]
theorem revL_done (xs : List Int) {m i : Nat} (hm : m ≤ xs.length) (hi : m ≤ 2 * i + 1) (hi2 : 2 * i ≤ m + 1) : revL xs m i = (xs.take m).reverse ++ xs.drop m := by
  have hl : (xs.take m).length = m := by rw [List.length_take]; omega
  apply List.ext_getElem?
  intro k
  by_cases hk : k < xs.length
  · rw [revL_get xs m i hk]
    by_cases hkm : k < m
    · rw [List.getElem?_append_left (by rw [List.length_reverse, hl]; exact hkm), List.getElem?_reverse (by rw [hl]; exact hkm), hl, List.getElem?_take_of_lt (by omega), List.getElem?_eq_getElem (by omega)]
      unfold revN
      by_cases hc : k < i ∨ m ≤ k + i
      · rw [if_pos ⟨hkm, hc⟩, List.getD_eq_getElem?_getD, List.getElem?_eq_getElem (by omega)]; rfl
      · rw [if_neg (fun e => hc e.2), List.getD_eq_getElem?_getD, List.getElem?_eq_getElem (by omega)]
        have e : k = m - 1 - k := by omega
        simp only [Option.getD_some]
        congr 1
        congr 1
    · rw [List.getElem?_append_right (by rw [List.length_reverse, hl]; omega), List.length_reverse, hl, List.getElem?_drop, show m + (k - m) = k by omega, List.getElem?_eq_getElem hk]
      unfold revN
      rw [if_neg (by omega), List.getD_eq_getElem?_getD, List.getElem?_eq_getElem hk]; rfl
  · rw [List.getElem?_eq_none (by rw [revL_len]; omega), List.getElem?_eq_none (by simp; omega)]
set_option maxRecDepth 100000 in
set_option maxHeartbeats 4000000 in
theorem reverse_any (B g n c cc m : Nat) (xs : List Int) (w : World) (h : OI w B (some ⟨g, 0, none⟩) n c xs) (hm : m ≤ n) (hn : n ≤ 1000) :
    Calls Try.prog 61 #[.slice (some ⟨g, 0, none⟩) m cc] w (fun e w' => e = .returned (.tuple #[]) ∧ OI w' B (some ⟨g, 0, none⟩) n c ((xs.take m).reverse ++ xs.drop m) ∧ Keep (fun k => k = g) w w') := by
  have hlen := h.len
  have H := Lib.hid h
  have HL := Lib.hid hlen
  have hw1 : IntKind.i64.wrap ((m : Int) - 1) = (m : Int) - 1 := IntWalk.i64_in _ ⟨by omega, by omega⟩
  clear h hlen
  go_enter Try.func61, Try.ntmps61
  go_wp2_with (fail)
  go_loopw [2, 3] (fun i j wr => ∃ k : Nat, 2 * k ≤ m + 1 ∧ i = .int .i64 (k : Int) ∧ j = .int .i64 ((m : Int) - 1 - (k : Int)) ∧ OI wr B (some ⟨g, 0, none⟩) n c (revL xs m k) ∧ Keep (fun q => q = g) w wr) (fun i j _ => (intOf j - intOf i + 2).toNat)
  case atStart => exact ⟨0, by omega, rfl, by simp, by rw [revL_zero]; exact H.out, Keep.refl _ _⟩
  case round =>
    obtain ⟨k, hk, rfl, rfl, hown, hkeep⟩ := hrel
    by_cases hlt : 2 * k + 1 < m
    · obtain ⟨jj, hjj⟩ : ∃ jj : Nat, (m : Int) - 1 - (k : Int) = (jj : Int) := ⟨m - 1 - k, by omega⟩
      have hjn : jj = m - 1 - k := by omega
      rw [hjj]
      have hkj : (k : Int) < (jj : Int) := by omega
      have hjlen : jj < n := by omega
      have hkl : k < n := by omega
      have hx : (ints (revL xs m k))[k]? = some (.int .i64 (revN xs m k k)) := by unfold ints; rw [List.getElem?_map, revL_get xs m k (by rw [HL.out]; omega)]; rfl
      have hy : (ints (revL xs m k))[jj]? = some (.int .i64 (revN xs m k jj)) := by unfold ints; rw [List.getElem?_map, revL_get xs m k (by rw [HL.out]; omega)]; rfl
      have hc1 := World.ownsRow.cellAt hown k (by omega)
      have hc2 := World.ownsRow.cellAt hown jj (by omega)
      rw [hx] at hc1
      rw [hy] at hc2
      obtain ⟨x, hxx⟩ : ∃ x, revN xs m k k = x := ⟨_, rfl⟩
      obtain ⟨y, hyy⟩ : ∃ y, revN xs m k jj = y := ⟨_, rfl⟩
      rw [hxx] at hc1
      rw [hyy] at hc2
      have hf1 := World.ownsRow.frozenAt hown k
      have hf2 := World.ownsRow.frozenAt hown jj
      have hst1 := World.ownsRow.stored hown k (.int .i64 y)
      have hst2 := World.ownsRow.stored hst1.1 jj (.int .i64 x)
      rw [ints_set, ints_set, ← hxx, ← hyy, hjn, revL_step xs hlt, ← hjn, hyy, hxx] at hst2
      have HO := Lib.hid hst2.1
      have hv3 : (wr.setCell ⟨g, k, none⟩ (.int .i64 y)).cell? ⟨g, jj, none⟩ = some (.int .i64 y) := (World.cell?_setCell_other _ _ _ _ (fun h => by have := congrArg Addr.off h; simp at this; omega)).trans hc2
      have HK := Lib.hid (hkeep.trans (((setCell_keep wr ⟨g, k, none⟩ (.int .i64 y)).mono (T := fun q => q = g) (fun q _ hq => hq)).trans ((setCell_keep (wr.setCell ⟨g, k, none⟩ (.int .i64 y)) ⟨g, jj, none⟩ (.int .i64 x)).mono (fun q _ hq => hq))))
      have hwj : IntKind.i64.wrap ((jj : Int) - 1) = (jj : Int) - 1 := IntWalk.i64_in _ ⟨by omega, by omega⟩
      have hjm : jj < m := by omega
      have hjmi : (jj : Int) < (m : Int) := by omega
      have hkm : k < m := by omega
      have hkmi : (k : Int) < (m : Int) := by omega
      clear hx hy hst1 hst2 hown hkeep hxx hyy hjn
      go_wp2_with (fail)
      go_region
      go_wp2_with (fail)
      go_roundw
      case rel => exact ⟨k + 1, by omega, by go_num, by rw [show (m : Int) - 1 - ((k + 1 : Nat) : Int) = (jj : Int) - 1 by omega], owns_keep HO.out (drewN_keep (S := fun _ => False) _ 1) (fun _ _ h => h), HK.out.trans ((drewN_keep (S := fun _ => False) _ 1).mono (fun _ _ h => h.elim))⟩
      case measure => simp [intOf]; omega
    · have hd := revL_done xs (m := m) (i := k) (by rw [HL.out]; omega) (by omega) (by omega)
      rw [hd] at hown
      have HO := Lib.hid hown
      have hnl : ¬ (k : Int) < (m : Int) - 1 - (k : Int) := by omega
      clear hd hown
      go_wp2_with (fail)
      go_end0
      exact ⟨rfl, HO.out, hkeep⟩
end Go.Proofs.Ytdecaokngedghaa
namespace Go.Proofs.Ytdecaokngedghaa
open Go.RowKit
def eqRow (s : List Int) (d i : Nat) : List Int := ((winL s (d + 1) i).take d).reverse ++ (winL s (d + 1) i).drop d
def eqM (s : List Int) (d : Nat) : List (List Int) := (List.range (s.length - d)).map (eqRow s d)
theorem eqM_len (s : List Int) (d : Nat) : (eqM s d).length = s.length - d := by simp [eqM]
theorem eqM_get (s : List Int) (d : Nat) {k : Nat} (h : k < s.length - d) : (eqM s d)[k]? = some (eqRow s d k) := by unfold eqM; rw [List.getElem?_map, List.getElem?_range h]; rfl
theorem eqRow_len {s : List Int} {d i : Nat} (h : i + d < s.length) : (eqRow s d i).length = d + 1 := by
  unfold eqRow
  rw [List.length_append, List.length_reverse, List.length_take, List.length_drop, winL_len (by omega)]
  omega
theorem eqRow_low {s : List Int} {d i t : Nat} (h : i + d < s.length) (ht : t < d) : (eqRow s d i)[t]? = s[i + d - 1 - t]? := by
  have hw := winL_len (s := s) (Q := d + 1) (k := i) (by omega)
  have hl : ((winL s (d + 1) i).take d).length = d := by rw [List.length_take, hw]; omega
  unfold eqRow
  rw [List.getElem?_append_left (by rw [List.length_reverse, hl]; exact ht), List.getElem?_reverse (by rw [hl]; exact ht), hl, List.getElem?_take_of_lt (by omega)]
  unfold winL
  rw [List.getElem?_take_of_lt (by omega), List.getElem?_drop]
  congr 1
  omega
theorem eqRow_top {s : List Int} {d i : Nat} (h : i + d < s.length) : (eqRow s d i)[d]? = s[i + d]? := by
  have hw := winL_len (s := s) (Q := d + 1) (k := i) (by omega)
  have hl : ((winL s (d + 1) i).take d).length = d := by rw [List.length_take, hw]; omega
  unfold eqRow
  rw [List.getElem?_append_right (by rw [List.length_reverse, hl]; exact Nat.le_refl _), List.length_reverse, hl, List.getElem?_drop]
  unfold winL
  rw [List.getElem?_take_of_lt (by omega), List.getElem?_drop]
  congr 1
  omega
theorem eqM_vm {p : Int} {s : List Int} {d : Nat} (hs : ∀ x ∈ s, numB p x = true) : VM p (d + 1) (eqM s d) := by
  intro row hr
  obtain ⟨i, hi, rfl⟩ := List.mem_map.1 hr
  have hi := List.mem_range.1 hi
  refine ⟨eqRow_len (by omega), fun x hx => hs x ?_⟩
  unfold eqRow at hx
  have hx : x ∈ winL s (d + 1) i := by
    rcases List.mem_append.1 hx with h | h
    · exact List.mem_of_mem_take (List.mem_reverse.1 h)
    · exact List.mem_of_mem_drop h
  unfold winL at hx
  exact List.mem_of_mem_drop (List.mem_of_mem_take hx)
def solveN (p : Int) (s : List Int) (d : Nat) : Option (List Int) :=
  if d ∈ (elim p (eqM s d) (d + 1)).2 then none else some (solFill (elim p (eqM s d) (d + 1)).1 (elim p (eqM s d) (d + 1)).2 d (elim p (eqM s d) (d + 1)).2.length)
theorem elim_nil (p : Int) : ∀ c, elim p [] c = ([], [])
  | 0 => rfl
  | c + 1 => by
    have h := elim_nil p c
    have := elim_stay (p := p) (M := []) (j := c) (by rw [h]; rfl)
    rw [this, h]
theorem solveN_nil {p : Int} {s : List Int} {d : Nat} (h : s.length = d) : solveN p s d = some (List.replicate d 0) := by
  have he : eqM s d = [] := List.eq_nil_of_length_eq_zero (by rw [eqM_len]; omega)
  unfold solveN
  rw [he, elim_nil]
  simp [solFill]
theorem solveN_len {p : Int} {s : List Int} {d : Nat} {x : List Int} (h : solveN p s d = some x) : x.length = d := by
  unfold solveN at h
  split at h
  · cases h
  · obtain rfl := Option.some.inj h
    exact solFill_len _ _ _ _
set_option maxRecDepth 100000 in
set_option maxHeartbeats 4000000 in
theorem reduceRows_none (p : Int) (cols : Nat) (w : World) (hc : cols ≤ 1000) :
    Calls Try.prog 62 #[.int .i64 p, .slice none 0 0, .int .i64 (cols : Int)] w (fun e w' => e = .returned (.slice none 0 0) ∧ Below w.heap.size w w') := by
  go_enter Try.func62, Try.ntmps62
  go_wp2_with (fail)
  go_loopw [7, 14] (fun v i wr => ∃ j : Nat, j ≤ cols ∧ i = .int .i64 (j : Int) ∧ v = .slice none 0 0 ∧ Below w.heap.size w wr) (fun _ i _ => cols - (intOf i).toNat)
  case atStart => exact ⟨0, by omega, rfl, rfl, Below.refl _ _⟩
  case round =>
    obtain ⟨j, hj, rfl, rfl, hbel⟩ := hrel
    have HB := Lib.hid hbel
    clear hbel
    by_cases hlt : j < cols
    · go_wp2_with (fail)
      refine (firstRowWith_any none 0 0 0 0 [] j 0 _ (RA.nil _ _) (fun row hr => by simp at hr) (Nat.le_refl _) (by omega)).mono ?_
      rintro e w' ⟨x, rfl, hx, rfl⟩
      rcases hx with ⟨rfl, _⟩ | ⟨r, rfl, hrn, _⟩
      · go_wp2_with (fail)
        go_roundw
        case rel => exact ⟨j + 1, by omega, by go_num, rfl, HB.out⟩
        case measure => simp [intOf]; omega
      · simp at hrn
    · obtain rfl : j = cols := by omega
      go_wp2_with (fail)
      go_ret
      exact ⟨rfl, HB.out⟩
set_option maxRecDepth 100000 in
set_option maxHeartbeats 8000000 in
theorem solveTimes_any (p : Int) (A : Option Addr) (n c b o : Nat) (s : List Int) (d : Nat) (w : World) (h : IA w A n b o s) (hcp : n ≤ c) (hv : serB p s = true) (hd : d ≤ 6) (hdn : d ≤ n) :
    Calls Try.prog 32 #[.int .i64 p, .slice A n c, .int .i64 (d : Int)] w (MadeS (solveN p s d) w) := by
  obtain ⟨hp, h24, hx⟩ := serB_true hv
  have hlen := h.len
  have hbig := h.big
  rw [hlen] at h24
  obtain ⟨E, hE⟩ : ∃ E, eqM s d = E := ⟨_, rfl⟩
  have HEL := Lib.hid (show E.length = n - d by rw [← hE, eqM_len, hlen])
  have HEG := Lib.hid (show ∀ k, k < n - d → E[k]? = some (eqRow s d k) from fun k hk => by rw [← hE]; exact eqM_get s d (by rw [hlen]; exact hk))
  have HVM := Lib.hid (show VM p (d + 1) E by rw [← hE]; exact eqM_vm hx)
  have HSN := Lib.hid (show solveN p s d = if d ∈ (elim p E (d + 1)).2 then none else some (solFill (elim p E (d + 1)).1 (elim p E (d + 1)).2 d (elim p E (d + 1)).2.length) by unfold solveN; rw [hE])
  have HNIL := Lib.hid (show n = d → solveN p s d = some (List.replicate d 0) from fun e => solveN_nil (by rw [hlen]; exact e))
  have HP := Lib.hid hp
  have HSL := Lib.hid hlen
  have H := Lib.hid h
  clear h hp hx hlen hE hv
  go_enter Try.func32, Try.ntmps32
  go_wp2_with (fail)
  go_loopw [8, 9] (fun v i wr => ∃ (k : Nat) (Ao : Option Addr) (co : Nat) (vs : List Value), k ≤ n - d ∧ i = .int .i64 ((d : Int) + (k : Int)) ∧ v = .slice Ao k co ∧ OM wr w.heap.size Ao k co (E.take k) vs ∧ Below w.heap.size w wr ∧ Hid (k = 0 → Ao = none ∧ co = 0)) (fun _ i _ => n - (intOf i).toNat)
  case atStart => exact ⟨0, none, 0, [], by omega, by simp, rfl, by simpa using OM.none w _, Below.refl _ _, fun _ => ⟨rfl, rfl⟩⟩
  case round =>
    obtain ⟨k, Ao, co, vs, hk, rfl, rfl, hown, hbel, hko⟩ := hrel
    obtain ⟨wo, rfl⟩ : ∃ wo : World, wo = wr := ⟨_, rfl⟩
    have hs0 := hbel.size
    have HO := Lib.hid hown
    have HB := Lib.hid hbel
    by_cases hlt : k < n - d
    · obtain rfl := H.out.adr (by omega)
      have HI := Lib.hid ((H.out.below hbel).win (k := k) (m := d + 1) (by omega))
      have hlt2 : (d : Int) + (k : Int) < (n : Int) := by omega
      have hw1 : IntKind.i64.wrap ((d : Int) + (k : Int) - (d : Int)) = (k : Int) := by rw [IntWalk.i64_in _ ⟨by omega, by omega⟩]; omega
      have hw2 : IntKind.i64.wrap ((d : Int) + (k : Int) + 1) = ((k + (d + 1) : Nat) : Int) := by rw [IntWalk.i64_in _ ⟨by omega, by omega⟩]; omega
      have hw3 : (d : Int) + (k : Int) - (d : Int) = (k : Int) := by omega
      have hw4 : (d : Int) + (k : Int) + 1 = ((k + (d + 1) : Nat) : Int) := by omega
      have hkc : k + (d + 1) ≤ c := by omega
      have HER := Lib.hid (show (eqRow s d k).length = d + 1 from eqRow_len (by rw [HSL.out]; omega))
      have HS := Lib.hid (take_snoc E k _ (HEG.out k hlt))
      clear hown hbel hko
      go_wp2_with (fail)
      refine (cloneI_any (some ⟨b, o + k, none⟩) (d + 1) (c - k) b (o + k) (winL s (d + 1) k) _ HI.out (by omega)).mono ?_
      rintro e w2 ⟨A2, c2, rfl, hI2, hB2⟩
      obtain ⟨g2, rfl⟩ := oi_some hI2 (by omega)
      have hc2 := OI.capLe hI2
      have hdc : d ≤ c2 := by omega
      have HI2 := Lib.hid hI2
      have HB2 := Lib.hid hB2
      clear hI2 hB2
      go_wp2_with (fail)
      refine (reverse_any wo.heap.size g2 (d + 1) c2 c2 d (winL s (d + 1) k) _ HI2.out (by omega) (by omega)).mono ?_
      rintro e w3 ⟨rfl, hI3, hK3⟩
      have HI3 := Lib.hid (show OI w3 wo.heap.size (some ⟨g2, 0, none⟩) (d + 1) c2 (eqRow s d k) from hI3)
      have hB3 : Below wo.heap.size wo w3 := HB2.out.trans (hK3.below HB2.out.size (fun q hq => by rw [hq]; exact (HI2.out.lt g2 rfl).1))
      have HB3 := Lib.hid hB3
      have hs3 := hB3.size
      clear hI3 hK3 hB3
      go_wp2_with (at_builtin; refine wpList_app_row rfl (.tmp 34) (.tmp 36) rfl w.heap.size Ao k co vs rfl (World.ownsRow.alloc (owns_below HO.out.out HB3.out) _) (some ⟨g2, 0, none⟩) (d + 1) c2 _ _ rfl ?_ (by omega) ?_ ?_)
      · simp
      · simp; omega
      · intro A3 c3 w4 ho3 hK3
        have hp := HO.out.push (HB3.out.alloc hs3 (.cells #[.slice (some ⟨g2, 0, none⟩) (d + 1) c2] 23)) (row := eqRow s d k) (A1 := some ⟨g2, 0, none⟩) (c1 := c2) (by rw [HER.out]; exact HI3.out.alloc _) (by rw [HER.out]; exact ho3) hK3 hs0
        rw [HS.out] at hp
        have HP4 := Lib.hid hp
        have HB4 := Lib.hid (HB.out.trans (((HB3.out.alloc hs3 (.cells #[.slice (some ⟨g2, 0, none⟩) (d + 1) c2] 23)).mono hs0).trans (hK3.below (B := w.heap.size) (by simp; omega) (fun q hq => (HO.out.out.lt q hq).1))))
        clear hp ho3 hK3
        go_wp2_with (fail)
        go_roundw
        case rel => exact ⟨k + 1, A3, c3, _, by omega, by go_num, rfl, HP4.out, HB4.out, fun e => absurd e (by omega)⟩
        case measure => simp [intOf]; omega
    · have hkn : n ≤ k + d := by omega
      have e : E.take k = E := List.take_of_length_le (by rw [HEL.out]; omega)
      rw [e] at HO
      have hlt2 : ¬ (d : Int) + (k : Int) < (n : Int) := by omega
      have hw5 : IntKind.i64.wrap ((d : Int) + 1) = (d : Int) + 1 := IntWalk.i64_in _ ⟨by omega, by omega⟩
      have hmk := run_make_row' (P := Try.prog) 23 3 (.int .i64 0) 8 Try.underlying23 infoInt rfl .i64 .i64 d (by omega) (by omega)
      have HK0 := Lib.hid hko.out
      clear e hown hbel hko hlt
      by_cases hnd : n = d
      · obtain ⟨rfl, rfl⟩ := HK0.out (by omega)
        obtain rfl : k = 0 := by omega
        have HR := Lib.hid (HNIL.out hnd)
        have HRN := Lib.hid (show ∀ W : World, Calls Try.prog 62 #[.int .i64 p, .slice none 0 0, .int .i64 ((d : Int) + 1)] W (fun e w' => e = .returned (.slice none 0 0) ∧ Below W.heap.size W w') from fun W => by
          have := reduceRows_none p (d + 1) W (by omega)
          rwa [show ((d + 1 : Nat) : Int) = (d : Int) + 1 by omega] at this)
        subst hnd
        clear hkn hk hdn hlt2
        go_wp2_with (fail)
        refine (HRN.out _).mono ?_
        rintro e w4 ⟨rfl, hB4⟩
        have HB4 := Lib.hid (HB.out.trans (hB4.mono hs0))
        have hs4 := HB4.out.size
        clear hB4
        go_wp2_with (fail)
        refine (implContains none 0 0 0 0 [] (n : Int) _ ⟨rfl, by omega, by omega, by omega⟩).mono ?_
        rintro e w5 ⟨rfl, rfl⟩
        rw [show decide ((n : Int) ∈ ([] : List Int)) = false from decide_eq_false (by simp)]
        have HI0 := Lib.hid (made_ints w4 n (by omega))
        have HM0 := Lib.hid (below_new w4 (.cells (madeCells #[.int .i64 0] n) 3))
        go_wp2_with (fail)
        go_loopw [50] (fun i wi => i = .int .i64 0 ∧ OI wi w4.heap.size (some ⟨w4.heap.size, 0, none⟩) n n (List.replicate n 0) ∧ Below w4.heap.size w4 wi) (fun _ _ => 0)
        case atStart => exact ⟨rfl, HI0.out, HM0.out⟩
        case round =>
          obtain ⟨rfl, hrow, hbi⟩ := hrel
          have HI4 := Lib.hid hrow
          have HB5 := Lib.hid (HB4.out.trans (hbi.mono hs4))
          clear hrow hbi
          go_wp2_with (fail)
          go_ret2
          rw [HR.out]
          exact ⟨_, _, by simp only [Option.getD_some, List.length_replicate, Option.isSome_some]; rfl, by simp only [Option.getD_some, List.length_replicate]; exact owns_mono HI4.out hs4, HB5.out⟩
      · obtain ⟨g, rfl⟩ := HO.out.addr (by omega)
        have HRN := Lib.hid (show ∀ W : World, OM W w.heap.size (some ⟨g, 0, none⟩) k co E vs → Calls Try.prog 62 #[.int .i64 p, .slice (some ⟨g, 0, none⟩) k co, .int .i64 ((d : Int) + 1)] W (RedPost p w.heap.size g k co (d + 1) E W) from fun W hW => by
          have := reduceRows_any p w.heap.size g k co (d + 1) (d + 1) E vs W hW HP.out HVM.out (Nat.le_refl _) (by omega) (by omega) (by omega)
          rwa [show ((d + 1 : Nat) : Int) = (d : Int) + 1 by omega] at this)
        go_wp2_with (fail)
        refine (HRN.out _ HO.out).mono ?_
        rintro e w2 ⟨A2, c2, vs2, rfl, hO2, hI2, hB2⟩
        have hinv := elim_inv HP.out HVM.out (d + 1)
        have hhd := elim_heads p E (d + 1)
        obtain ⟨F, hF⟩ : ∃ F, (elim p E (d + 1)).1 = F := ⟨_, rfl⟩
        obtain ⟨hs, hHS⟩ : ∃ hs, (elim p E (d + 1)).2 = hs := ⟨_, rfl⟩
        obtain ⟨m, hm⟩ : ∃ m, hs.length = m := ⟨_, rfl⟩
        have HR := Lib.hid (show solveN p s d = if d ∈ hs then none else some (solFill F hs d m) by rw [HSN.out, hF, hHS, hm])
        rw [hF, hHS, hm, HEL.out] at hinv
        rw [hHS] at hhd
        rw [hF] at hO2
        rw [hHS, hm] at hI2
        simp only [hHS, hm]
        obtain ⟨hFl, hFv, hmn, hml⟩ := hinv
        have HM := Lib.hid hm
        have HFL := Lib.hid hFl
        have HVF := Lib.hid hFv
        have HD := Lib.hid hhd
        have HOF := Lib.hid (OMF.mk hO2 (Nat.lt_of_lt_of_le (hO2.out.lt g rfl).2 (Nat.le_refl _)) hO2.foot)
        obtain ⟨b2, hIA2⟩ := hI2.ia
        have HIA2 := Lib.hid hIA2
        have HBT := Lib.hid (HB.out.trans hB2)
        clear hF hHS hm hFl hFv hhd hO2 hIA2 hI2 hB2
        go_wp2_with (fail)
        refine (implContains A2 m c2 b2 0 (headI hs) (d : Int) _ HIA2.out).mono ?_
        rintro e w5 ⟨rfl, rfl⟩
        by_cases hin : d ∈ hs
        · rw [show decide ((d : Int) ∈ headI hs) = true from decide_eq_true (headI_mem.2 hin)]
          have HN := Lib.hid (show solveN p s d = none by rw [HR.out, if_pos hin])
          clear hin
          go_wp2_with (fail)
          go_ret2
          rw [HN.out]
          exact MadeS.nil HBT.out
        · rw [show decide ((d : Int) ∈ headI hs) = false from decide_eq_false (fun e => hin (headI_mem.1 e))]
          have HN := Lib.hid (show solveN p s d = some (solFill F hs d m) by rw [HR.out, if_neg hin])
          have HNI := Lib.hid hin
          have HI0 := Lib.hid (show OI (w2.alloc (.cells (madeCells #[.int .i64 0] d) 3)) w2.heap.size (some ⟨w2.heap.size, 0, none⟩) d d (solFill F hs d 0) from made_ints w2 d (by omega))
          have HB0 := Lib.hid (below_new w2 (.cells (madeCells #[.int .i64 0] d) 3))
          have hsz := HBT.out.size
          clear hin
          go_wp2_with (fail)
          go_loopw [50] (fun i wi => ∃ t : Nat, t ≤ m ∧ i = .int .i64 t ∧ OI wi w2.heap.size (some ⟨w2.heap.size, 0, none⟩) d d (solFill F hs d t) ∧ Below w2.heap.size w2 wi) (fun i _ => m - (intOf i).toNat)
          case atStart => exact ⟨0, by omega, rfl, HI0.out, HB0.out⟩
          case round =>
            obtain ⟨t, htm, rfl, hrow, hbi⟩ := hrel
            by_cases hls : t < m
            · obtain rfl := HIA2.out.adr (by omega)
              obtain ⟨q, hq⟩ : ∃ q, hs.getD t 0 = q := ⟨_, rfl⟩
              have hmem : q ∈ hs := hq ▸ getD_mem_nat (by rw [HM.out]; exact hls)
              have hql : q < d := by
                have h1 := HD.out _ hmem
                have h2 : q ≠ d := fun e => HNI.out (e ▸ hmem)
                omega
              obtain ⟨y1, hy1, hyc⟩ := (HIA2.out.below hbi).cell t hls
              rw [headI_get (by rw [HM.out]; exact hls), hq] at hy1
              obtain rfl := Option.some.inj hy1
              rw [Nat.zero_add] at hyc
              obtain ⟨row, bk, ck, hmk', hrl, hrv, hkx, _⟩ := HOF.out.cellAt HVF.out (r := t) (by omega)
              obtain ⟨hvk, hck, hIk, hIA⟩ := hkx (by omega)
              have hck' := (keep_of_below hbi).cell hck (fun h => h)
              obtain ⟨y, hy, hyc2⟩ := (hIA.below hbi).cell d (by omega)
              rw [Nat.zero_add] at hyc2
              have hat : at2 F t d = y := at2_of hmk' hy
              have hrs := World.ownsRow.cellAt hrow q (by omega)
              obtain ⟨z, hz⟩ : ∃ z, (solFill F hs d t)[q]? = some z := ⟨_, List.getElem?_eq_getElem (by rw [solFill_len]; exact hql)⟩
              have hz2 : (ints (solFill F hs d t))[q]? = some (.int .i64 z) := by unfold ints; rw [List.getElem?_map, hz]; rfl
              rw [hz2] at hrs
              have hrf := World.ownsRow.frozenAt hrow q
              obtain ⟨hst, _⟩ := World.ownsRow.stored hrow q (.int .i64 y)
              rw [ints_set] at hst
              have hset : (solFill F hs d t).set q y = solFill F hs d (t + 1) := by
                show _ = (solFill F hs d t).set (hs.getD t 0) (at2 F t d)
                rw [hq, hat]
              rw [hset] at hst
              have HI4 := Lib.hid hst
              have HB4 := Lib.hid (hbi.trans ((setCell_keep wr ⟨w2.heap.size, q, none⟩ (.int .i64 y)).below (B := w2.heap.size) hbi.size (fun x hx => by rw [hx]; exact Nat.le_refl _)))
              have htk : (t : Int) < (k : Int) := by omega
              clear hset hst hz2 hz hrow hbi hkx hvk hck hIk hIA hy hmk' hat hrl hrv hq hmem
              go_wp2_with (fail)
              go_roundw
              case rel => exact ⟨t + 1, by omega, by go_num, HI4.out, HB4.out⟩
              case measure => simp [intOf]; omega
            · obtain rfl : t = m := by omega
              have HI4 := Lib.hid hrow
              have HB4 := Lib.hid (HBT.out.trans (hbi.mono hsz))
              have HL := Lib.hid (show (solFill F hs d t).length = d from solFill_len _ _ _ _)
              clear hrow hbi
              go_wp2_with (fail)
              go_ret2
              rw [HN.out]
              exact ⟨_, _, by simp only [Option.getD_some, HL.out, Option.isSome_some]; rfl, by simp only [Option.getD_some, HL.out]; exact owns_mono HI4.out hsz, HB4.out⟩
end Go.Proofs.Ytdecaokngedghaa
namespace Go.Proofs.Ytdecaokngedghaa
open Go.RowKit
set_option maxRecDepth 100000 in
set_option maxHeartbeats 8000000 in
theorem l5Times_any (p : Int) (A : Option Addr) (n c b o : Nat) (s : List Int) (d : Nat) (w : World) (h : IA w A n b o s) (hv : serB p s = true) (hd : d ≤ 6) (hdn : d ≤ n) :
    Calls Try.prog 34 #[.int .i64 p, .slice A n c, .int .i64 (d : Int)] w (MadeS (solveN p s d) w) := by
  obtain ⟨hp, h24, hx⟩ := serB_true hv
  have hlen := h.len
  have hbig := h.big
  rw [hlen] at h24
  obtain ⟨E, hE⟩ : ∃ E, eqM s d = E := ⟨_, rfl⟩
  have HEL := Lib.hid (show E.length = n - d by rw [← hE, eqM_len, hlen])
  have HEG := Lib.hid (show ∀ k, k < n - d → E[k]? = some (eqRow s d k) from fun k hk => by rw [← hE]; exact eqM_get s d (by rw [hlen]; exact hk))
  have HVM := Lib.hid (show VM p (d + 1) E by rw [← hE]; exact eqM_vm hx)
  have HSN := Lib.hid (show solveN p s d = if d ∈ (elim p E (d + 1)).2 then none else some (solFill (elim p E (d + 1)).1 (elim p E (d + 1)).2 d (elim p E (d + 1)).2.length) by unfold solveN; rw [hE])
  have HNIL := Lib.hid (show n ≤ d → solveN p s d = some (List.replicate d 0) from fun e => solveN_nil (by rw [hlen]; omega))
  have HP := Lib.hid hp
  have HSL := Lib.hid hlen
  have H := Lib.hid h
  have HB0 := Lib.hid (below_new w (.cells #[] 23))
  have hmk := run_make_row' (P := Try.prog) 23 3 (.int .i64 0) 8 Try.underlying23 infoInt rfl .i64 .i64 d (by omega) (by omega)
  clear h hp hx hlen hE hv
  go_enter Try.func34, Try.ntmps34
  go_wp2_with (fail)
  go_loopw [8, 9] (fun v i wr => ∃ (k : Nat) (Ao : Option Addr) (co : Nat) (vs : List Value), k ≤ n - d ∧ i = .int .i64 ((d : Int) + (k : Int)) ∧ v = .slice Ao k co ∧ OM wr w.heap.size Ao k co (E.take k) vs ∧ Below w.heap.size w wr) (fun _ i _ => n - (intOf i).toNat)
  case atStart => exact ⟨0, _, _, [], by omega, by simp, rfl, by simpa using OM.empty w, HB0.out⟩
  case round =>
    obtain ⟨k, Ao, co, vs, hk, rfl, rfl, hown, hbel⟩ := hrel
    obtain ⟨wo, rfl⟩ : ∃ wo : World, wo = wr := ⟨_, rfl⟩
    have hs0 := hbel.size
    have HO := Lib.hid hown
    have HB := Lib.hid hbel
    by_cases hlt : k < n - d
    · obtain rfl := H.out.adr (by omega)
      have hlt2 : (d : Int) + (k : Int) < (n : Int) := by omega
      obtain ⟨ER, hER⟩ : ∃ R, eqRow s d k = R := ⟨_, rfl⟩
      have HER := Lib.hid (show ER.length = d + 1 by rw [← hER]; exact eqRow_len (by rw [HSL.out]; omega))
      have HLO := Lib.hid (show ∀ t, t < d → ER[t]? = s[k + d - 1 - t]? from fun t ht => by rw [← hER]; exact eqRow_low (by rw [HSL.out]; omega) ht)
      have HTO := Lib.hid (show ER[d]? = s[k + d]? by rw [← hER]; exact eqRow_top (by rw [HSL.out]; omega))
      have HS := Lib.hid (take_snoc E k ER (by rw [HEG.out k hlt, hER]))
      have HI0 := Lib.hid (OI.empty wo)
      have HN0 := Lib.hid (below_new wo (.cells #[] 3))
      clear hown hbel hER
      go_wp2_with (fail)
      go_loopw [10, 11] (fun v i wi => ∃ (j : Nat) (Ai : Option Addr) (ci : Nat), j ≤ d ∧ i = .int .i64 ((j : Int) + 1) ∧ v = .slice Ai j ci ∧ OI wi wo.heap.size Ai j ci (ER.take j) ∧ Below wo.heap.size wo wi) (fun _ i _ => d + 1 - (intOf i).toNat)
      case atStart => exact ⟨0, _, _, by omega, rfl, rfl, HI0.out, HN0.out⟩
      case round =>
        obtain ⟨j, Ai, ci, hj, rfl, rfl, hoi, hbi⟩ := hrel
        obtain ⟨wi, rfl⟩ : ∃ wi : World, wi = wr := ⟨_, rfl⟩
        have HOi := Lib.hid hoi
        have HBi := Lib.hid hbi
        have hsi := hbi.size
        by_cases hjl : j < d
        · obtain ⟨q, hq⟩ : ∃ q : Nat, (d : Int) + (k : Int) - ((j : Int) + 1) = (q : Int) := ⟨d + k - (j + 1), by omega⟩
          have hq2 : k + d - 1 - j = q := by omega
          have hqn : q < n := by omega
          obtain ⟨x, hx, hc⟩ := ((H.out.below HB.out).below hbi).cell q hqn
          have HST := Lib.hid (show ER.take j ++ [x] = ER.take (j + 1) by rw [List.take_add_one, HLO.out j hjl, hq2, hx]; rfl)
          have hwq : IntKind.i64.wrap ((d : Int) + (k : Int) - ((j : Int) + 1)) = (q : Int) := by rw [IntWalk.i64_in _ ⟨by omega, by omega⟩]; omega
          have hji : (j : Int) + 1 ≤ (d : Int) := by omega
          have hqi : (q : Int) < (n : Int) := by omega
          clear hoi hbi hx hq2
          go_wp2_with (at_builtin; refine wpList_app_int rfl (.tmp 30) (.tmp 37) rfl wo.heap.size Ai j ci (ER.take j) rfl (World.ownsRow.alloc HOi.out _) x wi.heap.size 1 rfl (by simp [go_sem]) (by omega) (by simp; omega) ?_; intro A6 c6 w6 hO6 hK6; have HO6 := Lib.hid hO6; have HB6 := Lib.hid (HBi.out.trans ((((below_new wi (.cells #[.int .i64 x] 3)).mono hsi)).trans (hK6.below (B := wo.heap.size) (by simp; omega) (fun q hq => (HOi.out.lt q hq).1)))); clear hO6 hK6)
          rw [HST.out] at HO6
          go_roundw
          case rel => exact ⟨j + 1, A6, c6, by omega, by go_num, rfl, HO6.out, HB6.out⟩
          case measure => simp [intOf]; omega
        · obtain rfl : j = d := by omega
          have hji : ¬ (j : Int) + 1 ≤ (j : Int) := by omega
          obtain ⟨x, hx, hc⟩ := ((H.out.below HB.out).below hbi).cell (j + k) (by omega)
          have HST := Lib.hid (show ER.take j ++ [x] = ER by
            have h1 : ER.take (j + 1) = ER := List.take_of_length_le (by rw [HER.out]; exact Nat.le_refl _)
            have h2 : ER.take (j + 1) = ER.take j ++ [x] := by rw [List.take_add_one, HTO.out, Nat.add_comm k j, hx]; rfl
            rw [← h2, h1])
          have hin : (j : Int) + (k : Int) < (n : Int) := by omega
          have hin0 : (0 : Int) ≤ (j : Int) + (k : Int) := by omega
          have htn : ((j : Int) + (k : Int)).toNat = j + k := by omega
          have hin2 : j + k < n := by omega
          clear hoi hbi hx
          have HBj := Lib.hid (HB.out.trans (HBi.out.mono hs0))
          have hsj := HBj.out.size
          go_wp2_with (first
            | (at_builtin; refine wpList_app_int rfl (.tmp 40) (.tmp 45) rfl wo.heap.size Ai j ci (ER.take j) rfl (World.ownsRow.alloc HOi.out _) x wi.heap.size 1 rfl (by simp [go_sem]) (by omega) (by simp; omega) ?_; rw [HST.out]; intro A6 c6 w6 hO6 hK6; have HO6 := Lib.hid hO6; have HB6 := Lib.hid (HBi.out.trans ((((below_new wi (.cells #[.int .i64 x] 3)).mono hsi)).trans (hK6.below (B := wo.heap.size) (by simp; omega) (fun q hq => (HOi.out.lt q hq).1)))); have hs6 := HB6.out.size; clear hO6 hK6)
            | (at_builtin; refine wpList_app_row rfl (.tmp 39) (.tmp 47) rfl w.heap.size Ao k co vs rfl (World.ownsRow.alloc (owns_below HO.out.out HB6.out) _) A6 (j + 1) c6 _ _ rfl (by simp) (by omega) (by simp; omega) ?_; intro A3 c3 w4 ho3 hK3; have hp := HO.out.push (HB6.out.alloc hs6 (.cells #[.slice A6 (j + 1) c6] 23)) (row := ER) (A1 := A6) (c1 := c6) (by rw [HER.out]; exact HO6.out.alloc _) (by rw [HER.out]; exact ho3) hK3 hs0; rw [HS.out] at hp; have HP4 := Lib.hid hp; have HB4 := Lib.hid (HB.out.trans (((HB6.out.alloc hs6 (.cells #[.slice A6 (j + 1) c6] 23)).mono hs0).trans (hK3.below (B := w.heap.size) (by simp; omega) (fun q hq => (HO.out.out.lt q hq).1)))); clear hp ho3 hK3))
          go_roundw
          case rel => exact ⟨k + 1, A3, c3, _, by omega, by go_num, rfl, HP4.out, HB4.out⟩
          case measure => simp [intOf]; omega
    · have hkn : n ≤ k + d := by omega
      have e : E.take k = E := List.take_of_length_le (by rw [HEL.out]; omega)
      rw [e] at HO
      have hlt2 : ¬ (d : Int) + (k : Int) < (n : Int) := by omega
      have HI0 := Lib.hid (made_ints wo d (by omega))
      have HM0 := Lib.hid (below_new wo (.cells (madeCells #[.int .i64 0] d) 3))
      clear e hown hbel hlt
      by_cases hnd : n ≤ d
      · obtain rfl : k = 0 := by omega
        have HR := Lib.hid (HNIL.out hnd)
        have hlt3 : (n : Int) ≤ (d : Int) := by omega
        clear hkn hk hdn hlt2 hnd
        go_wp2_with (fail)
        go_ret2
        rw [HR.out]
        exact ⟨_, _, by simp only [Option.getD_some, List.length_replicate, Option.isSome_some]; rfl, by simp only [Option.getD_some, List.length_replicate]; exact owns_mono HI0.out hs0, HB.out.trans (HM0.out.mono hs0)⟩
      · have hk0 : ((k : Int) == 0) = false := by rw [beq_eq_false_iff_ne]; omega
        have hk1 : 1 ≤ k := by omega
        obtain ⟨g, rfl⟩ := HO.out.addr hk1
        obtain ⟨br, hRA⟩ := HO.out.ra
        have HRA := Lib.hid (hRA.below HM0.out)
        have hgk : ¬ (k : Int) = 0 := by omega
        clear hRA
        go_wp2_with (fail)
        refine (specForm p (some ⟨g, 0, none⟩) k co br 0 (d + 1) E _ HRA.out HP.out HVM.out hk1 (by omega) (by omega) (by omega)).mono ?_
        rintro e w2 ⟨A2, c2, vs2, A3, c3, rfl, hO2, hI2, hB2⟩
        have hinv := elim_inv HP.out HVM.out (d + 1)
        have hhd := elim_heads p E (d + 1)
        obtain ⟨F, hF⟩ : ∃ F, (elim p E (d + 1)).1 = F := ⟨_, rfl⟩
        obtain ⟨hs, hHS⟩ : ∃ hs, (elim p E (d + 1)).2 = hs := ⟨_, rfl⟩
        obtain ⟨m, hm⟩ : ∃ m, hs.length = m := ⟨_, rfl⟩
        have HR := Lib.hid (show solveN p s d = if d ∈ hs then none else some (solFill F hs d m) by rw [HSN.out, hF, hHS, hm])
        have hEk : E.length = k := by rw [HEL.out]; omega
        rw [hF, hHS, hm, hEk] at hinv
        rw [hHS] at hhd
        rw [hEk, hF] at hO2
        rw [hHS, hm] at hI2
        simp only [hEk, hHS, hm]
        obtain ⟨hFl, hFv, hmn, hml⟩ := hinv
        have HM := Lib.hid hm
        have HVF := Lib.hid hFv
        have HD := Lib.hid hhd
        have HOF := Lib.hid hO2
        have HOI := Lib.hid hI2
        have HB2 := Lib.hid (below_more HM0.out hB2)
        have hs2 := HB2.out.size
        have HI2 := Lib.hid (owns_below HI0.out hB2)
        have HBT := Lib.hid (HB.out.trans (HB2.out.mono hs0))
        clear hF hHS hm hFl hFv hhd hO2 hI2 hB2 hEk
        go_wp2_with (fail)
        go_loopw [15] (fun i wi => ∃ t : Nat, t ≤ m ∧ i = .int .i64 t ∧ OI wi wo.heap.size (some ⟨wo.heap.size, 0, none⟩) d d (solFill F hs d t) ∧ Keep (fun q => q = wo.heap.size) w2 wi ∧ Hid (∀ q, q < t → hs.getD q 0 ≠ d)) (fun i _ => m - (intOf i).toNat)
        case atStart => exact ⟨0, by omega, rfl, HI2.out, Keep.refl _ _, fun q h => absurd h (by omega)⟩
        case round =>
          obtain ⟨t, htm, rfl, hrow, hki, hne⟩ := hrel
          have hlow := (HI2.out.lt wo.heap.size rfl).2
          by_cases hls : t < m
          · obtain ⟨b3, hIA3⟩ := HOI.out.ia
            obtain rfl := hIA3.adr (by omega)
            obtain ⟨q, hq⟩ : ∃ q, hs.getD t 0 = q := ⟨_, rfl⟩
            have hmem : q ∈ hs := hq ▸ getD_mem_nat (by rw [HM.out]; exact hls)
            have hqL : q < d + 1 := HD.out _ hmem
            obtain ⟨y1, hy1, hyc⟩ := hIA3.cell t hls
            rw [headI_get (by rw [HM.out]; exact hls), hq] at hy1
            obtain rfl := Option.some.inj hy1
            rw [Nat.zero_add] at hyc
            have hb3 := (HOI.out.lt b3 rfl).1
            have hne3 : ¬ b3 = wo.heap.size := by
              have h1 := HM0.out.size
              have h2 : wo.heap.size < (wo.alloc (.cells (madeCells #[.int .i64 0] d) 3)).heap.size := by simp
              omega
            have hyc' := hki.cell hyc hne3
            by_cases hql0 : q = d
            · have hqq : ((q : Int) == (d : Int)) = true := by rw [beq_iff_eq]; omega
              have HN := Lib.hid (show solveN p s d = none by rw [HR.out, if_pos (hql0 ▸ hmem)])
              have HBW := Lib.hid (HBT.out.trans (hki.below (B := w.heap.size) (by omega) (fun x hx => by rw [hx]; exact hs0)))
              have hsw := HBW.out.size
              have HE0 := Lib.hid (oi_empty wr w.heap.size hsw)
              clear hrow hki hIA3 hq hne hql0 hmem hyc hy1
              go_wp2_with (fail)
              go_ret2
              rw [HN.out]
              exact ⟨_, 0, rfl, HE0.out, HBW.out.trans ((below_new wr _).mono hsw)⟩
            · have hqq : ((q : Int) == (d : Int)) = false := by rw [beq_eq_false_iff_ne]; omega
              have hql : q < d := by omega
              have HNE := Lib.hid (show ∀ j, j < t + 1 → hs.getD j 0 ≠ d from fun j hj => if e : j = t then by rw [e, hq]; exact hql0 else hne.out j (by omega))
              obtain ⟨gF, hg⟩ := HOF.out.addr hk1
              subst hg
              have hoff := HOF.out.out.lt gF rfl
              obtain ⟨row, bk, ck, hmk', hrl, hrv, hkx, _⟩ := (OMF.mk HOF.out hoff.2 HOF.out.foot).cellAt HVF.out (r := t) (by omega)
              obtain ⟨hvk, hck, hIk, hIA⟩ := hkx (by omega)
              have hsz0 : wo.heap.size < (wo.alloc (.cells (madeCells #[.int .i64 0] d) 3)).heap.size := by simp
              have hck' := hki.cell hck (show ¬ gF = wo.heap.size by omega)
              obtain ⟨y, hy, hyc2⟩ := hIA.cell d (by omega)
              rw [Nat.zero_add] at hyc2
              have hyc2' := hki.cell hyc2 (show ¬ bk = wo.heap.size by have := (hIk.lt bk rfl).1; omega)
              have hat : at2 F t d = y := at2_of hmk' hy
              have hrs := World.ownsRow.cellAt hrow q (by omega)
              obtain ⟨z, hz⟩ : ∃ z, (solFill F hs d t)[q]? = some z := ⟨_, List.getElem?_eq_getElem (by rw [solFill_len]; exact hql)⟩
              have hz2 : (ints (solFill F hs d t))[q]? = some (.int .i64 z) := by unfold ints; rw [List.getElem?_map, hz]; rfl
              rw [hz2] at hrs
              have hrf := World.ownsRow.frozenAt hrow q
              obtain ⟨hst, _⟩ := World.ownsRow.stored hrow q (.int .i64 y)
              rw [ints_set] at hst
              have hset : (solFill F hs d t).set q y = solFill F hs d (t + 1) := by
                show _ = (solFill F hs d t).set (hs.getD t 0) (at2 F t d)
                rw [hq, hat]
              rw [hset] at hst
              have HI4 := Lib.hid hst
              have HK4 := Lib.hid (hki.trans ((setCell_keep wr ⟨wo.heap.size, q, none⟩ (.int .i64 y)).mono (T := fun q => q = wo.heap.size) (fun x _ hx => hx)))
              have htk : (t : Int) < (k : Int) := by omega
              clear hset hst hz2 hz hrow hki hkx hvk hck hIk hIA hy hmk' hat hrl hrv hq hIA3 hne hql0 hmem hyc hyc2 hy1
              go_wp2_with (fail)
              refine wp_quiet_tail 13 (by kernel_rfl) (by kernel_rfl) ?_
              simp only [List.take_succ_cons, List.take_zero, List.drop_succ_cons, List.drop_zero]
              repeat (go_big_quiet_step (fail))
              refine wpQuiet_nil ?_
              intro _ hw'
              obtain ⟨nq, hw''⟩ := hw'
              subst hw''
              go_wp2_with (fail)
              go_roundw
              case rel => exact ⟨t + 1, by omega, by go_num, owns_keep HI4.out (drewN_keep (S := fun _ => False) _ _) (fun _ _ h => h), HK4.out.trans ((drewN_keep (S := fun _ => False) _ nq).mono (fun _ _ h => h.elim)), HNE.out⟩
              case measure => simp [intOf]; omega
          · obtain rfl : t = m := by omega
            have HI4 := Lib.hid hrow
            have HBW := Lib.hid (HBT.out.trans (hki.below (B := w.heap.size) (by omega) (fun x hx => by rw [hx]; exact hs0)))
            have HL := Lib.hid (show (solFill F hs d t).length = d from solFill_len _ _ _ _)
            have HN := Lib.hid (show solveN p s d = some (solFill F hs d t) by
              rw [HR.out, if_neg (fun hin => by
                obtain ⟨i, hi, he⟩ := List.getElem_of_mem hin
                exact hne.out i (by rw [← HM.out]; exact hi) (by rw [List.getD_eq_getElem?_getD, List.getElem?_eq_getElem hi]; exact he))])
            clear hrow hki hne
            go_wp2_with (fail)
            go_ret2
            rw [HN.out]
            exact ⟨_, _, by simp only [Option.getD_some, HL.out, Option.isSome_some]; rfl, by simp only [Option.getD_some, HL.out]; exact owns_mono HI4.out hs0, HBW.out⟩
end Go.Proofs.Ytdecaokngedghaa
namespace Go.Proofs.Ytdecaokngedghaa
open Go.RowKit
def shortF (p : Int) (s : List Int) (d : Nat) : Nat → Option (Int × List Int × List Int)
  | 0 => none
  | f + 1 => match solveN p s d with
    | some t => some (p, t, s.take d)
    | none => shortF p s (d + 1) f
def shortR (p : Int) (s : List Int) : Option (Int × List Int × List Int) := if serB p s = true then shortF p s 0 (min s.length 6 + 1) else none
theorem shortF_some {p : Int} {s t : List Int} {d f : Nat} (h : solveN p s d = some t) : shortF p s d (f + 1) = some (p, t, s.take d) := by unfold shortF; rw [h]
theorem shortF_none {p : Int} {s : List Int} {d f : Nat} (h : solveN p s d = none) : shortF p s d (f + 1) = shortF p s (d + 1) f := by conv => lhs; unfold shortF; rw [h]
theorem shortF_len (p : Int) (s : List Int) : ∀ (f d : Nat) (x : Int × List Int × List Int), shortF p s d f = some x → ∃ k, d ≤ k ∧ k < d + f ∧ x.2.1.length = k ∧ x.2.2 = s.take k ∧ x.1 = p
  | 0, d, x, h => by cases h
  | f + 1, d, x, h => by
    rcases hs : solveN p s d with _ | t
    · rw [shortF_none hs] at h
      obtain ⟨k, h1, h2, h3⟩ := shortF_len p s f (d + 1) x h
      exact ⟨k, by omega, by omega, h3⟩
    · rw [shortF_some hs] at h
      obtain rfl := Option.some.inj h
      exact ⟨d, Nat.le_refl _, by omega, solveN_len hs, rfl, rfl⟩
theorem shortR_len (p : Int) (s : List Int) : ((shortR p s).getD (0, [], [])).2.1.length ≤ 1048576 ∧ ((shortR p s).getD (0, [], [])).2.2.length ≤ 1048576 := by
  rcases h : shortR p s with _ | x
  · simp
  · unfold shortR at h
    split at h
    · obtain ⟨k, h1, h2, h3, h4, _⟩ := shortF_len _ _ _ _ _ h
      simp only [Option.getD_some, h3, h4, List.length_take]
      omega
    · cases h
set_option maxRecDepth 100000 in
set_option maxHeartbeats 8000000 in
theorem implShortestRec (p : Int) (A : Option Addr) (n c b o : Nat) (s : List Int) (w : World) (h : IA w A n b o s) (hcp : n ≤ c) :
    Calls Try.prog 8 #[.int .i64 p, .slice A n c] w (MadeRB (shortR p s) w) := by
  have hlen := h.len
  have hbig := h.big
  have hB0 := below_new w (.cells #[.int .i64 0, .slice none 0 0, .slice none 0 0] 27)
  have HBW := Lib.hid (BxW.new w (.int .i64 0) (.slice none 0 0) (.slice none 0 0) 27)
  have H := Lib.hid (h.below hB0)
  have HB0 := Lib.hid hB0
  have HSL := Lib.hid hlen
  have HAN := Lib.hid (show A = none → n = 0 from fun e => by
    by_cases h0 : n = 0
    · exact h0
    · have := h.adr (by omega); rw [e] at this; cases this)
  clear h hB0
  rcases hv : serB p s
  · have HV := Lib.hid hv
    have HE := Lib.hid (show shortR p s = none by unfold shortR; rw [if_neg (by simp [hv])])
    clear hv
    go_enter Try.func8, Try.ntmps8
    go_wp2_with (go_at_call 31; refine (implSeriesValidB p A n c b o s _ H.out).mono ?_; rintro e w1 ⟨rfl, hB⟩; rw [HV.out]; have HB1 := Lib.hid (below_more HB0.out hB); have hbw := HBW.out.below hB; have x0 := hbw.c.1; have x1 := hbw.c.2.1; have x2 := hbw.c.2.2; have fz := hbw.fz; clear hB hbw)
    refine bodyPost_ret (v := .tuple #[.agg #[.int .i64 0, .slice none 0 0, .slice none 0 0], .bool false]) (by simp [results, Try.f8, go_sem, x0, x1, x2]) rfl ?_
    rw [HE.out]
    exact madeb_no HB1.out (Nat.le_refl _)
  have HV := Lib.hid hv
  have h24 := (serB_true hv).2.1
  rw [hlen] at h24
  obtain ⟨M, hM⟩ : ∃ M, min n 6 = M := ⟨_, rfl⟩
  have hMn : M ≤ n := by omega
  have hM6 : M ≤ 6 := by omega
  have HE := Lib.hid (show shortR p s = shortF p s 0 (M + 1) by unfold shortR; rw [if_pos hv, hlen, hM])
  have hmi : min (n : Int) 6 = (M : Int) := by omega
  have HMI := Lib.hid hmi
  have hcase : (n ≤ 6 ∧ M = n) ∨ (6 < n ∧ M = 6) := by omega
  clear hv hM hmi hlen
  have HC := Lib.hid hcase
  clear hcase
  go_enter Try.func8, Try.ntmps8
  rcases HC.out with ⟨hc1, rfl⟩ | ⟨hc1, rfl⟩
  · skip
    go_wp2_with (go_at_call 31; refine (implSeriesValidB p A M c b o s _ H.out).mono ?_; rintro e w1 ⟨rfl, hB⟩; rw [HV.out]; have HB1 := Lib.hid (below_more HB0.out hB); have HBW1 := Lib.hid (HBW.out.below hB); have H1 := Lib.hid (H.out.below hB); clear hB)
    go_loopw [18] (fun i wr => ∃ d : Nat, d ≤ M + 1 ∧ i = .int .i64 (d : Int) ∧ Below w1.heap.size w1 wr ∧ Hid (shortR p s = shortF p s d (M + 1 - d))) (fun i _ => M + 1 - (intOf i).toNat)
    case atStart => exact ⟨0, by omega, rfl, Below.refl _ _, HE.out⟩
    case round =>
      obtain ⟨d, hd, rfl, hbel, hsh⟩ := hrel
      have HB2 := Lib.hid (below_more HB1.out hbel)
      have HBW2 := Lib.hid (HBW1.out.below hbel)
      have H2 := Lib.hid (H1.out.below hbel)
      have HBr := Lib.hid hbel
      clear hbel
      by_cases hlt : d < M + 1
      · have hdi : (d : Int) < (M : Int) + 1 := by omega
        have hdn : d ≤ M := by omega
        have hd6 : d ≤ 6 := by omega
        go_wp2_with (fail)
        refine (solveTimes_any p A M c b o s d _ H2.out hcp HV.out hd6 hdn).mono ?_
        rintro e w3 ⟨A3, c3, rfl, hO, hB⟩
        have HB3 := Lib.hid (below_more HB2.out hB)
        have HBr3 := Lib.hid (below_more HBr.out hB)
        have HBW3 := Lib.hid (HBW2.out.below hB)
        have H3 := Lib.hid (H2.out.below hB)
        have hs2 := HB2.out.size
        have hlo2 := HBW2.out.c.lt
        rcases hsol : solveN p s d with _ | t
        · rw [hsol] at hO
          have HS := Lib.hid (show shortR p s = shortF p s (d + 1) (M + 1 - (d + 1)) by
            have h1 : M + 1 - d = (M + 1 - (d + 1)) + 1 := by omega
            rw [hsh.out, h1, shortF_none hsol])
          clear hO hB hsol hsh
          go_wp2_with (fail)
          go_roundw
          case rel => exact ⟨d + 1, by omega, by go_num, HBr3.out, HS.out⟩
          case measure => simp [intOf]; omega
        · rw [hsol] at hO
          have htl : t.length = d := solveN_len hsol
          have HS := Lib.hid (show shortR p s = some (p, t, s.take d) by
            have h1 : M + 1 - d = (M + 1 - (d + 1)) + 1 := by omega
            rw [hsh.out, h1, shortF_some hsol])
          have HO := Lib.hid (show OI w3 wr.heap.size A3 t.length c3 t from hO)
          have HTK := Lib.hid (show (s.take d).length = d by rw [List.length_take, HSL.out]; omega)
          have hdc : d ≤ c := by omega
          have hw3 := HB3.out.size
          have hr3 := hB.size
          clear hO hB hsol hsh htl
          simp only [Option.getD_some, Option.isSome_some]
          cases A with
          | none =>
            obtain rfl : M = 0 := HAN.out rfl
            obtain rfl : d = 0 := by omega
            go_wp2_with (fail)
            refine (cloneI_any none 0 c b o (s.take 0) _ (H3.out.take (by omega)) (by omega)).mono ?_
            rintro e w4 ⟨A4, c4, rfl, hO4, hB4⟩
            have HO4 := Lib.hid hO4
            have HO3 := Lib.hid (owns_below HO.out hB4)
            have HB4 := Lib.hid (below_more HB3.out hB4)
            have HBW4 := Lib.hid (HBW3.out.below hB4)
            obtain ⟨x0, x1, x2⟩ := HBW4.out.c
            have fz := HBW4.out.fz
            have HAP := Lib.hid (show Apart (.slice A3 t.length c3) (.slice A4 0 c4) from by
              rcases hob : (Value.slice A3 t.length c3).ownBlock with _ | g
              · exact .inl hob
              · refine .inr (fun e => ?_)
                rw [hob] at e
                have h1 := (HO.out.lt g hob).2
                have h2 := (hO4.lt g e.symm).1
                omega)
            clear hO4 hB4
            go_wp2_with (fail)
            refine bodyPost_ret (v := .tuple #[.agg #[.int .i64 p, .slice A3 t.length c3, .slice A4 0 c4], .bool true]) (by simp [results, Try.f8, go_sem, x0, x1, x2]) rfl ?_
            rw [HS.out]
            exact madeb_put (R := some (p, t, s.take 0)) (B := wr.heap.size) (g := w.heap.size) ⟨A3, c3, A4, c4, by rw [show ((some (p, t, s.take 0)).getD (0, [], [])).2.2.length = 0 from HTK.out]; rfl, HO3.out, by rw [show ((some (p, t, s.take 0)).getD (0, [], [])).2.2.length = 0 from HTK.out]; exact owns_mono HO4.out hr3, by rw [show ((some (p, t, s.take 0)).getD (0, [], [])).2.2.length = 0 from HTK.out]; exact HAP.out⟩ HB4.out hs2 (Nat.le_refl _) hlo2
          | some a =>
            go_wp2_with (fail)
            refine (cloneI_any (some a) d c b o (s.take d) _ (H3.out.take (by omega)) (by omega)).mono ?_
            rintro e w4 ⟨A4, c4, rfl, hO4, hB4⟩
            have HO4 := Lib.hid hO4
            have HO3 := Lib.hid (owns_below HO.out hB4)
            have HB4 := Lib.hid (below_more HB3.out hB4)
            have HBW4 := Lib.hid (HBW3.out.below hB4)
            obtain ⟨x0, x1, x2⟩ := HBW4.out.c
            have fz := HBW4.out.fz
            have HAP := Lib.hid (show Apart (.slice A3 t.length c3) (.slice A4 d c4) from by
              rcases hob : (Value.slice A3 t.length c3).ownBlock with _ | g
              · exact .inl hob
              · refine .inr (fun e => ?_)
                rw [hob] at e
                have h1 := (HO.out.lt g hob).2
                have h2 := (hO4.lt g e.symm).1
                omega)
            clear hO4 hB4
            go_wp2_with (fail)
            refine bodyPost_ret (v := .tuple #[.agg #[.int .i64 p, .slice A3 t.length c3, .slice A4 d c4], .bool true]) (by simp [results, Try.f8, go_sem, x0, x1, x2]) rfl ?_
            rw [HS.out]
            exact madeb_put (R := some (p, t, s.take d)) (B := wr.heap.size) (g := w.heap.size) ⟨A3, c3, A4, c4, by rw [show ((some (p, t, s.take d)).getD (0, [], [])).2.2.length = d from HTK.out]; rfl, HO3.out, by rw [show ((some (p, t, s.take d)).getD (0, [], [])).2.2.length = d from HTK.out]; exact owns_mono HO4.out hr3, by rw [show ((some (p, t, s.take d)).getD (0, [], [])).2.2.length = d from HTK.out]; exact HAP.out⟩ HB4.out hs2 (Nat.le_refl _) hlo2
      · have hdi : ¬ (d : Int) < (M : Int) + 1 := by omega
        obtain rfl : d = M + 1 := by omega
        have HS := Lib.hid (show shortR p s = none by rw [hsh.out, Nat.sub_self]; rfl)
        obtain ⟨x0, x1, x2⟩ := HBW2.out.c
        have fz := HBW2.out.fz
        clear hsh
        go_wp2_with (fail)
        refine bodyPost_ret (v := .tuple #[.agg #[.int .i64 0, .slice none 0 0, .slice none 0 0], .bool false]) (by simp [results, Try.f8, go_sem, x0, x1, x2]) rfl ?_
        rw [HS.out]
        exact madeb_no HB2.out (Nat.le_refl _)
  · skip
    go_wp2_with (go_at_call 31; refine (implSeriesValidB p A n c b o s _ H.out).mono ?_; rintro e w1 ⟨rfl, hB⟩; rw [HV.out]; have HB1 := Lib.hid (below_more HB0.out hB); have HBW1 := Lib.hid (HBW.out.below hB); have H1 := Lib.hid (H.out.below hB); clear hB)
    go_loopw [18] (fun i wr => ∃ d : Nat, d ≤ 6 + 1 ∧ i = .int .i64 (d : Int) ∧ Below w1.heap.size w1 wr ∧ Hid (shortR p s = shortF p s d (6 + 1 - d))) (fun i _ => 6 + 1 - (intOf i).toNat)
    case atStart => exact ⟨0, by omega, rfl, Below.refl _ _, HE.out⟩
    case round =>
      obtain ⟨d, hd, rfl, hbel, hsh⟩ := hrel
      have HB2 := Lib.hid (below_more HB1.out hbel)
      have HBW2 := Lib.hid (HBW1.out.below hbel)
      have H2 := Lib.hid (H1.out.below hbel)
      have HBr := Lib.hid hbel
      clear hbel
      by_cases hlt : d < 6 + 1
      · have hdi : (d : Int) < 7 := by omega
        have hdn : d ≤ n := by omega
        have hd6 : d ≤ 6 := by omega
        go_wp2_with (fail)
        refine (solveTimes_any p A n c b o s d _ H2.out hcp HV.out hd6 hdn).mono ?_
        rintro e w3 ⟨A3, c3, rfl, hO, hB⟩
        have HB3 := Lib.hid (below_more HB2.out hB)
        have HBr3 := Lib.hid (below_more HBr.out hB)
        have HBW3 := Lib.hid (HBW2.out.below hB)
        have H3 := Lib.hid (H2.out.below hB)
        have hs2 := HB2.out.size
        have hlo2 := HBW2.out.c.lt
        rcases hsol : solveN p s d with _ | t
        · rw [hsol] at hO
          have HS := Lib.hid (show shortR p s = shortF p s (d + 1) (6 + 1 - (d + 1)) by
            have h1 : 6 + 1 - d = (6 + 1 - (d + 1)) + 1 := by omega
            rw [hsh.out, h1, shortF_none hsol])
          clear hO hB hsol hsh
          go_wp2_with (fail)
          go_roundw
          case rel => exact ⟨d + 1, by omega, by go_num, HBr3.out, HS.out⟩
          case measure => simp [intOf]; omega
        · rw [hsol] at hO
          have htl : t.length = d := solveN_len hsol
          have HS := Lib.hid (show shortR p s = some (p, t, s.take d) by
            have h1 : 6 + 1 - d = (6 + 1 - (d + 1)) + 1 := by omega
            rw [hsh.out, h1, shortF_some hsol])
          have HO := Lib.hid (show OI w3 wr.heap.size A3 t.length c3 t from hO)
          have HTK := Lib.hid (show (s.take d).length = d by rw [List.length_take, HSL.out]; omega)
          have hdc : d ≤ c := by omega
          have hw3 := HB3.out.size
          have hr3 := hB.size
          clear hO hB hsol hsh htl
          simp only [Option.getD_some, Option.isSome_some]
          cases A with
          | none =>
            exact absurd (HAN.out rfl) (by omega)
          | some a =>
            go_wp2_with (fail)
            refine (cloneI_any (some a) d c b o (s.take d) _ (H3.out.take (by omega)) (by omega)).mono ?_
            rintro e w4 ⟨A4, c4, rfl, hO4, hB4⟩
            have HO4 := Lib.hid hO4
            have HO3 := Lib.hid (owns_below HO.out hB4)
            have HB4 := Lib.hid (below_more HB3.out hB4)
            have HBW4 := Lib.hid (HBW3.out.below hB4)
            obtain ⟨x0, x1, x2⟩ := HBW4.out.c
            have fz := HBW4.out.fz
            have HAP := Lib.hid (show Apart (.slice A3 t.length c3) (.slice A4 d c4) from by
              rcases hob : (Value.slice A3 t.length c3).ownBlock with _ | g
              · exact .inl hob
              · refine .inr (fun e => ?_)
                rw [hob] at e
                have h1 := (HO.out.lt g hob).2
                have h2 := (hO4.lt g e.symm).1
                omega)
            clear hO4 hB4
            go_wp2_with (fail)
            refine bodyPost_ret (v := .tuple #[.agg #[.int .i64 p, .slice A3 t.length c3, .slice A4 d c4], .bool true]) (by simp [results, Try.f8, go_sem, x0, x1, x2]) rfl ?_
            rw [HS.out]
            exact madeb_put (R := some (p, t, s.take d)) (B := wr.heap.size) (g := w.heap.size) ⟨A3, c3, A4, c4, by rw [show ((some (p, t, s.take d)).getD (0, [], [])).2.2.length = d from HTK.out]; rfl, HO3.out, by rw [show ((some (p, t, s.take d)).getD (0, [], [])).2.2.length = d from HTK.out]; exact owns_mono HO4.out hr3, by rw [show ((some (p, t, s.take d)).getD (0, [], [])).2.2.length = d from HTK.out]; exact HAP.out⟩ HB4.out hs2 (Nat.le_refl _) hlo2
      · have hdi : ¬ (d : Int) < 7 := by omega
        obtain rfl : d = 6 + 1 := by omega
        have HS := Lib.hid (show shortR p s = none by rw [hsh.out, Nat.sub_self]; rfl)
        obtain ⟨x0, x1, x2⟩ := HBW2.out.c
        have fz := HBW2.out.fz
        clear hsh
        go_wp2_with (fail)
        refine bodyPost_ret (v := .tuple #[.agg #[.int .i64 0, .slice none 0 0, .slice none 0 0], .bool false]) (by simp [results, Try.f8, go_sem, x0, x1, x2]) rfl ?_
        rw [HS.out]
        exact madeb_no HB2.out (Nat.le_refl _)
set_option maxRecDepth 100000 in
set_option maxHeartbeats 8000000 in
theorem specShortestRec (p : Int) (A : Option Addr) (n c b o : Nat) (s : List Int) (w : World) (h : IA w A n b o s) (hcp : n ≤ c) :
    Calls Try.prog 9 #[.int .i64 p, .slice A n c] w (MadeRB (shortR p s) w) := by
  have hlen := h.len
  have hbig := h.big
  have hB0 := below_new w (.cells #[.int .i64 0, .slice none 0 0, .slice none 0 0] 27)
  have HBW := Lib.hid (BxW.new w (.int .i64 0) (.slice none 0 0) (.slice none 0 0) 27)
  have H := Lib.hid (h.below hB0)
  have HB0 := Lib.hid hB0
  have HSL := Lib.hid hlen
  have HAN := Lib.hid (show A = none → n = 0 from fun e => by
    by_cases h0 : n = 0
    · exact h0
    · have := h.adr (by omega); rw [e] at this; cases this)
  clear h hB0
  rcases hv : serB p s
  · have HV := Lib.hid hv
    have HE := Lib.hid (show shortR p s = none by unfold shortR; rw [if_neg (by simp [hv])])
    clear hv
    go_enter Try.func9, Try.ntmps9
    go_wp2_with (go_at_call 18; refine (specSeriesValidB p A n c b o s _ H.out).mono ?_; rintro e w1 ⟨rfl, hB⟩; rw [HV.out]; have HB1 := Lib.hid (below_more HB0.out hB); have hbw := HBW.out.below hB; have x0 := hbw.c.1; have x1 := hbw.c.2.1; have x2 := hbw.c.2.2; have fz := hbw.fz; clear hB hbw)
    refine bodyPost_ret (v := .tuple #[.agg #[.int .i64 0, .slice none 0 0, .slice none 0 0], .bool false]) (by simp [results, Try.f9, go_sem, x0, x1, x2]) rfl ?_
    rw [HE.out]
    exact madeb_no HB1.out (Nat.le_refl _)
  have HV := Lib.hid hv
  have h24 := (serB_true hv).2.1
  rw [hlen] at h24
  obtain ⟨M, hM⟩ : ∃ M, min n 6 = M := ⟨_, rfl⟩
  have hMn : M ≤ n := by omega
  have hM6 : M ≤ 6 := by omega
  have HE := Lib.hid (show shortR p s = shortF p s 0 (M + 1) by unfold shortR; rw [if_pos hv, hlen, hM])
  have hmi : min (n : Int) 6 = (M : Int) := by omega
  have HMI := Lib.hid hmi
  have hcase : (n ≤ 6 ∧ M = n) ∨ (6 < n ∧ M = 6) := by omega
  clear hv hM hmi hlen
  have HC := Lib.hid hcase
  clear hcase
  go_enter Try.func9, Try.ntmps9
  rcases HC.out with ⟨hc1, rfl⟩ | ⟨hc1, rfl⟩
  · skip
    go_wp2_with (go_at_call 18; refine (specSeriesValidB p A M c b o s _ H.out).mono ?_; rintro e w1 ⟨rfl, hB⟩; rw [HV.out]; have HB1 := Lib.hid (below_more HB0.out hB); have HBW1 := Lib.hid (HBW.out.below hB); have H1 := Lib.hid (H.out.below hB); clear hB)
    go_loopw [6] (fun i wr => ∃ d : Nat, d ≤ M + 1 ∧ i = .int .i64 (d : Int) ∧ Below w1.heap.size w1 wr ∧ Hid (shortR p s = shortF p s d (M + 1 - d))) (fun i _ => M + 1 - (intOf i).toNat)
    case atStart => exact ⟨0, by omega, rfl, Below.refl _ _, HE.out⟩
    case round =>
      obtain ⟨d, hd, rfl, hbel, hsh⟩ := hrel
      have HB2 := Lib.hid (below_more HB1.out hbel)
      have HBW2 := Lib.hid (HBW1.out.below hbel)
      have H2 := Lib.hid (H1.out.below hbel)
      have HBr := Lib.hid hbel
      clear hbel
      by_cases hlt : d < M + 1
      · have hdi : (d : Int) ≤ 6 := by omega
        have hdi2 : (d : Int) ≤ (M : Int) := by omega
        have hdn : d ≤ M := by omega
        have hd6 : d ≤ 6 := by omega
        go_wp2_with (fail)
        refine (l5Times_any p A M c b o s d _ H2.out HV.out hd6 hdn).mono ?_
        rintro e w3 ⟨A3, c3, rfl, hO, hB⟩
        have HB3 := Lib.hid (below_more HB2.out hB)
        have HBr3 := Lib.hid (below_more HBr.out hB)
        have HBW3 := Lib.hid (HBW2.out.below hB)
        have H3 := Lib.hid (H2.out.below hB)
        have hs2 := HB2.out.size
        have hlo2 := HBW2.out.c.lt
        rcases hsol : solveN p s d with _ | t
        · rw [hsol] at hO
          have HS := Lib.hid (show shortR p s = shortF p s (d + 1) (M + 1 - (d + 1)) by
            have h1 : M + 1 - d = (M + 1 - (d + 1)) + 1 := by omega
            rw [hsh.out, h1, shortF_none hsol])
          clear hO hB hsol hsh
          go_wp2_with (fail)
          go_roundw
          case rel => exact ⟨d + 1, by omega, by go_num, HBr3.out, HS.out⟩
          case measure => simp [intOf]; omega
        · rw [hsol] at hO
          have htl : t.length = d := solveN_len hsol
          have HS := Lib.hid (show shortR p s = some (p, t, s.take d) by
            have h1 : M + 1 - d = (M + 1 - (d + 1)) + 1 := by omega
            rw [hsh.out, h1, shortF_some hsol])
          have HO := Lib.hid (show OI w3 wr.heap.size A3 t.length c3 t from hO)
          have HTK := Lib.hid (show (s.take d).length = d by rw [List.length_take, HSL.out]; omega)
          have hdc : d ≤ c := by omega
          have hw3 := HB3.out.size
          have hr3 := hB.size
          clear hO hB hsol hsh htl
          simp only [Option.getD_some, Option.isSome_some]
          cases A with
          | none =>
            obtain rfl : M = 0 := HAN.out rfl
            obtain rfl : d = 0 := by omega
            go_wp2_with (at_builtin; refine wpList_app_any rfl (.tmp 34) (.tmp 37) rfl rfl none 0 c b o (s.take 0) rfl (H3.out.take (by omega)) (by omega) ?_)
            intro A4 c4 w4 hO4 hB4
            have HO4 := Lib.hid hO4
            have HO3 := Lib.hid (owns_below HO.out hB4)
            have HB4 := Lib.hid (below_more HB3.out hB4)
            have HBW4 := Lib.hid (HBW3.out.below hB4)
            obtain ⟨x0, x1, x2⟩ := HBW4.out.c
            have fz := HBW4.out.fz
            have HAP := Lib.hid (show Apart (.slice A3 t.length c3) (.slice A4 0 c4) from by
              rcases hob : (Value.slice A3 t.length c3).ownBlock with _ | g
              · exact .inl hob
              · refine .inr (fun e => ?_)
                rw [hob] at e
                have h1 := (HO.out.lt g hob).2
                have h2 := (hO4.lt g e.symm).1
                omega)
            clear hO4 hB4
            go_wp2_with (fail)
            refine bodyPost_ret (v := .tuple #[.agg #[.int .i64 p, .slice A3 t.length c3, .slice A4 0 c4], .bool true]) (by simp [results, Try.f9, go_sem, x0, x1, x2]) rfl ?_
            rw [HS.out]
            exact madeb_put (R := some (p, t, s.take 0)) (B := wr.heap.size) (g := w.heap.size) ⟨A3, c3, A4, c4, by rw [show ((some (p, t, s.take 0)).getD (0, [], [])).2.2.length = 0 from HTK.out]; rfl, HO3.out, by rw [show ((some (p, t, s.take 0)).getD (0, [], [])).2.2.length = 0 from HTK.out]; exact owns_mono HO4.out hr3, by rw [show ((some (p, t, s.take 0)).getD (0, [], [])).2.2.length = 0 from HTK.out]; exact HAP.out⟩ HB4.out hs2 (Nat.le_refl _) hlo2
          | some a =>
            go_wp2_with (at_builtin; refine wpList_app_any rfl (.tmp 34) (.tmp 37) rfl rfl (some a) d c b o (s.take d) rfl (H3.out.take (by omega)) (by omega) ?_)
            intro A4 c4 w4 hO4 hB4
            have HO4 := Lib.hid hO4
            have HO3 := Lib.hid (owns_below HO.out hB4)
            have HB4 := Lib.hid (below_more HB3.out hB4)
            have HBW4 := Lib.hid (HBW3.out.below hB4)
            obtain ⟨x0, x1, x2⟩ := HBW4.out.c
            have fz := HBW4.out.fz
            have HAP := Lib.hid (show Apart (.slice A3 t.length c3) (.slice A4 d c4) from by
              rcases hob : (Value.slice A3 t.length c3).ownBlock with _ | g
              · exact .inl hob
              · refine .inr (fun e => ?_)
                rw [hob] at e
                have h1 := (HO.out.lt g hob).2
                have h2 := (hO4.lt g e.symm).1
                omega)
            clear hO4 hB4
            go_wp2_with (fail)
            refine bodyPost_ret (v := .tuple #[.agg #[.int .i64 p, .slice A3 t.length c3, .slice A4 d c4], .bool true]) (by simp [results, Try.f9, go_sem, x0, x1, x2]) rfl ?_
            rw [HS.out]
            exact madeb_put (R := some (p, t, s.take d)) (B := wr.heap.size) (g := w.heap.size) ⟨A3, c3, A4, c4, by rw [show ((some (p, t, s.take d)).getD (0, [], [])).2.2.length = d from HTK.out]; rfl, HO3.out, by rw [show ((some (p, t, s.take d)).getD (0, [], [])).2.2.length = d from HTK.out]; exact owns_mono HO4.out hr3, by rw [show ((some (p, t, s.take d)).getD (0, [], [])).2.2.length = d from HTK.out]; exact HAP.out⟩ HB4.out hs2 (Nat.le_refl _) hlo2
      · have hdi : ¬ (d : Int) < (M : Int) + 1 := by omega
        obtain rfl : d = M + 1 := by omega
        have hdx : ¬ ((M : Int) + 1 ≤ (M : Int)) := by omega
        have HS := Lib.hid (show shortR p s = none by rw [hsh.out, Nat.sub_self]; rfl)
        obtain ⟨x0, x1, x2⟩ := HBW2.out.c
        have fz := HBW2.out.fz
        clear hsh
        go_wp2_with (fail)
        all_goals
          refine bodyPost_ret (v := .tuple #[.agg #[.int .i64 0, .slice none 0 0, .slice none 0 0], .bool false]) (by simp [results, Try.f9, go_sem, x0, x1, x2]) rfl ?_
          rw [HS.out]
          exact madeb_no HB2.out (Nat.le_refl _)
  · skip
    go_wp2_with (go_at_call 18; refine (specSeriesValidB p A n c b o s _ H.out).mono ?_; rintro e w1 ⟨rfl, hB⟩; rw [HV.out]; have HB1 := Lib.hid (below_more HB0.out hB); have HBW1 := Lib.hid (HBW.out.below hB); have H1 := Lib.hid (H.out.below hB); clear hB)
    go_loopw [6] (fun i wr => ∃ d : Nat, d ≤ 6 + 1 ∧ i = .int .i64 (d : Int) ∧ Below w1.heap.size w1 wr ∧ Hid (shortR p s = shortF p s d (6 + 1 - d))) (fun i _ => 6 + 1 - (intOf i).toNat)
    case atStart => exact ⟨0, by omega, rfl, Below.refl _ _, HE.out⟩
    case round =>
      obtain ⟨d, hd, rfl, hbel, hsh⟩ := hrel
      have HB2 := Lib.hid (below_more HB1.out hbel)
      have HBW2 := Lib.hid (HBW1.out.below hbel)
      have H2 := Lib.hid (H1.out.below hbel)
      have HBr := Lib.hid hbel
      clear hbel
      by_cases hlt : d < 6 + 1
      · have hdi : (d : Int) ≤ 6 := by omega
        have hdi2 : (d : Int) ≤ (n : Int) := by omega
        have hdn : d ≤ n := by omega
        have hd6 : d ≤ 6 := by omega
        go_wp2_with (fail)
        refine (l5Times_any p A n c b o s d _ H2.out HV.out hd6 hdn).mono ?_
        rintro e w3 ⟨A3, c3, rfl, hO, hB⟩
        have HB3 := Lib.hid (below_more HB2.out hB)
        have HBr3 := Lib.hid (below_more HBr.out hB)
        have HBW3 := Lib.hid (HBW2.out.below hB)
        have H3 := Lib.hid (H2.out.below hB)
        have hs2 := HB2.out.size
        have hlo2 := HBW2.out.c.lt
        rcases hsol : solveN p s d with _ | t
        · rw [hsol] at hO
          have HS := Lib.hid (show shortR p s = shortF p s (d + 1) (6 + 1 - (d + 1)) by
            have h1 : 6 + 1 - d = (6 + 1 - (d + 1)) + 1 := by omega
            rw [hsh.out, h1, shortF_none hsol])
          clear hO hB hsol hsh
          go_wp2_with (fail)
          go_roundw
          case rel => exact ⟨d + 1, by omega, by go_num, HBr3.out, HS.out⟩
          case measure => simp [intOf]; omega
        · rw [hsol] at hO
          have htl : t.length = d := solveN_len hsol
          have HS := Lib.hid (show shortR p s = some (p, t, s.take d) by
            have h1 : 6 + 1 - d = (6 + 1 - (d + 1)) + 1 := by omega
            rw [hsh.out, h1, shortF_some hsol])
          have HO := Lib.hid (show OI w3 wr.heap.size A3 t.length c3 t from hO)
          have HTK := Lib.hid (show (s.take d).length = d by rw [List.length_take, HSL.out]; omega)
          have hdc : d ≤ c := by omega
          have hw3 := HB3.out.size
          have hr3 := hB.size
          clear hO hB hsol hsh htl
          simp only [Option.getD_some, Option.isSome_some]
          cases A with
          | none =>
            exact absurd (HAN.out rfl) (by omega)
          | some a =>
            go_wp2_with (at_builtin; refine wpList_app_any rfl (.tmp 34) (.tmp 37) rfl rfl (some a) d c b o (s.take d) rfl (H3.out.take (by omega)) (by omega) ?_)
            intro A4 c4 w4 hO4 hB4
            have HO4 := Lib.hid hO4
            have HO3 := Lib.hid (owns_below HO.out hB4)
            have HB4 := Lib.hid (below_more HB3.out hB4)
            have HBW4 := Lib.hid (HBW3.out.below hB4)
            obtain ⟨x0, x1, x2⟩ := HBW4.out.c
            have fz := HBW4.out.fz
            have HAP := Lib.hid (show Apart (.slice A3 t.length c3) (.slice A4 d c4) from by
              rcases hob : (Value.slice A3 t.length c3).ownBlock with _ | g
              · exact .inl hob
              · refine .inr (fun e => ?_)
                rw [hob] at e
                have h1 := (HO.out.lt g hob).2
                have h2 := (hO4.lt g e.symm).1
                omega)
            clear hO4 hB4
            go_wp2_with (fail)
            refine bodyPost_ret (v := .tuple #[.agg #[.int .i64 p, .slice A3 t.length c3, .slice A4 d c4], .bool true]) (by simp [results, Try.f9, go_sem, x0, x1, x2]) rfl ?_
            rw [HS.out]
            exact madeb_put (R := some (p, t, s.take d)) (B := wr.heap.size) (g := w.heap.size) ⟨A3, c3, A4, c4, by rw [show ((some (p, t, s.take d)).getD (0, [], [])).2.2.length = d from HTK.out]; rfl, HO3.out, by rw [show ((some (p, t, s.take d)).getD (0, [], [])).2.2.length = d from HTK.out]; exact owns_mono HO4.out hr3, by rw [show ((some (p, t, s.take d)).getD (0, [], [])).2.2.length = d from HTK.out]; exact HAP.out⟩ HB4.out hs2 (Nat.le_refl _) hlo2
      · have hdi : ¬ (d : Int) < 7 := by omega
        obtain rfl : d = 6 + 1 := by omega
        have hdx : ¬ ((7 : Int) ≤ 6) := by omega
        have HS := Lib.hid (show shortR p s = none by rw [hsh.out, Nat.sub_self]; rfl)
        obtain ⟨x0, x1, x2⟩ := HBW2.out.c
        have fz := HBW2.out.fz
        clear hsh
        go_wp2_with (fail)
        all_goals
          refine bodyPost_ret (v := .tuple #[.agg #[.int .i64 0, .slice none 0 0, .slice none 0 0], .bool false]) (by simp [results, Try.f9, go_sem, x0, x1, x2]) rfl ?_
          rw [HS.out]
          exact madeb_no HB2.out (Nat.le_refl _)
end Go.Proofs.Ytdecaokngedghaa
namespace Go.Proofs.Ytdecaokngedghaa
open Go.RowKit
theorem solFill_num {p : Int} {F : List (List Int)} {hs : List Nat} {d : Nat} (hp : primeB p = true) (hF : VM p (d + 1) F) : ∀ k, k ≤ F.length → ∀ x ∈ solFill F hs d k, numB p x = true
  | 0, _, x, hx => by
    have := List.eq_of_mem_replicate hx
    subst this
    have := numB_emod hp 0
    simpa using this
  | k + 1, hk, x, hx => by
    rcases mem_set_cases hx with h | h
    · exact solFill_num hp hF k (by omega) x h
    · rw [h]; exact hF.at2 (by omega) (by omega)
theorem solveN_num {p : Int} {s t : List Int} {d : Nat} (hp : primeB p = true) (hs : ∀ x ∈ s, numB p x = true) (h : solveN p s d = some t) : ∀ x ∈ t, numB p x = true := by
  unfold solveN at h
  split at h
  · cases h
  · obtain rfl := Option.some.inj h
    have hi := elim_inv hp (eqM_vm (d := d) hs) (d + 1)
    exact solFill_num hp hi.2.1 _ (by rw [hi.1]; exact hi.2.2.1)
theorem shortF_rec {p : Int} {s : List Int} (hv : serB p s = true) : ∀ (f d : Nat) (x : Int × List Int × List Int), d + f ≤ min s.length 6 + 1 → shortF p s d f = some x → recB x.1 x.2.1 x.2.2 = true ∧ x.1 = p
  | 0, d, x, _, h => by cases h
  | f + 1, d, x, hd, h => by
    rcases hs : solveN p s d with _ | t
    · rw [shortF_none hs] at h
      exact shortF_rec hv f (d + 1) x (by omega) h
    · rw [shortF_some hs] at h
      obtain rfl := Option.some.inj h
      obtain ⟨hp, h24, hx⟩ := serB_true hv
      have hl := solveN_len hs
      have hn := solveN_num hp hx hs
      refine ⟨?_, rfl⟩
      show recB p t (s.take d) = true
      exact recB_mk hp (by omega) (by rw [hl, List.length_take]; omega) hn (fun y hy => hx y (List.mem_of_mem_take hy))
theorem shortR_rec {p : Int} {s : List Int} {q : Int} {t f : List Int} (h : shortR p s = some (q, t, f)) : recB p t f = true ∧ q = p ∧ serB p s = true := by
  unfold shortR at h
  split at h
  · rename_i hv
    obtain ⟨h1, h2⟩ := shortF_rec hv _ 0 _ (by omega) h
    simp only at h1 h2
    subst h2
    exact ⟨h1, rfl, hv⟩
  · cases h
def guessR (p : Int) (s : List Int) (x : Int) : Int × Bool :=
  match shortR p s with
  | some r => if 0 ≤ x ∧ x ≤ 6 ∧ (r.2.2.length : Int) ≤ x then (stm p r.2.1 r.2.2 s.length, decide (2 * x ≤ (s.length : Int))) else (-1, false)
  | none => (-1, false)
theorem guess_no {p : Int} {s : List Int} {x : Int} (h : ¬ (0 ≤ x ∧ x ≤ 6)) : guessR p s x = (-1, false) := by
  unfold guessR
  split
  · rw [if_neg (fun e => h ⟨e.1, e.2.1⟩)]
  · rfl
set_option maxRecDepth 100000 in
set_option maxHeartbeats 4000000 in
theorem implGuessOf (p : Int) (A : Option Addr) (n c b o : Nat) (s : List Int) (x : Int) (w : World) (h : IA w A n b o s) (hcp : n ≤ c) :
    Calls Try.prog 20 #[.int .i64 p, .slice A n c, .int .i64 x] w fun e w' => e = .returned (.tuple #[.int .i64 (guessR p s x).1, .bool (guessR p s x).2]) ∧ Below w.heap.size w w' := by
  have hlen := h.len
  have H := Lib.hid h
  by_cases hx : 0 ≤ x ∧ x ≤ 6
  case neg =>
    have HE := Lib.hid (guess_no (p := p) (s := s) hx)
    have hc : x < 0 ∨ (¬ x < 0 ∧ 6 < x) := by omega
    clear hx h
    rcases hc with hc | ⟨hc, hc2⟩
    all_goals
      go_enter Try.func20, Try.ntmps20
      go_wp2_with (fail)
      go_ret2
      rw [HE.out]
      exact ⟨rfl, Below.refl _ _⟩
  obtain ⟨X, rfl⟩ : ∃ X : Nat, x = (X : Int) := ⟨x.toNat, by omega⟩
  have hX6 : X ≤ 6 := by omega
  have HSL := Lib.hid hlen
  clear h hx
  go_enter Try.func20, Try.ntmps20
  go_wp2_with (fail)
  refine (implShortestRec p A n c b o s _ H.out hcp).mono ?_
  rintro e w1 ⟨v, rfl, hO, hB⟩
  have HB1 := Lib.hid hB
  rcases hsh : shortR p s with _ | ⟨q, t, f⟩
  · have HE := Lib.hid (show guessR p s (X : Int) = (-1, false) by unfold guessR; rw [hsh])
    rw [hsh] at hO
    obtain ⟨A3, c3, A4, c4, rfl, _, _, _⟩ := hO
    clear hsh hB
    simp only [Option.isSome_none, Option.getD_none]
    go_wp2_with (fail)
    go_ret2
    rw [HE.out]
    exact ⟨rfl, HB1.out.trans ((below_new w1 _).mono HB1.out.size)⟩
  · obtain ⟨hrec, rfl, hv⟩ := shortR_rec hsh
    have h24 := (serB_true hv).2.1
    rw [hlen] at h24
    rw [hsh] at hO
    obtain ⟨A3, c3, A4, c4, rfl, hO1, hO2, hap⟩ := hO
    have HRV := Lib.hid (show RV w1 (.agg #[.int .i64 q, .slice A3 t.length c3, .slice A4 f.length c4]) q t f from RO.rv ⟨A3, c3, A4, c4, rfl, hO1, hO2, hap⟩)
    have HREC := Lib.hid hrec
    by_cases hl : f.length ≤ X
    · have HE := Lib.hid (show guessR q s (X : Int) = (stm q t f n, decide (2 * (X : Int) ≤ (n : Int))) by unfold guessR; rw [hsh]; simp only; rw [if_pos ⟨by omega, by omega, by omega⟩, hlen])
      have HF := Lib.hid (show farO q t f (n : Int) = stm q t f n by unfold farO; rw [if_pos ⟨hrec, by omega, by omega⟩]; rfl)
      have hl2 : ¬ (X : Int) < (f.length : Int) := by omega
      have hw1 : IntKind.i64.wrap (2 * (X : Int)) = 2 * (X : Int) := IntWalk.i64_in _ ⟨by omega, by omega⟩
      have HRB := Lib.hid (HRV.out.below (below_new w1 (.cells #[.int .i64 q, .slice A3 t.length c3, .slice A4 f.length c4] 27)))
      clear hsh hO1 hO2 hap hB hv hrec
      simp only [Option.isSome_some, Option.getD_some]
      go_wp2_with (go_at_call 49; refine (implRecFar _ q t f (n : Int) _ HRB.out).mono ?_; rw [HF.out]; rintro e w2 ⟨rfl, hB⟩; have HB2 := Lib.hid ((HB1.out.trans ((below_new w1 _).mono HB1.out.size)) |> fun h => below_more h hB); clear hB)
      go_ret2
      rw [HE.out]
      exact ⟨rfl, HB2.out⟩
    · have HE := Lib.hid (show guessR q s (X : Int) = (-1, false) by unfold guessR; rw [hsh]; simp only; rw [if_neg (fun e => by have := e.2.2; omega)])
      have hl2 : (X : Int) < (f.length : Int) := by omega
      clear hsh hO1 hO2 hap hB hv hrec
      simp only [Option.isSome_some, Option.getD_some]
      go_wp2_with (fail)
      go_ret2
      rw [HE.out]
      exact ⟨rfl, HB1.out.trans ((below_new w1 _).mono HB1.out.size)⟩
set_option maxRecDepth 100000 in
set_option maxHeartbeats 4000000 in
theorem specGuessOf (p : Int) (A : Option Addr) (n c b o : Nat) (s : List Int) (x : Int) (w : World) (h : IA w A n b o s) (hcp : n ≤ c) :
    Calls Try.prog 21 #[.int .i64 p, .slice A n c, .int .i64 x] w fun e w' => e = .returned (.tuple #[.int .i64 (guessR p s x).1, .bool (guessR p s x).2]) ∧ Below w.heap.size w w' := by
  have hlen := h.len
  have H := Lib.hid h
  have HSL := Lib.hid hlen
  obtain ⟨ix, hix⟩ : ∃ i, inB x 0 6 = i := ⟨_, rfl⟩
  have HIX := Lib.hid hix
  clear h
  go_enter Try.func21, Try.ntmps21
  go_wp2_with (fail)
  refine (specShortestRec p A n c b o s _ H.out hcp).mono ?_
  rintro e w1 ⟨v, rfl, hO, hB⟩
  have HB1 := Lib.hid hB
  rcases hsh : shortR p s with _ | ⟨q, t, f⟩
  · have HE := Lib.hid (show guessR p s x = (-1, false) by unfold guessR; rw [hsh])
    rw [hsh] at hO
    obtain ⟨A3, c3, A4, c4, rfl, _, _, _⟩ := hO
    clear hsh hB hix
    simp only [Option.isSome_none, Option.getD_none]
    go_wp2_with (fail)
    go_ret2
    rw [HE.out]
    exact ⟨rfl, HB1.out.trans ((below_new w1 _).mono HB1.out.size)⟩
  · obtain ⟨hrec, rfl, hv⟩ := shortR_rec hsh
    have h24 := (serB_true hv).2.1
    rw [hlen] at h24
    rw [hsh] at hO
    obtain ⟨A3, c3, A4, c4, rfl, hO1, hO2, hap⟩ := hO
    have HRV := Lib.hid (show RV w1 (.agg #[.int .i64 q, .slice A3 t.length c3, .slice A4 f.length c4]) q t f from RO.rv ⟨A3, c3, A4, c4, rfl, hO1, hO2, hap⟩)
    have HREC := Lib.hid hrec
    cases ix with
    | false =>
      have HE := Lib.hid (guess_no (p := q) (s := s) (x := x) (fun e => by unfold inB at hix; rw [decide_eq_true e.1, decide_eq_true e.2] at hix; cases hix))
      clear hsh hO1 hO2 hap hB hv hrec hix
      simp only [Option.isSome_some, Option.getD_some]
      go_wp2_with (go_at_call 50; refine (specIn x _ _ _).mono ?_; rintro e w2 ⟨rfl, rfl⟩; rw [HIX.out])
      go_ret2
      rw [HE.out]
      exact ⟨rfl, HB1.out.trans ((below_new w1 _).mono HB1.out.size)⟩
    | true =>
      have hx : 0 ≤ x ∧ x ≤ 6 := by unfold inB at hix; simpa using hix
      obtain ⟨X, rfl⟩ : ∃ X : Nat, x = (X : Int) := ⟨x.toNat, by omega⟩
      have hX6 : X ≤ 6 := by omega
      by_cases hl : f.length ≤ X
      · have HE := Lib.hid (show guessR q s (X : Int) = (stm q t f n, decide (2 * (X : Int) ≤ (n : Int))) by unfold guessR; rw [hsh]; simp only; rw [if_pos ⟨by omega, by omega, by omega⟩, hlen])
        have hl2 : ¬ (X : Int) < (f.length : Int) := by omega
        have hw1 : IntKind.i64.wrap (2 * (X : Int)) = 2 * (X : Int) := IntWalk.i64_in _ ⟨by omega, by omega⟩
        have hw2 : IntKind.i64.wrap ((n : Int) + 1) = (n : Int) + 1 := IntWalk.i64_in _ ⟨by omega, by omega⟩
        have HRB := Lib.hid (HRV.out.below (below_new w1 (.cells #[.int .i64 q, .slice A3 t.length c3, .slice A4 f.length c4] 27)))
        have HL3 := Lib.hid (show ∀ (W : World) (v : Value), RV W v q t f → Calls Try.prog 51 #[v, .int .i64 ((n : Int) + 1)] W (MadeI (n + 1) (trm q t f (n + 1)) W) from fun W v h => by
          have := specL3 v q t f (n + 1) W h hrec (by omega)
          rwa [show ((n + 1 : Nat) : Int) = (n : Int) + 1 by omega] at this)
        have hnl : (n : Int) < (n : Int) + 1 := by omega
        have hnl2 : n < n + 1 := by omega
        clear hsh hO1 hO2 hap hB hv hrec hix hx
        simp only [Option.isSome_some, Option.getD_some]
        go_wp2_with (first
          | (go_at_call 50; refine (specIn (X : Int) _ _ _).mono ?_; rintro e w2 ⟨rfl, rfl⟩; rw [HIX.out])
          | (go_at_call 51; refine (HL3.out _ _ HRB.out).mono ?_; rintro e w2 ⟨A5, c5, rfl, hO, hB⟩; obtain ⟨b5, hI⟩ := hO.ia; obtain rfl := hI.adr (by omega); obtain ⟨y, hy, hc⟩ := hI.cell n (by omega); rw [Nat.zero_add] at hc; have HY := Lib.hid (show stm q t f n = y from getD_at hy); have HB2 := Lib.hid (below_more (HB1.out.trans ((below_new w1 _).mono HB1.out.size)) hB); clear hO hB hI hy))
        go_ret2
        rw [HE.out, HY.out]
        exact ⟨rfl, HB2.out⟩
      · have HE := Lib.hid (show guessR q s (X : Int) = (-1, false) by unfold guessR; rw [hsh]; simp only; rw [if_neg (fun e => by have := e.2.2; omega)])
        have hl2 : (X : Int) < (f.length : Int) := by omega
        clear hsh hO1 hO2 hap hB hv hrec hix hx
        simp only [Option.isSome_some, Option.getD_some]
        go_wp2_with (go_at_call 50; refine (specIn (X : Int) _ _ _).mono ?_; rintro e w2 ⟨rfl, rfl⟩; rw [HIX.out])
        go_ret2
        rw [HE.out]
        exact ⟨rfl, HB1.out.trans ((below_new w1 _).mono HB1.out.size)⟩
end Go.Proofs.Ytdecaokngedghaa
namespace Go.Proofs.Ytdecaokngedghaa
open Go.RowKit
theorem solveN_W {p : Int} {s : List Int} {d : Nat} : solveN p s d = solveW p (eqM s d) d := by
  unfold solveN
  by_cases h : d ∈ (elim p (eqM s d) (d + 1)).2
  · rw [if_pos h]
    obtain ⟨i, hi, he⟩ := List.getElem_of_mem h
    exact (solve_none hi (by rw [List.getD_eq_getElem?_getD, List.getElem?_eq_getElem hi]; exact he)).symm
  · rw [if_neg h]
    exact (solve_some (fun q hq e => h (by have := getD_mem_nat hq; rwa [e] at this))).symm
theorem solveW_sound {p : Int} {l : Nat} {W : List (List Int)} (hp : primeB p = true) (hVW : VM p (l + 1) W) {x : List Int} (hx : solveW p W l = some x) : x.length = l ∧ ∀ i, i < W.length → sigN l (fun j => at2 W i j * x.getD j 0) % p = at2 W i l := by
  have hpb := prime_ge hp
  have hRW := elim_red hp hVW l (by omega)
  have hEW := fun v => elim_ker hp hVW v l (by omega)
  rcases hf : firstW (elim p W l).1 l ((elim p W l).1.length - (elim p W l).2.length) (elim p W l).2.length with _ | r
  · rw [solveW_yes hf] at hx
    obtain rfl := (Option.some.inj hx).symm
    refine ⟨solFill_len _ _ _ _, fun i hi => ?_⟩
    obtain ⟨i1, i2, i3, _⟩ := elim_inv hp hVW l
    obtain ⟨F, hF⟩ : ∃ F, (elim p W l).1 = F := ⟨_, rfl⟩
    obtain ⟨hs, hHS⟩ : ∃ hs, (elim p W l).2 = hs := ⟨_, rfl⟩
    rw [hF, hHS] at hRW hf
    rw [hF] at hEW i1
    rw [hHS] at i3
    rw [hF, hHS]
    obtain ⟨x, hx⟩ : ∃ x : Nat → Int, x = fun j => (solFill F hs l hs.length).getD j 0 := ⟨_, rfl⟩
    have hxh : ∀ q, q < hs.length → x (hs.getD q 0) = at2 F q l := fun q hq => by rw [hx]; exact solFill_head hRW.lt hRW.inc _ (Nat.le_refl _) q hq
    have hx0 : ∀ j, (∀ q, q < hs.length → hs.getD q 0 ≠ j) → x j = 0 := fun j hj => by rw [hx]; exact solFill_off _ hj
    have hk := (hEW (fun j => if j < l then x j else -1)).1 (fun i hi => by
      show p ∣ sigN l (fun j => at2 F i j * (if j < l then x j else -1)) + at2 F i l * (if l < l then x l else -1)
      rw [if_neg (by omega), sigN_congr (g := fun j => at2 F i j * x j) (fun j hj => by rw [if_pos hj])]
      rw [sigN_heads (fun k => hs.getD k 0) (m := hs.length) hRW.lt hRW.inc (fun j _ hne => by rw [hx0 j hne]; simp)]
      by_cases hi2 : i < hs.length
      · rw [sigN_one hi2 (fun k hk hne => by rw [hRW.one k hk i hi, if_neg (fun e => hne e.symm)]; simp), hRW.one i hi2 i hi, if_pos rfl, hxh i hi2]
        rw [show 1 * at2 F i l + at2 F i l * -1 = 0 by omega]
        exact Int.dvd_zero p
      · rw [sigN_zero (fun k hk => by rw [hRW.one k hk i hi, if_neg (by omega)]; simp), firstW_none hf i (by omega) (by rw [i1]; omega)]
        simp) i hi
    have hk2 : p ∣ sigN l (fun j => at2 W i j * (if j < l then x j else -1)) + at2 W i l * (if l < l then x l else -1) := hk
    rw [if_neg (by omega), sigN_congr (g := fun j => at2 W i j * x j) (fun j hj => by rw [if_pos hj])] at hk2
    have hb := numB_true (hVW.at2 hi (show l < l + 1 by omega))
    rw [show (fun j => at2 W i j * (solFill F hs l hs.length).getD j 0) = fun j => at2 W i j * x j by rw [hx]]
    have h4 := mod_of_near (p := p) (x := sigN l (fun j => at2 W i j * x j)) (y := at2 W i l) (by rwa [show sigN l (fun j => at2 W i j * x j) - at2 W i l = sigN l (fun j => at2 W i j * x j) + at2 W i l * -1 by omega])
    rw [h4]
    exact Int.emod_eq_of_lt hb.2.1 hb.2.2
  · rw [solveW_no hf] at hx
    cases hx
theorem solveW_some {p : Int} {l : Nat} {W : List (List Int)} (hp : primeB p = true) (hVW : VM p (l + 1) W) (y : Nat → Int) (hy : ∀ i, i < W.length → p ∣ sigN l (fun j => at2 W i j * y j) - at2 W i l) : ∃ x, solveW p W l = some x := by
  have hpb := prime_ge hp
  rcases hf : firstW (elim p W l).1 l ((elim p W l).1.length - (elim p W l).2.length) (elim p W l).2.length with _ | r
  · exact ⟨_, solveW_yes hf⟩
  · exfalso
    have hRW := elim_red hp hVW l (by omega)
    have hEW := elim_ker hp hVW (fun j => if j < l then y j else -1) l (by omega)
    obtain ⟨i1, i2, i3, _⟩ := elim_inv hp hVW l
    obtain ⟨f1, f2, f3, _⟩ := firstW_some hf
    have hr : r < W.length := by omega
    have hk := hEW.2 (fun i hi => by
      show p ∣ sigN l (fun j => at2 W i j * (if j < l then y j else -1)) + at2 W i l * (if l < l then y l else -1)
      rw [if_neg (by omega), sigN_congr (g := fun j => at2 W i j * y j) (fun j hj => by rw [if_pos hj])]
      have := hy i hi
      rwa [show sigN l (fun j => at2 W i j * y j) - at2 W i l = sigN l (fun j => at2 W i j * y j) + at2 W i l * -1 by omega] at this) r hr
    have hk2 : p ∣ sigN l (fun j => at2 (elim p W l).1 r j * (if j < l then y j else -1)) + at2 (elim p W l).1 r l * (if l < l then y l else -1) := hk
    rw [if_neg (by omega), sigN_zero (fun j hj => by rw [hRW.low r f1 hr j hj]; simp)] at hk2
    have hb := numB_true (i2.at2 (i := r) (j := l) (by rw [i1]; exact hr) (by omega))
    have h1 : p ∣ at2 (elim p W l).1 r l := by
      obtain ⟨c, hc⟩ := hk2
      exact ⟨-c, by rw [Int.mul_neg, ← hc]; omega⟩
    have h2 := Int.le_of_dvd (by have := hb.2.1; omega) h1
    have := hb.2.2
    omega
theorem eq_at {s : List Int} {d i : Nat} (hi : i < s.length - d) : (∀ j, j < d → at2 (eqM s d) i j = s.getD (i + d - 1 - j) 0) ∧ at2 (eqM s d) i d = s.getD (i + d) 0 := by
  have hr := eqM_get s d hi
  refine ⟨fun j hj => ?_, ?_⟩
  · have h1 := eqRow_low (s := s) (d := d) (i := i) (t := j) (by omega) hj
    have hb : i + d - 1 - j < s.length := by omega
    rw [List.getElem?_eq_getElem hb] at h1
    rw [at2_of hr h1, List.getD_eq_getElem?_getD, List.getElem?_eq_getElem]; rfl
  · have h1 := eqRow_top (s := s) (d := d) (i := i) (by omega)
    have hb : i + d < s.length := by omega
    rw [List.getElem?_eq_getElem hb] at h1
    rw [at2_of hr h1, List.getD_eq_getElem?_getD, List.getElem?_eq_getElem]; rfl
theorem solveN_some {p : Int} {s : List Int} {T F : List Int} (h : recB p T F = true) (hs : serB p s = true) (hb : ∀ k, k < s.length → s.getD k 0 = stm p T F k) : ∃ t, solveN p s T.length = some t := by
  obtain ⟨hp, h6, hl, hT, hF⟩ := recB_true h
  obtain ⟨_, _, hx⟩ := serB_true hs
  rw [solveN_W]
  refine solveW_some hp (eqM_vm hx) (fun j => co T j) (fun i hi => ?_)
  rw [eqM_len] at hi
  obtain ⟨e1, e2⟩ := eq_at hi
  rw [e2, hb _ (by omega), stm_next p T F hl (by omega), sigN_congr (g := fun j => co T j * stm p T F (i + T.length - 1 - j)) (fun j hj => by rw [e1 j hj, hb _ (by omega), Int.mul_comm])]
  have := near_mod p (sigN T.length (fun j => co T j * stm p T F (i + T.length - 1 - j)))
  obtain ⟨c, hc⟩ := this
  exact ⟨-c, by rw [Int.mul_neg, ← hc]; omega⟩
theorem solveN_begins {p : Int} {s t : List Int} {d : Nat} (hs : serB p s = true) (hd : d ≤ s.length) (h : solveN p s d = some t) : ∀ k, k < s.length → stm p t (s.take d) k = s.getD k 0 := by
  obtain ⟨hp, _, hx⟩ := serB_true hs
  rw [solveN_W] at h
  obtain ⟨hl, he⟩ := solveW_sound hp (eqM_vm hx) h
  have htl : (s.take d).length = d := by rw [List.length_take]; omega
  intro k
  induction k using Nat.strongRecOn with
  | ind k ih =>
    intro hk
    by_cases hkd : k < d
    · rw [stm_low p t (s.take d) (by omega)]
      show (s.take d).getD k 0 = s.getD k 0
      rw [List.getD_eq_getElem?_getD, List.getElem?_take_of_lt hkd, ← List.getD_eq_getElem?_getD]
    · rw [stm_next p t (s.take d) (by omega) (by omega), hl]
      have hi : k - d < s.length - d := by omega
      obtain ⟨e1, e2⟩ := eq_at hi
      have h1 := he (k - d) (by rw [eqM_len]; exact hi)
      rw [e2, show k - d + d = k by omega] at h1
      rw [← h1]
      congr 1
      refine sigN_congr (fun j hj => ?_)
      rw [e1 j hj, ih (k - 1 - j) (by omega) (by omega), show k - d + d - 1 - j = k - 1 - j by omega]
      exact Int.mul_comm _ _
theorem shortF_found {p : Int} {s : List Int} {L : Nat} {t : List Int} (h : solveN p s L = some t) : ∀ (f d : Nat), d ≤ L → L < d + f → ∃ k u, k ≤ L ∧ d ≤ k ∧ solveN p s k = some u ∧ shortF p s d f = some (p, u, s.take k)
  | 0, d, h1, h2 => by omega
  | f + 1, d, h1, h2 => by
    rcases hs : solveN p s d with _ | u
    · rw [shortF_none hs]
      by_cases e : d = L
      · subst e; rw [h] at hs; cases hs
      · obtain ⟨k, u, k1, k2, k3, k4⟩ := shortF_found h f (d + 1) (by omega) (by omega)
        exact ⟨k, u, k1, by omega, k3, k4⟩
    · exact ⟨d, u, h1, Nat.le_refl _, hs, shortF_some hs⟩
/-- of the first numbers of a stream, at least twice as many as its recurrence has, the shortest recurrence has the stream -/
theorem short_sure {p : Int} {T F : List Int} {m : Nat} (h : recB p T F = true) (hm : m ≤ 24) (h2 : 2 * T.length ≤ m) : ∃ k u, k ≤ T.length ∧ shortR p (trm p T F m) = some (p, u, (trm p T F m).take k) ∧ u.length = k ∧ ∀ j, stm p u ((trm p T F m).take k) j = stm p T F j := by
  obtain ⟨hp, h6, hl, hT, hF⟩ := recB_true h
  have hs : serB p (trm p T F m) = true := serB_mk hp (by rw [trm_len]; exact hm) (trm_num h m)
  have hb : ∀ k, k < (trm p T F m).length → (trm p T F m).getD k 0 = stm p T F k := fun k hk => by
    rw [trm_len] at hk
    rw [trm_map, List.getD_eq_getElem?_getD, List.getElem?_map, List.getElem?_range hk]; rfl
  obtain ⟨t, ht⟩ := solveN_some h hs hb
  obtain ⟨k, u, k1, _, k3, k4⟩ := shortF_found ht (min (trm p T F m).length 6 + 1) 0 (by omega) (by rw [trm_len]; omega)
  have hR : shortR p (trm p T F m) = some (p, u, (trm p T F m).take k) := by unfold shortR; rw [if_pos hs]; exact k4
  have hkl : k ≤ (trm p T F m).length := by rw [trm_len]; omega
  have hrec := (shortR_rec hR).1
  have hul := solveN_len k3
  refine ⟨k, u, k1, hR, hul, same_law hrec h (fun j hj => ?_)⟩
  rw [solveN_begins hs hkl k3 j (by rw [trm_len]; omega), hb j (by rw [trm_len]; omega)]
end Go.Proofs.Ytdecaokngedghaa

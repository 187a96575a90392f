/-
  Plain mathematics: the answers of the functions of fractions.
  The contracts of commonDivisor, lowestTerms, leastFrac.
  The contract of lowestTerms.
  The contract of leastFrac.
  append of a row that is read, whatever address an empty one has, behind an empty row of the call's own.
  The contract of the model's l2Divide.
  The contract of the model's l4Least.
  The contracts of FracLeast, of both sides.
-/
import Derived.Test.YtecmclaockmgeaaDoorLeM
import Derived.Deep.RegionHeld3
import Derived.Test.YtecmclaockmgeaaDoorFrV
import Derived.Test.YtecmclaockmgeaaDoorDvI
import Derived.OwnWalk
import Derived.Test.YtecmclaockmgeaaDoorEx
import Derived.Test.YtecmclaockmgeaaDoorRules
import Derived.Test.YtecmclaockmgeaaDoorApp
import Derived.Test.YtecmclaockmgeaaDoorTurnS
import Derived.Laws.AppendOwnNone
import Derived.Test.YtecmclaockmgeaaDoorSub
import Derived.Test.YtecmclaockmgeaaDoorPAdd
import Derived.Test.YtecmclaockmgeaaDoorTail
import Derived.Deep.DeepCutAuto
import Derived.Test.YtecmclaockmgeaaDoorBxs
import Derived.Test.YtecmclaockmgeaaDoorFrW
namespace Go.Proofs.YtecmclaockmgeaaDoor
def leastR (p : Int) (up low : List Int) : Option (Int × List Int × List Int) := (leastO p up low).map fun x => (p, x.1, x.2)
theorem leastR_len (p : Int) (up low : List Int) : ((leastR p up low).getD (0, [], [])).2.1.length ≤ 1048576 ∧ ((leastR p up low).getD (0, [], [])).2.2.length ≤ 1048576 := by
  unfold leastR leastO
  split
  · rename_i h
    show (leastL p up low).1.length ≤ _ ∧ (leastL p up low).2.length ≤ _
    omega
  · simp
theorem leastR_yes {p : Int} {up low : List Int} (h0 : low.length ≠ 0) (hz : co low 0 ≠ 0) (h1 : (leastL p up low).1.length ≤ 12) (h2 : (leastL p up low).2.length ≤ 12) : leastR p up low = some (p, (leastL p up low).1, (leastL p up low).2) := by
  unfold leastR leastO; rw [if_pos ⟨h0, hz, h1, h2⟩]; rfl
theorem leastR_frac {p : Int} {U L : List Int} (h : fracB p U L = true) : leastR p U L = some (p, (leastL p U L).1, (leastL p U L).2) := by
  obtain ⟨hu, hl, h1, h2, h3, h4⟩ := fracB_true h
  obtain ⟨_, _, _, _, l1, l2⟩ := least_law hu hl h3 h4
  exact leastR_yes h3 h4 (by omega) (by omega)
/-- a product of two lower polynomials -/
theorem low_times {p : Int} {L L' : List Int} (hl : polB p L = true) (hl' : polB p L' = true) (h1 : L.length ≤ 12) (h1' : L'.length ≤ 12) (h3 : L.length ≠ 0) (h3' : L'.length ≠ 0) (h4 : co L 0 ≠ 0) (h4' : co L' 0 ≠ 0) :
    trimL (tmsL p L L') = tmsL p L L' ∧ polB p (tmsL p L L') = true ∧ (tmsL p L L').length ≠ 0 ∧ co (tmsL p L L') 0 ≠ 0 := by
  have hn : tmsN L L' = L.length + L'.length - 1 := by unfold tmsN; rw [if_neg (by omega)]
  refine ⟨trim_pol (tmsL_last hl hl'), tmsL_pol hl hl' (by omega), by rw [tmsL_len]; omega, fun hz => ?_⟩
  rw [co_tmsL, cv_at0] at hz
  obtain ⟨hp, _, _⟩ := serB_true (polB_ser hl)
  have b1 := co_bd (polB_ser hl) 0
  have b2 := co_bd (polB_ser hl') 0
  rcases times_zero (numB_mk hp b1.1 b1.2) (numB_mk hp b2.1 b2.2) hz with h | h
  · exact h4 h
  · exact h4' h
theorem tms_pol {p : Int} {f g : List Int} (hf : polB p f = true) (hg : polB p g = true) (h1 : f.length ≤ 12) (h2 : g.length ≤ 12) : trimL (tmsL p f g) = tmsL p f g ∧ polB p (tmsL p f g) = true ∧ (tmsL p f g).length ≤ 23 := by
  have hn : tmsN f g ≤ 23 := by unfold tmsN; split <;> omega
  exact ⟨trim_pol (tmsL_last hf hg), tmsL_pol hf hg (by omega), by rw [tmsL_len]; exact hn⟩
theorem add_pol {p : Int} {f g : List Int} (t : Int) (hf : polB p f = true) (hg : polB p g = true) : polB p (addL p f g t) = true := addL_pol t (polB_ser hf) (polB_ser hg)
def fracLeastR (p : Int) (U L : List Int) : Int × List Int × List Int := if fracB p U L = true then (p, (leastL p U L).1, (leastL p U L).2) else (0, [], [])
theorem fracLeastR_len (p : Int) (U L : List Int) : (fracLeastR p U L).2.1.length ≤ 1048576 ∧ (fracLeastR p U L).2.2.length ≤ 1048576 := by
  unfold fracLeastR
  split
  · rename_i h
    obtain ⟨hu, hl, h1, h2, h3, h4⟩ := fracB_true h
    obtain ⟨_, _, _, _, l1, l2⟩ := least_law hu hl h3 h4
    show (leastL p U L).1.length ≤ _ ∧ (leastL p U L).2.length ≤ _
    omega
  · simp
theorem fracLeastR_eq {p : Int} {U L : List Int} (h : fracB p U L = true) : leastR p U L = some (fracLeastR p U L) := by
  rw [leastR_frac h]; unfold fracLeastR; rw [if_pos h]
def bothB (p : Int) (U L : List Int) (p' : Int) (U' L' : List Int) : Bool := fracB p U L && (fracB p' U' L' && decide (p = p'))
theorem bothB_true {p p' : Int} {U L U' L' : List Int} (h : bothB p U L p' U' L' = true) : fracB p U L = true ∧ fracB p' U' L' = true ∧ p = p' := by
  unfold bothB at h
  simp only [Bool.and_eq_true, decide_eq_true_eq] at h
  exact ⟨h.1, h.2.1, h.2.2⟩
def fracAddR (p : Int) (U L : List Int) (p' : Int) (U' L' : List Int) : Option (Int × List Int × List Int) := if bothB p U L p' U' L' = true then leastR p (addL p (tmsL p U L') (tmsL p U' L) 1) (tmsL p L L') else none
def fracTimesR (p : Int) (U L : List Int) (p' : Int) (U' L' : List Int) : Option (Int × List Int × List Int) := if bothB p U L p' U' L' = true then leastR p (tmsL p U U') (tmsL p L L') else none
def fracBackR (p : Int) (U L : List Int) : Option (Int × List Int × List Int) := if fracB p U L = true then leastR p L U else none
def fracSameR (p : Int) (U L : List Int) (p' : Int) (U' L' : List Int) : Bool := bothB p U L p' U' L' && decide (tmsL p U L' = tmsL p U' L)
theorem ifR_len (b : Bool) (p : Int) (up low : List Int) : ((if b = true then leastR p up low else none).getD (0, [], [])).2.1.length ≤ 1048576 ∧ ((if b = true then leastR p up low else none).getD (0, [], [])).2.2.length ≤ 1048576 := by
  split
  · exact leastR_len p up low
  · simp
theorem fracAddR_len (p : Int) (U L : List Int) (p' : Int) (U' L' : List Int) : ((fracAddR p U L p' U' L').getD (0, [], [])).2.1.length ≤ 1048576 ∧ ((fracAddR p U L p' U' L').getD (0, [], [])).2.2.length ≤ 1048576 := ifR_len _ _ _ _
theorem fracTimesR_len (p : Int) (U L : List Int) (p' : Int) (U' L' : List Int) : ((fracTimesR p U L p' U' L').getD (0, [], [])).2.1.length ≤ 1048576 ∧ ((fracTimesR p U L p' U' L').getD (0, [], [])).2.2.length ≤ 1048576 := ifR_len _ _ _ _
theorem fracBackR_len (p : Int) (U L : List Int) : ((fracBackR p U L).getD (0, [], [])).2.1.length ≤ 1048576 ∧ ((fracBackR p U L).getD (0, [], [])).2.2.length ≤ 1048576 := ifR_len _ _ _ _
theorem sub_nil {p : Int} {X Y : List Int} (hX : polB p X = true) (hY : polB p Y = true) : decide ((addL p X Y (p - 1)).length = 0) = decide (X = Y) := by
  rw [Bool.eq_iff_iff, decide_eq_true_eq, decide_eq_true_eq]
  constructor
  · intro h0
    refine pol_ext' hX hY fun k => co_near (polB_ser hX) (polB_ser hY) ?_
    have h1 : co (addL p X Y (p - 1)) k = 0 := co_far (by omega)
    rw [co_addL] at h1
    have h2 := near_mod p (co X k + (p - 1) * co Y k)
    rw [h1] at h2
    have h3 := Int.dvd_add (near_symm h2) (Int.dvd_mul_right p (-(co Y k)))
    rwa [show co X k + (p - 1) * co Y k - 0 + p * -(co Y k) = co X k - co Y k by grind] at h3
  · rintro rfl
    have e : addL p X X (p - 1) = [] := pol_ext (trim_last _) (.inl rfl) fun k => by
      show co (addL p X X (p - 1)) k = _
      rw [co_addL, co_far (f := []) (by simp), show co X k + (p - 1) * co X k = p * co X k by grind]
      exact Int.mul_emod_right _ _
    rw [e]; rfl
end Go.Proofs.YtecmclaockmgeaaDoor
namespace Go.Proofs.YtecmclaockmgeaaDoor
open Go.RowKit
theorem OT.it2 {w : World} {B n c : Nat} {A : Option Addr} {p : Int} {xs : List Int} (h : OT w B A n c p xs) : ∃ b, IT w A n c b p xs := OT.it h
set_option maxRecDepth 100000 in
set_option maxHeartbeats 2000000 in
theorem commonDivisor_any (p : Int) (A : Option Addr) (n c b : Nat) (f : List Int) (A' : Option Addr) (n' c' b' : Nat) (g : List Int) (w : World) (h : IT w A n c b p f) (h' : IT w A' n' c' b' p g) (hf : polB p f = true) (hg : polB p g = true) :
    Calls Tryd.prog 76 #[.slice A n c, .slice A' n' c'] w fun e w' => ∃ (A1 : Option Addr) (c1 b1 : Nat), e = .returned (.slice A1 (gcdL p f g).length c1) ∧ IT w' A1 (gcdL p f g).length c1 b1 p (gcdL p f g) ∧ Below w.heap.size w w' := by
  have hl := h.len
  have hl' := h'.len
  have H := Lib.hid h
  have H' := Lib.hid h'
  obtain ⟨R, hR⟩ : ∃ R, gcdL p f g = R := ⟨_, rfl⟩
  have HR := Lib.hid (show gcdN p g.length f g = R from hR)
  have HF := Lib.hid hf
  have HG := Lib.hid hg
  rw [hR]
  clear h h' hf hg hR
  subst hl hl'
  go_enter Tryd.func76, Tryd.ntmps76
  go_wp2_with (fail)
  go_loopw [0, 1] (fun vf vg wr => ∃ (N : Nat) (x y : List Int) (Ax : Option Addr) (cx bx : Nat) (Ay : Option Addr) (cy byy : Nat), vf = .slice Ax x.length cx ∧ vg = .slice Ay y.length cy ∧ Hid (polB p x = true ∧ polB p y = true ∧ y.length ≤ N ∧ gcdN p N x y = R) ∧ IT wr Ax x.length cx bx p x ∧ IT wr Ay y.length cy byy p y ∧ Below w.heap.size w wr) (fun _ v _ => match v with | .slice _ m _ => m | _ => 0)
  case atStart => exact ⟨g.length, f, g, A, c, b, A', c', b', rfl, rfl, ⟨HF.out, HG.out, Nat.le_refl _, HR.out⟩, H.out, H'.out, Below.refl _ _⟩
  case round =>
    obtain ⟨N, x, y, Ax, cx, bx, Ay, cy, byy, rfl, rfl, hfact, hx, hy, hbel⟩ := hrel
    have HX := Lib.hid hx
    have HY := Lib.hid hy
    have HB := Lib.hid hbel
    clear hx hy hbel
    by_cases h0 : y.length = 0
    · have HE := Lib.hid (show x = R by have := hfact.out.2.2.2; rwa [gcdN_nil _ _ _ _ h0] at this)
      have hd : decide (y.length = 0) = true := decide_eq_true h0
      clear hfact h0
      go_wp2_with (go_at_call 72; refine (terms_isZero _ _ _ _).mono ?_; rintro e w1 ⟨rfl, rfl⟩; rw [hd])
      go_ret
      have hE := HE.out
      subst hE
      exact ⟨Ax, cx, bx, rfl, HX.out, HB.out⟩
    · have hd : decide (y.length = 0) = false := decide_eq_false h0
      obtain ⟨px, py, hyN, hgc⟩ := hfact.out
      obtain ⟨hp, hxl, hxv⟩ := serB_true (polB_ser px)
      obtain ⟨_, hyl, hyv⟩ := serB_true (polB_ser py)
      obtain ⟨M, rfl, hst⟩ := gcdN_step p N x y h0 hyN
      obtain ⟨_, r1, _, r2, _⟩ := div_law (polB_ser px) py (by omega)
      have HN := Lib.hid (show polB p y = true ∧ polB p (remL p x y) = true ∧ (remL p x y).length ≤ M ∧ gcdN p M y (remL p x y) = R from ⟨py, r1, by omega, by rw [← hst]; exact hgc⟩)
      have HP := Lib.hid hp
      have HV := Lib.hid hxv
      have HW := Lib.hid hyv
      have HGL := Lib.hid (show co y (y.length - 1) ≠ 0 from (polB_last py).resolve_left (by omega))
      have HFT := Lib.hid (trim_pol (polB_last px))
      obtain ⟨Z, hZ⟩ : ∃ Z, remL p x y = Z := ⟨_, rfl⟩
      rw [hZ] at HN r2
      have HZ := Lib.hid hZ
      obtain ⟨Q, hQ⟩ : ∃ Q, (divP p x y).1 = Q := ⟨_, rfl⟩
      have HQ := Lib.hid hQ
      have hy1 : 1 ≤ y.length := by omega
      clear px py hyN hgc hp hxv hyv hst r1 hZ hQ hfact h0
      go_wp2_with (go_at_call 72; refine (terms_isZero _ _ _ _).mono ?_; rintro e w1 ⟨rfl, rfl⟩; rw [hd])
      refine (divide_any p Ax _ cx bx x Ay _ cy byy y _ HX.out HY.out HP.out HV.out HW.out (by omega) (by omega) (by omega) HGL.out HFT.out).mono ?_
      rw [HQ.out, HZ.out]
      rintro e w5 ⟨A5, c5, A6, c6, rfl, hO5, hO6, hB5⟩
      obtain ⟨b6, hI6⟩ := OT.it hO6
      have HI6 := Lib.hid hI6
      have HY2 := Lib.hid (HY.out.below hB5)
      have HB2 := Lib.hid (below_more HB.out hB5)
      clear hO5 hO6 hI6 hB5
      go_wp2_with (fail)
      go_roundw
      case rel => exact ⟨M, y, Z, Ay, cy, byy, A6, c6, b6, rfl, rfl, HN.out, HY2.out, HI6.out, HB2.out⟩
      case measure => simp; omega
end Go.Proofs.YtecmclaockmgeaaDoor
namespace Go.Proofs.YtecmclaockmgeaaDoor
open Go.RowKit
theorem one_term (w : World) (p x : Int) : OT (w.alloc (.cells #[.int .i64 p, .int .i64 x] 71)) w.heap.size (some ⟨w.heap.size, 0, none⟩) 1 1 p [x] := by
  have hl := World.ownsRow_lit (e := 71) (base := w.heap.size) (size := 2) w #[.int .i64 p, .int .i64 x] 1 (by simp) (by unfold maxLen; omega) rfl
  have hl2 : (w.alloc (.cells #[.int .i64 p, .int .i64 x] 71)).ownsRow w.heap.size 71 2 (.slice (some ⟨w.heap.size, 0, none⟩) 1 1) 1 [.int .i64 p, .int .i64 x] := by simpa using hl
  exact hl2
/-- two polynomials come back, and an error -/
def MadeLT (p : Int) (up low : List Int) (ge : Addr) (w : World) (e : Ending) (w' : World) : Prop :=
  (badL low = true ∧ e = .returned (.tuple #[.slice none 0 0, .slice none 0 0, .iface 119 (.pointer (some ge))]) ∧ Below w.heap.size w w') ∨
  (badL low = false ∧ ∃ (A : Option Addr) (c b : Nat) (A' : Option Addr) (c' b' : Nat), e = .returned (.tuple #[.slice A (leastL p up low).1.length c, .slice A' (leastL p up low).2.length c', .nilIface]) ∧ IT w' A (leastL p up low).1.length c b p (leastL p up low).1 ∧ IT w' A' (leastL p up low).2.length c' b' p (leastL p up low).2 ∧ Below w.heap.size w w')
set_option maxRecDepth 100000 in
set_option maxHeartbeats 4000000 in
theorem lowestTerms_any (p : Int) (A : Option Addr) (n c b : Nat) (f : List Int) (A' : Option Addr) (n' c' b' : Nat) (g : List Int) (w : World) (h : IT w A n c b p f) (h' : IT w A' n' c' b' p g) (hf : polB p f = true) (hg : polB p g = true) (ge : Addr) (hge : GE w ge) :
    Calls Tryd.prog 67 #[.slice A n c, .slice A' n' c'] w (MadeLT p f g ge w) := by
  have hl := h.len
  have hl' := h'.len
  have H := Lib.hid h
  have H' := Lib.hid h'
  have HG := Lib.hid hge
  have hne := run_eql_iface_nil_left (P := Tryd.prog) w 119 (.pointer (some ge)) Tryd.underlying82
  rcases hb : badL g
  · have HB := Lib.hid hb
    have hb2 := of_decide_eq_false hb
    obtain ⟨q1, q2, q3, q4, q5, q6⟩ := quo_pos hf hg (fun h => hb2 (.inl h)) (fun h => hb2 (.inr h))
    obtain ⟨g1, _, _⟩ := gcd_law hf hg
    have g4 := gcd_pos hf hg (fun h => hb2 (.inl h))
    obtain ⟨hp, hfl, hfv⟩ := serB_true (polB_ser hf)
    obtain ⟨_, hgl, hgv⟩ := serB_true (polB_ser hg)
    obtain ⟨_, hdl, hdv⟩ := serB_true (polB_ser g1)
    have HF := Lib.hid hf
    have HGP := Lib.hid hg
    have HP := Lib.hid hp
    have HFV := Lib.hid hfv
    have HGV := Lib.hid hgv
    obtain ⟨D, hD⟩ : ∃ D, gcdL p f g = D := ⟨_, rfl⟩
    rw [hD] at q1 q2 q3 q4 q5 q6 g1 g4 hdl hdv
    have HD := Lib.hid hD
    have HDV := Lib.hid hdv
    have HDL := Lib.hid (show co D (D.length - 1) ≠ 0 from (polB_last g1).resolve_left (by omega))
    have HFT := Lib.hid (trim_pol (polB_last hf))
    have HGT := Lib.hid (trim_pol (polB_last hg))
    have HQ1 := Lib.hid (quo_fullF hf g1 g4)
    have HQ2 := Lib.hid (quo_fullF hg g1 g4)
    obtain ⟨Q1, hQ1⟩ : ∃ Q, quoL p f D = Q := ⟨_, rfl⟩
    obtain ⟨Q2, hQ2⟩ : ∃ Q, quoL p g D = Q := ⟨_, rfl⟩
    rw [hQ1] at q5 q6 HQ1
    rw [hQ2] at q1 q2 q3 q4 HQ2
    obtain ⟨R1, hR1⟩ : ∃ R, remL p f D = R := ⟨_, rfl⟩
    obtain ⟨R2, hR2⟩ : ∃ R, remL p g D = R := ⟨_, rfl⟩
    have HR1 := Lib.hid hR1
    have HR2 := Lib.hid hR2
    have HV1 := Lib.hid (serB_true (polB_ser q5)).2.2
    have HV2 := Lib.hid (serB_true (polB_ser q1)).2.2
    have HZ2 := Lib.hid q2
    obtain ⟨bk, hbk⟩ : ∃ bk, invM p (co Q2 0) = bk := ⟨_, rfl⟩
    have HBK := Lib.hid hbk
    have hbkv : numB p bk = true := by rw [← hbk]; exact numB_mk hp (inv_bd hp).1 (inv_bd hp).2
    have HBV := Lib.hid (show ∀ x ∈ [bk], numB p x = true from fun x hx => by rw [List.mem_singleton.1 hx]; exact hbkv)
    have HX := Lib.hid (show (leastL p f g).1 = trimL (tmsL p Q1 [bk]) by rw [scale_eq hp]; unfold leastL; rw [hD, hQ1, hQ2, hbk])
    have HY := Lib.hid (show (leastL p f g).2 = trimL (tmsL p Q2 [bk]) by rw [scale_eq hp]; unfold leastL; rw [hD, hQ2, hbk])
    have he := Lib.hid (show errV ge (badL g) = .nilIface by rw [hb]; rfl)
    have hn1 : n ≤ 24 := by omega
    have hn2 : n' ≤ 24 := by omega
    have hq6 : Q1.length ≤ 24 := by omega
    have hq4 : Q2.length ≤ 24 := by omega
    clear h h' hge hb hb2 q1 q2 q4 q5 q6 g1 hp hfv hgv hdv hD hQ1 hQ2 hR1 hR2 hbk hbkv hf hg hl hl' hfl hgl
    go_enter Tryd.func67, Tryd.ntmps67
    go_wp2_with (go_at_call 60; refine (checkLow_any p A' n' c' b' g _ H'.out ge HG.out).mono ?_; rintro e w1 ⟨rfl, hB⟩; rw [he.out]; have HB1 := Lib.hid hB; clear hB)
    refine (commonDivisor_any p A n c b f A' n' c' b' g _ (H.out.below HB1.out) (H'.out.below HB1.out) HF.out HGP.out).mono ?_
    rw [HD.out]
    rintro e w2 ⟨A2, c2, b2, rfl, hI2, hB⟩
    have HI2 := Lib.hid hI2
    have HB2 := Lib.hid (below_more HB1.out hB)
    clear hI2 hB
    go_wp2_with (fail)
    refine (divide_any p A n c b f A2 _ c2 b2 D _ (H.out.below HB2.out) HI2.out HP.out HFV.out HDV.out (by omega) (by omega) g4 HDL.out HFT.out).mono ?_
    rw [HQ1.out, HR1.out]
    rintro e w3 ⟨A3, c3, A4, c4, rfl, hO3, hO4, hB⟩
    obtain ⟨b3, hI3⟩ := OT.it hO3
    have HI3 := Lib.hid hI3
    have HI2b := Lib.hid (HI2.out.below hB)
    have HB3 := Lib.hid (below_more HB2.out hB)
    clear hO3 hO4 hI3 hB
    go_wp2_with (fail)
    refine (divide_any p A' n' c' b' g A2 _ c2 b2 D _ (H'.out.below HB3.out) HI2b.out HP.out HGV.out HDV.out (by omega) (by omega) g4 HDL.out HGT.out).mono ?_
    rw [HQ2.out, HR2.out]
    rintro e w4 ⟨A5, c5, A6, c6, rfl, hO5, hO6, hB⟩
    obtain ⟨b5, hI5⟩ := OT.it hO5
    have hcap5 := hI5.capn
    have hbig5 := hI5.big
    obtain rfl : A5 = some ⟨b5, 0, none⟩ := by rcases hI5.adr with ⟨_, h1, _⟩ | h1 <;> first | omega | exact h1
    obtain ⟨x, hx, hxp, hxc⟩ := hI5.cell 0 (by omega)
    simp only [Nat.zero_mul, Nat.zero_add] at hxp hxc
    have HX2 := Lib.hid (show co Q2 0 = x from getD_at hx)
    have HXV := Lib.hid (HV2.out x (List.mem_of_getElem? hx))
    have HI5 := Lib.hid hI5
    have HI3b := Lib.hid (HI3.out.below hB)
    have HB4 := Lib.hid (below_more HB3.out hB)
    clear hO5 hO6 hI5 hB hx
    go_wp2_with (fail)
    refine (res_back p x _ HXV.out (by rw [← HX2.out]; exact HZ2.out)).mono ?_
    rw [← HX2.out, HBK.out]
    rintro e w5 ⟨rfl, hB⟩
    have HB5 := Lib.hid (below_more HB4.out hB)
    have HI3c := Lib.hid (HI3b.out.below hB)
    have HI5c := Lib.hid (HI5.out.below hB)
    clear hB
    go_wp2_with (fail)
    obtain ⟨W5, hW5⟩ : ∃ W5, w5.alloc (.cells #[.int .i64 p, .int .i64 bk] 71) = W5 := ⟨_, rfl⟩
    have hB : Below w5.heap.size w5 W5 := by rw [← hW5]; exact below_new _ _
    have hO := one_term w5 p bk
    rw [hW5] at hO
    obtain ⟨b7, hI7⟩ := OT.it hO
    have HI7 := Lib.hid hI7
    have HB6 := Lib.hid (below_more HB5.out hB)
    have HI3d := Lib.hid (HI3c.out.below hB)
    have HI5d := Lib.hid (HI5c.out.below hB)
    rw [hW5]
    clear hW5 hO hI7 hB
    refine (times_any p A3 _ c3 b3 Q1 _ 1 1 b7 [bk] _ HI3d.out HI7.out HV1.out HBV.out (by omega) (by decide)).mono ?_
    rw [← HX.out]
    rintro e w6 ⟨A8, c8, rfl, hO8, hB⟩
    obtain ⟨b8, hI8⟩ := OT.it hO8
    have HI8 := Lib.hid hI8
    have HB7 := Lib.hid (below_more HB6.out hB)
    have HI5e := Lib.hid (HI5d.out.below hB)
    have HI7e := Lib.hid (HI7.out.below hB)
    clear hO8 hI8 hB
    go_wp2_with (fail)
    refine (times_any p _ _ c5 b5 Q2 _ 1 1 b7 [bk] _ HI5e.out HI7e.out HV2.out HBV.out (by omega) (by decide)).mono ?_
    rw [← HY.out]
    rintro e w7 ⟨A9, c9, rfl, hO9, hB⟩
    obtain ⟨b9, hI9⟩ := OT.it hO9
    have HI9 := Lib.hid hI9
    have HI8e := Lib.hid (HI8.out.below hB)
    have HB8 := Lib.hid (below_more HB7.out hB)
    clear hO9 hI9 hB
    go_wp2_with (fail)
    go_ret3
    exact .inr ⟨HB.out, A8, c8, b8, A9, c9, b9, rfl, HI8e.out, HI9.out, HB8.out⟩
  · have HE := Lib.hid (show errV ge (badL g) = .iface 119 (.pointer (some ge)) by rw [hb]; rfl)
    have HB := Lib.hid hb
    clear h h' hge hb hf hg
    go_enter Tryd.func67, Tryd.ntmps67
    go_wp2_with (go_at_call 60; refine (checkLow_any p A' n' c' b' g _ H'.out ge HG.out).mono ?_; rintro e w1 ⟨rfl, hB⟩; rw [HE.out]; have HB1 := Lib.hid hB; clear hB)
    go_ret3
    exact .inl ⟨HB.out, rfl, HB1.out⟩
end Go.Proofs.YtecmclaockmgeaaDoor
namespace Go.Proofs.YtecmclaockmgeaaDoor
open Go.RowKit
theorem apart_own {w1 w2 : World} {B B' n c n' c' : Nat} {A A' : Option Addr} {xs ys : List Int} (h : OI w1 B A n c xs) (h' : OI w2 B' A' n' c' ys) (hB : w1.heap.size ≤ B') : Apart (.slice A n c) (.slice A' n' c') := by
  rcases hg : (Value.slice A n c).ownBlock with _ | g
  · exact .inl hg
  · right
    rw [hg]
    intro e
    have h1 := (h.lt g hg).2
    have h2 := (h'.lt g e.symm).1
    omega
theorem leastR_no {p : Int} {f g : List Int} (h : badL g = true ∨ 12 < (leastL p f g).1.length ∨ 12 < (leastL p f g).2.length) : leastR p f g = none := by
  unfold leastR leastO
  rw [if_neg]
  · rfl
  · rintro ⟨h1, h2, h3, h4⟩
    rcases h with h | h | h
    · rcases of_decide_eq_true h with h | h
      · exact h1 h
      · exact h2 h
    · omega
    · omega
set_option maxRecDepth 100000 in
set_option maxHeartbeats 4000000 in
theorem leastFrac_any (p : Int) (A : Option Addr) (n c b : Nat) (f : List Int) (A' : Option Addr) (n' c' b' : Nat) (g : List Int) (w : World) (h : IT w A n c b p f) (h' : IT w A' n' c' b' p g) (hf : polB p f = true) (hg : polB p g = true) (ge : Addr) (hge : GE w ge) :
    Calls Tryd.prog 41 #[.int .i64 p, .slice A n c, .slice A' n' c'] w (MadeRB (leastR p f g) w) := by
  have H := Lib.hid h
  have H' := Lib.hid h'
  have HF := Lib.hid hf
  have HGP := Lib.hid hg
  have HG := Lib.hid hge
  clear h h' hf hg hge
  have HW := Lib.hid (BxW.new w (.int .i64 0) (.slice none 0 0) (.slice none 0 0) 46)
  have hb0 := below_new w (.cells #[.int .i64 0, .slice none 0 0, .slice none 0 0] 46)
  have HB0 := Lib.hid hb0
  have H0 := Lib.hid (H.out.below hb0)
  have H0' := Lib.hid (H'.out.below hb0)
  have HG0 := Lib.hid (HG.out.below hb0)
  clear hb0
  go_enter Tryd.func41, Tryd.ntmps41
  go_wp2_with (fail)
  refine (lowestTerms_any p A n c b f A' n' c' b' g _ H0.out H0'.out HF.out HGP.out ge HG0.out).mono ?_
  rintro e w1 (⟨hbad, rfl, hB⟩ | ⟨hbad, A1, c1, b1, A2, c2, b2, rfl, hI1, hI2, hB⟩)
  · have HR := Lib.hid (show leastR p f g = none from leastR_no (.inl hbad))
    have HB1 := Lib.hid (below_more HB0.out hB)
    have HG1 := HG0.out.below hB
    unfold GE at HG1
    have HW1 := Lib.hid (HW.out.below hB)
    clear hB hbad
    obtain ⟨x0, x1, x2⟩ := HW1.out.c
    have fz := HW1.out.fz
    go_wp2_with (fail)
    refine (is_same ge _).mono ?_
    rintro e w2 ⟨rfl, rfl⟩
    go_wp2_with (fail)
    refine bodyPost_ret (v := .tuple #[.agg #[.int .i64 0, .slice none 0 0, .slice none 0 0], .bool false]) (by simp [results, Tryd.f41, go_sem, x0, x1, x2]) rfl ?_
    rw [HR.out]
    exact ⟨_, rfl, ro_zero _ _, HB1.out.trans (set3_far _ w.heap.size _ _ _ (Nat.le_refl _) HB1.out.size)⟩
  · obtain ⟨X, hX⟩ : ∃ X, (leastL p f g).1 = X := ⟨_, rfl⟩
    obtain ⟨Y, hY⟩ : ∃ Y, (leastL p f g).2 = Y := ⟨_, rfl⟩
    rw [hX] at hI1
    rw [hY] at hI2
    rw [hX, hY]
    have HX := Lib.hid hX
    have HY := Lib.hid hY
    have HBAD := Lib.hid hbad
    have HI1 := Lib.hid hI1
    have HI2 := Lib.hid hI2
    have HB1 := Lib.hid (below_more HB0.out hB)
    have HG1 := HG0.out.below hB
    unfold GE at HG1
    have HW1 := Lib.hid (HW.out.below hB)
    clear hB hbad hX hY hI1 hI2
    obtain ⟨x0, x1, x2⟩ := HW1.out.c
    have fz := HW1.out.fz
    by_cases hlt : X.length < Y.length
    · by_cases h12 : Y.length ≤ 12
      case neg =>
        have h12i : (12 : Int) < (Y.length : Int) := by omega
        have HR := Lib.hid (show leastR p f g = none from leastR_no (.inr (.inr (by rw [HY.out]; omega))))
        go_wp2_with (fail)
        refine (is_nil ge _).mono ?_
        rintro e w2 ⟨rfl, rfl⟩
        go_wp2_with (fail)
        refine bodyPost_ret (v := .tuple #[.agg #[.int .i64 0, .slice none 0 0, .slice none 0 0], .bool false]) (by simp [results, Tryd.f41, go_sem, x0, x1, x2]) rfl ?_
        rw [HR.out]
        exact ⟨_, rfl, ro_zero _ _, HB1.out.trans (set3_far _ w.heap.size _ _ _ (Nat.le_refl _) HB1.out.size)⟩
      have h12i : ¬ (12 : Int) < (Y.length : Int) := by omega
      have HN := Lib.hid (show X.length ≤ 12 ∧ Y.length ≤ 12 by omega)
      clear h12
      go_wp2_with (fail)
      refine (is_nil ge _).mono ?_
      rintro e w2 ⟨rfl, rfl⟩
      go_wp2_with (fail)
      refine (numbersOf_any p A1 _ c1 b1 X _ HI1.out (by have := HN.out.1; omega)).mono ?_
      rintro e w3 ⟨A3, c3, rfl, hO3, hB⟩
      have HO3 := Lib.hid hO3
      have HB2 := Lib.hid (below_more HB1.out hB)
      have HI2b := Lib.hid (HI2.out.below hB)
      have HW2 := Lib.hid (HW1.out.below hB)
      clear hO3 hB x0 x1 x2 fz
      go_wp2_with (fail)
      refine (numbersOf_any p A2 _ c2 b2 Y _ HI2b.out (by have := HN.out.2; omega)).mono ?_
      rintro e w4 ⟨A4, c4, rfl, hO4, hB⟩
      have HO4 := Lib.hid hO4
      have HO3b := Lib.hid (OIb HO3.out hB)
      have HAP := Lib.hid (apart_own HO3.out hO4 (Nat.le_refl _))
      have HB3 := Lib.hid (below_more HB2.out hB)
      have HW3 := Lib.hid (HW2.out.below hB)
      have hs2 := HB1.out.size
      have hs3 := HB2.out.size
      have hlo := HW1.out.c.lt
      have hlo2 := HW2.out.c.lt
      clear hO4 hB
      obtain ⟨x0, x1, x2⟩ := HW3.out.c
      have fz := HW3.out.fz
      have HR := Lib.hid (show leastR p f g = some (p, X, Y) from by
        have hb := of_decide_eq_false HBAD.out
        have := leastR_yes (p := p) (up := f) (low := g) (fun h => hb (.inl h)) (fun h => hb (.inr h)) (by rw [HX.out]; exact HN.out.1) (by rw [HY.out]; exact HN.out.2)
        rw [this, HX.out, HY.out])
      go_wp2_with (fail)
      refine bodyPost_ret (v := .tuple #[.agg #[.int .i64 p, .slice A3 X.length c3, .slice A4 Y.length c4], .bool true]) (by simp [results, Tryd.f41, go_sem, x0, x1, x2]) rfl ?_
      rw [HR.out]
      obtain ⟨_, he, hr, hb⟩ := made_set3 (g := w.heap.size) (p := p) HB3.out rfl rfl HO3b.out HO4.out hs2 hs3 (Nat.le_refl _) (fun k hk => by have := (HO3.out.lt k hk).1; omega) (fun k hk => by have := (HO4.out.lt k hk).1; omega) HAP.out
      cases he
      exact ⟨_, rfl, hr, hb⟩
    · by_cases h12 : X.length ≤ 12
      case neg =>
        have h12i : (12 : Int) < (X.length : Int) := by omega
        have HR := Lib.hid (show leastR p f g = none from leastR_no (.inr (.inl (by rw [HX.out]; omega))))
        go_wp2_with (fail)
        refine (is_nil ge _).mono ?_
        rintro e w2 ⟨rfl, rfl⟩
        go_wp2_with (fail)
        refine bodyPost_ret (v := .tuple #[.agg #[.int .i64 0, .slice none 0 0, .slice none 0 0], .bool false]) (by simp [results, Tryd.f41, go_sem, x0, x1, x2]) rfl ?_
        rw [HR.out]
        exact ⟨_, rfl, ro_zero _ _, HB1.out.trans (set3_far _ w.heap.size _ _ _ (Nat.le_refl _) HB1.out.size)⟩
      have h12i : ¬ (12 : Int) < (X.length : Int) := by omega
      have HN := Lib.hid (show X.length ≤ 12 ∧ Y.length ≤ 12 by omega)
      clear h12
      go_wp2_with (fail)
      refine (is_nil ge _).mono ?_
      rintro e w2 ⟨rfl, rfl⟩
      go_wp2_with (fail)
      refine (numbersOf_any p A1 _ c1 b1 X _ HI1.out (by have := HN.out.1; omega)).mono ?_
      rintro e w3 ⟨A3, c3, rfl, hO3, hB⟩
      have HO3 := Lib.hid hO3
      have HB2 := Lib.hid (below_more HB1.out hB)
      have HI2b := Lib.hid (HI2.out.below hB)
      have HW2 := Lib.hid (HW1.out.below hB)
      clear hO3 hB x0 x1 x2 fz
      go_wp2_with (fail)
      refine (numbersOf_any p A2 _ c2 b2 Y _ HI2b.out (by have := HN.out.2; omega)).mono ?_
      rintro e w4 ⟨A4, c4, rfl, hO4, hB⟩
      have HO4 := Lib.hid hO4
      have HO3b := Lib.hid (OIb HO3.out hB)
      have HAP := Lib.hid (apart_own HO3.out hO4 (Nat.le_refl _))
      have HB3 := Lib.hid (below_more HB2.out hB)
      have HW3 := Lib.hid (HW2.out.below hB)
      have hs2 := HB1.out.size
      have hs3 := HB2.out.size
      have hlo := HW1.out.c.lt
      have hlo2 := HW2.out.c.lt
      clear hO4 hB
      obtain ⟨x0, x1, x2⟩ := HW3.out.c
      have fz := HW3.out.fz
      have HR := Lib.hid (show leastR p f g = some (p, X, Y) from by
        have hb := of_decide_eq_false HBAD.out
        have := leastR_yes (p := p) (up := f) (low := g) (fun h => hb (.inl h)) (fun h => hb (.inr h)) (by rw [HX.out]; exact HN.out.1) (by rw [HY.out]; exact HN.out.2)
        rw [this, HX.out, HY.out])
      go_wp2_with (fail)
      refine bodyPost_ret (v := .tuple #[.agg #[.int .i64 p, .slice A3 X.length c3, .slice A4 Y.length c4], .bool true]) (by simp [results, Tryd.f41, go_sem, x0, x1, x2]) rfl ?_
      rw [HR.out]
      obtain ⟨_, he, hr, hb⟩ := made_set3 (g := w.heap.size) (p := p) HB3.out rfl rfl HO3b.out HO4.out hs2 hs3 (Nat.le_refl _) (fun k hk => by have := (HO3.out.lt k hk).1; omega) (fun k hk => by have := (HO4.out.lt k hk).1; omega) HAP.out
      cases he
      exact ⟨_, rfl, hr, hb⟩
end Go.Proofs.YtecmclaockmgeaaDoor
namespace Go.Proofs.YtecmclaockmgeaaDoor
open Go.RowKit
theorem run_append_none (t ty e : TypeId) (i : TypeInfo) (ht : Tryd.prog.underlying t = some (.slice e)) (hi : Tryd.prog.info? e = some i) (c g : Nat) (w : World) :
    (Builtin.append_ #[t, t] ty #[.slice (some ⟨g, 0, none⟩) 0 0, .slice none 0 c]).run Tryd.prog w = .ok (.slice (some ⟨g, 0, none⟩) 0 0) w := by
  simp [Builtin.append_, run_underlying ht, sizeOf, typeInfo, hi, Builtin.lenOf, Builtin.firstCells, storeCells]
theorem wpList_app_any {ops : Array Oper} {rest : List Oper} {o : Oper} {a : Act} {Q : Exit → Act → World → Prop} {w : World} (hgd : o.guard = none) (s x : Operand)
    (ho : o.op = .call { callee := .builtin .append, args := #[s, x], argTypes := #[23, 23] })
    (hs : a.eval s = .slice (some ⟨w.heap.size, 0, none⟩) 0 0) (A : Option Addr) (m c1 b1 o1 : Nat) (ys : List Int) (hx : a.eval x = .slice A m c1) (hsrc : IA w A m b1 o1 ys)
    (hn : m ≤ 1000000000)
    (h : ∀ (A' : Option Addr) (c' : Nat) (w' : World), OI w' w.heap.size A' m c' ys → Below w.heap.size w w' → wpList Tryd.prog ops Q rest (a.put o.dst (.slice A' m c')) w') :
    wpList Tryd.prog ops Q (o :: rest) a (w.alloc (.cells #[] 3)) := by
  have hys := hsrc.len
  have hB0 : Below w.heap.size w (w.alloc (.cells #[] 3)) := (Below.refl _ _).alloc (Nat.le_refl _) _
  obtain ⟨i0, hi, hz0, hz1, hz2⟩ := info_parts infoInt
  by_cases h0 : 0 < m
  · have hA := hsrc.adr h0
    subst hA
    refine wpList_app_ints hgd s x ho w.heap.size _ 0 0 [] hs (OI.empty w) m c1 b1 o1 ys hx (hsrc.below hB0) (by omega) (by simp) ?_
    intro A2 c2 w2 hI2 hK2
    refine ?_
    have e : 0 + m = m := by omega
    rw [e, List.nil_append] at hI2
    rw [e]
    exact h A2 c2 w2 hI2 (hB0.trans (hK2.below (by simp) (fun q hq => by simp [Value.ownBlock] at hq; omega)))
  · obtain rfl : m = 0 := by omega
    have hys0 : ys = [] := List.eq_nil_of_length_eq_zero hys
    subst hys0
    rcases A with _ | ad
    · refine wpList_plain hgd fun K hK => ?_
      have hrun := run_append_none 23 o.type 3 i0 Tryd.underlying23 hi c1 w.heap.size (w.alloc (.cells #[] 3))
      unfold Oper.wp
      simp [execOp, ho, resolve, invoke, builtin, hs, hx, hrun, Result.andThen]
      exact hK _ _ (h _ _ _ (OI.empty w) hB0)
    · refine wpList_append_own _ hgd s x 23 ho w.heap.size 3 i0 (.int .i64 0) 1 8 Tryd.underlying23 hi hz0 hz1 hz2 rfl (by decide) _ 0 [] hs (OI.empty w) ad 0 c1 [] hx (by simp) (by intro j u hj; simp at hj) (by intro u hu; simp at hu) (by unfold maxLen; omega) (by omega) (by simp) ?_
      intro v' w' h2 h3 _
      obtain ⟨A', c', rfl⟩ := owns_shape h2
      exact h A' c' w' (by simpa [OI, ints] using h2) (hB0.trans ((keep_grown h3).below (by simp) (fun q hq => by simp [Value.ownBlock] at hq; omega)))
end Go.Proofs.YtecmclaockmgeaaDoor
namespace Go.Proofs.YtecmclaockmgeaaDoor
open Go.RowKit
/-- two rows of the call's own -/
def Made2 (R1 R2 : List Int) (w : World) (e : Ending) (w' : World) : Prop :=
  ∃ (A : Option Addr) (c : Nat) (A' : Option Addr) (c' : Nat), e = .returned (.tuple #[.slice A R1.length c, .slice A' R2.length c']) ∧ OI w' w.heap.size A R1.length c R1 ∧ OI w' w.heap.size A' R2.length c' R2 ∧ Apart (.slice A R1.length c) (.slice A' R2.length c') ∧ Below w.heap.size w w'
theorem apart_new {w1 : World} {B B' n c n' c' : Nat} {A A' : Option Addr} {xs ys : List Int} {w2 : World} (h : OI w1 B A n c xs) (h' : OI w2 B' A' n' c' ys) (hB : w1.heap.size ≤ B') : Apart (.slice A n c) (.slice A' n' c') := by
  unfold Apart
  by_cases ho : (Value.slice A n c).ownBlock = none
  · exact .inl ho
  · right
    intro e
    obtain ⟨q, hq⟩ := Option.ne_none_iff_exists'.1 ho
    have h1 := (h.lt q hq).2
    have h2 := (h'.lt q (e.symm.trans hq)).1
    omega
end Go.Proofs.YtecmclaockmgeaaDoor
namespace Go.Proofs.YtecmclaockmgeaaDoor
open Go.RowKit
end Go.Proofs.YtecmclaockmgeaaDoor
namespace Go.Proofs.YtecmclaockmgeaaDoor
open Go.RowKit
theorem leastFrac_some (p : Int) (A : Option Addr) (n c b : Nat) (f : List Int) (A' : Option Addr) (n' c' b' : Nat) (g : List Int) (w : World) (h : IT w A n c b p f) (h' : IT w A' n' c' b' p g) (hf : polB p f = true) (hg : polB p g = true) (ge : Addr) (hge : GE w ge) (q : Int) (X Y : List Int) (hR : leastR p f g = some (q, X, Y)) :
    Calls Tryd.prog 41 #[.int .i64 p, .slice A n c, .slice A' n' c'] w fun e w' => ∃ (A3 : Option Addr) (c3 : Nat) (A4 : Option Addr) (c4 : Nat), e = .returned (.tuple #[.agg #[.int .i64 q, .slice A3 X.length c3, .slice A4 Y.length c4], .bool true]) ∧ OI w' w.heap.size A3 X.length c3 X ∧ OI w' w.heap.size A4 Y.length c4 Y ∧ Apart (.slice A3 X.length c3) (.slice A4 Y.length c4) ∧ Below w.heap.size w w' := by
  refine (leastFrac_any p A n c b f A' n' c' b' g w h h' hf hg ge hge).mono ?_
  rw [hR]
  rintro e w' ⟨_, rfl, ⟨A3, c3, A4, c4, rfl, h1, h2, h3⟩, hB⟩
  exact ⟨A3, c3, A4, c4, rfl, h1, h2, h3, hB⟩
set_option maxRecDepth 100000 in
set_option maxHeartbeats 8000000 in
theorem implFracLeast (v : Value) (p : Int) (U L : List Int) (w : World) (h : RV w v p U L) (ge : Addr) (hge : GE w ge) :
    Calls Tryd.prog 37 #[v] w (MadeR (fracLeastR p U L).1 (fracLeastR p U L).2.1 (fracLeastR p U L).2.2 w) := by
  obtain ⟨A, n, c, b, o, A', n', c', b', o', rfl, g1, g2⟩ := h
  have hbx := (Bx.new w (.int .i64 p) (.slice A n c) (.slice A' n' c') 46).below (below_new _ (.cells #[.int .i64 0, .slice none 0 0, .slice none 0 0] 46))
  have hbw := BxW.new (w.alloc (.cells #[.int .i64 p, .slice A n c, .slice A' n' c'] 46)) (.int .i64 0) (.slice none 0 0) (.slice none 0 0) 46
  rw [World.size_alloc] at hbw
  have hB0 := ((Below.refl w.heap.size w).alloc (Nat.le_refl _) (.cells #[.int .i64 p, .slice A n c, .slice A' n' c'] 46)).alloc (by simp) (.cells #[.int .i64 0, .slice none 0 0, .slice none 0 0] 46)
  have HV := Lib.hid (show RV _ (.agg #[.int .i64 p, .slice A n c, .slice A' n' c']) p U L from ⟨_, _, _, _, _, _, _, _, _, _, rfl, g1.below hB0, g2.below hB0⟩)
  have H := Lib.hid (g1.below hB0)
  have H' := Lib.hid (g2.below hB0)
  have HBX := Lib.hid hbx
  have HBW := Lib.hid hbw
  have HG0 := Lib.hid (hge.below hB0)
  have HB0 := Lib.hid hB0
  clear hge g1 g2 hbx hbw hB0
  rcases hv : fracB p U L
  · have HV1 := Lib.hid hv
    have HE := Lib.hid (show fracLeastR p U L = (0, [], []) by unfold fracLeastR; rw [if_neg (by simp [hv])])
    clear hv
    go_enter Tryd.func37, Tryd.ntmps37
    go_wp2_with (go_at_call 36; refine (implFracValid _ p U L _ HV.out ge HG0.out).mono ?_; rintro e w1 ⟨rfl, hB⟩; rw [HV1.out]; have HB1 := Lib.hid (below_more HB0.out hB); have hbw := HBW.out.below hB; have x0 := hbw.c.1; have x1 := hbw.c.2.1; have x2 := hbw.c.2.2; have fz := hbw.fz; clear hB hbw)
    refine bodyPost_ret (v := .agg #[.int .i64 0, .slice none 0 0, .slice none 0 0]) (by simp [results, Tryd.f37, go_sem, x0, x1, x2]) rfl ?_
    rw [HE.out]
    exact made_zero HB1.out (by omega)
  have HV1 := Lib.hid hv
  obtain ⟨hu, hl, hu12, hl12, hl0, hl1⟩ := fracB_true hv
  have HU := Lib.hid hu
  have HL := Lib.hid hl
  have HUL := Lib.hid (show U.length ≤ 1048576 by omega)
  have HLL := Lib.hid (show L.length ≤ 1048576 by omega)
  have HR := Lib.hid (fracLeastR_eq hv)
  obtain ⟨RP, hRP⟩ : ∃ R, (fracLeastR p U L).1 = R := ⟨_, rfl⟩
  obtain ⟨RT, hRT⟩ : ∃ R, (fracLeastR p U L).2.1 = R := ⟨_, rfl⟩
  obtain ⟨RF, hRF⟩ : ∃ R, (fracLeastR p U L).2.2 = R := ⟨_, rfl⟩
  have HRE := Lib.hid (And.intro hRP (And.intro hRT hRF))
  have HR3 := Lib.hid (show leastR p U L = some (RP, RT, RF) by rw [fracLeastR_eq hv, ← hRP, ← hRT, ← hRF])
  rw [hRP, hRT, hRF]
  clear hv hu hl hu12 hl12 hl0 hl1 hRP hRT hRF
  go_enter Tryd.func37, Tryd.ntmps37
  go_upto_region 3 with (go_at_call 36; refine (implFracValid _ p U L _ HV.out ge HG0.out).mono ?_; rintro e w1 ⟨rfl, hB⟩; rw [HV1.out]; have HB1 := Lib.hid (below_more HB0.out hB); have HV2 := Lib.hid (HV.out.below hB); have HG1 := Lib.hid (HG0.out.below hB); have HW1 := Lib.hid (HBW.out.below hB); have HBX1 := Lib.hid (HBX.out.below hB); have y0 := HBX1.out.1; have y1 := HBX1.out.2.1; have y2 := HBX1.out.2.2; clear hB)
  go_cut [3, 4] (fun v v4 wx => ∃ (gB : Nat) (A3 : Option Addr) (c3 : Nat) (A4 : Option Addr) (c4 : Nat), v = .pointer (some ⟨gB, 0, none⟩) ∧ v4 = .bool true ∧ Bx wx gB (.int .i64 RP) (.slice A3 RT.length c3) (.slice A4 RF.length c4) ∧ OI wx w1.heap.size A3 RT.length c3 RT ∧ OI wx w1.heap.size A4 RF.length c4 RF ∧ Apart (.slice A3 RT.length c3) (.slice A4 RF.length c4) ∧ BxW wx (w.heap.size + 1) (.int .i64 0) (.slice none 0 0) (.slice none 0 0) ∧ Below w.heap.size w wx)
  case first =>
    have HVd := Lib.hid (HV2.out.below (below_new_drew w1))
    have HBd := Lib.hid HB1.out.drew
    have HGd := Lib.hid HG1.out.drew
    have HWd := Lib.hid HW1.out.drew
    have ZS := HBX1.out
    have Zd := HBX1.out.drew
    unfold Bx at ZS Zd
    have hlo := HW1.out.c.lt
    have hfar : ∀ (W : World) (g o o' : Nat) (v : Value), w.heap.size < g → (W.setCell ⟨g, o, none⟩ v).cell? ⟨w.heap.size, o', none⟩ = W.cell? ⟨w.heap.size, o', none⟩ := fun W g o o' v hg => World.cell?_setCell_far _ _ _ _ (by show g ≠ w.heap.size; omega)
    go_region_held3 (fun w' => w'.cell? ⟨w.heap.size, 0, none⟩ = some (.int .i64 p) ∧ w'.cell? ⟨w.heap.size, 1, none⟩ = some (.slice A n c) ∧ w'.cell? ⟨w.heap.size, 2, none⟩ = some (.slice A' n' c')) (first | assumption | exact ZC | exact ZB | exact ZA | exact Zd | exact ZS | (refine ⟨?_, ?_, ?_⟩ <;> (simp (disch := omega) only [hfar]; first | exact ZC.1 | exact ZC.2.1 | exact ZC.2.2)) | go_keep)
      (first
        | (go_at_call 62; refine (upper_any _ p U L _ (by first | exact HVd.out | exact HVd.out.below (below_new _ _)) HUL.out).mono ?_; rintro e w2 ⟨A1, c1, rfl, hO, hB⟩; have hB' : Below w1.drew.heap.size w1.drew w2 := (by first | exact hB | exact below_more (below_new _ (.cells #[.int .i64 0, .slice none 0 0, .slice none 0 0] 46)) hB); (first | have HLB := Lib.hid (show BxW w2 w1.heap.size (.int .i64 0) (.slice none 0 0) (.slice none 0 0) from (BxW.new w1.drew (.int .i64 0) (.slice none 0 0) (.slice none 0 0) 46).below hB) | skip); obtain ⟨b1, hI⟩ := OT.it hO; have hz2 : w1.heap.size ≤ w2.heap.size := hB'.size; have HI1 := Lib.hid hI; have HB2 := Lib.hid (below_more HBd.out hB'); have HV3 := Lib.hid (HVd.out.below hB'); have HG2 := Lib.hid (HGd.out.below hB'); have HW2 := Lib.hid (HWd.out.below hB'); have HBX2 := Lib.hid (HBX1.out.drew.below hB'); have ZA := HBX2.out; unfold Bx at ZA; clear hO hI hB hB')
        | (go_at_call 61; refine (lower_any _ p U L _ (by first | exact HV3.out | exact HV3.out.below (below_new _ _)) HLL.out).mono ?_; rintro e w3 ⟨A2, c2, rfl, hO, hB⟩; have hB' : Below w2.heap.size w2 w3 := (by first | exact hB | exact below_more (below_new _ (.cells #[.int .i64 0, .slice none 0 0, .slice none 0 0] 46)) hB); (first | have HLB := Lib.hid (HLB.out.below hB') | have HLB := Lib.hid ((BxW.new w2 (.int .i64 0) (.slice none 0 0) (.slice none 0 0) 46).below hB) | skip); (first | have hl3 := HLB.out.c.lt | skip); obtain ⟨b2, hI⟩ := OT.it hO; have hz3 : w2.heap.size ≤ w3.heap.size := hB'.size; have HI2 := Lib.hid hI; have HI1b := Lib.hid (HI1.out.below hB'); have HB3 := Lib.hid (below_more HB2.out hB'); have HG3 := Lib.hid (HG2.out.below hB'); have HW3 := Lib.hid (HW2.out.below hB'); have HBX3 := Lib.hid (HBX2.out.below hB'); have ZB := HBX3.out; unfold Bx at ZB; clear hO hI hB hB')
        | (go_at_call 41; refine (leastFrac_some p A1 _ c1 b1 U A2 _ c2 b2 L _ (by first | exact HI1b.out | exact HI1b.out.below (below_new _ _)) (by first | exact HI2.out | exact HI2.out.below (below_new _ _)) HU.out HL.out ge (by first | exact HG3.out | exact HG3.out.below (below_new _ _)) RP RT RF HR3.out).mono ?_; rintro e w4 ⟨A3, c3, A4, c4, rfl, hO1, hO2, hap, hB⟩; have hB' : Below w3.heap.size w3 w4 := (by first | exact hB | exact below_more (below_new _ (.cells #[.int .i64 0, .slice none 0 0, .slice none 0 0] 46)) hB); (first | have HLB := Lib.hid (HLB.out.below hB') | have HLB := Lib.hid ((BxW.new w3 (.int .i64 0) (.slice none 0 0) (.slice none 0 0) 46).below hB) | skip); have hsz3 : w3.heap.size ≤ w4.heap.size := hB'.size; have HO1 := Lib.hid hO1; have HO2 := Lib.hid hO2; have HAP := Lib.hid hap; have HB4 := Lib.hid (below_more HB3.out hB'); have HW4 := Lib.hid (HW3.out.below hB'); have HBX4 := Lib.hid (HBX3.out.below hB'); have ZC := HBX4.out; unfold Bx at ZC; clear hO1 hO2 hap hB hB'; (first | (obtain ⟨z0, z1, z2⟩ := HLB.out.c; have zf := HLB.out.fz; have hzl := HLB.out.c.lt) | skip)))
    all_goals
      go_wp2_with (fail)
      go_meet
      first
        | exact ⟨_, A3, c3, A4, c4, rfl, rfl, HLB.out.put _ _ _, owns_mono (OIk HO1.out (set3_keep _ _ _ _ _) (fun k hk e => by have := (HO1.out.lt k hk).1; first | omega | (simp at this; omega))) (by first | omega | (simp; omega)), owns_mono (OIk HO2.out (set3_keep _ _ _ _ _) (fun k hk e => by have := (HO2.out.lt k hk).1; first | omega | (simp at this; omega))) (by first | omega | (simp; omega)), HAP.out, HW4.out.keep (set3_keep _ _ _ _ _) (fun e => by omega), HB4.out.trans (set3_far _ _ _ _ _ (by omega) HB4.out.size)⟩
        | exact ⟨w4.heap.size, A3, c3, A4, c4, rfl, rfl, Bx.new _ _ _ _ _, owns_mono (OIb HO1.out (below_new _ _)) (by omega), owns_mono (OIb HO2.out (below_new _ _)) (by omega), HAP.out, HW4.out.below (below_new _ _), below_more HB4.out (below_new _ _)⟩
        | trace_state
  case rest =>
  obtain ⟨gB, A3, c3, A4, c4, rfl, rfl, hbx, hO1, hO2, hap, hbw, hB⟩ := hcut
  obtain ⟨wo, rfl⟩ : ∃ wo : World, wo = wc := ⟨_, rfl⟩
  have hs1 := HB1.out.size
  have hlo := HW1.out.c.lt
  have hne : gB ≠ w.heap.size + 1 ∨ True := .inr trivial
  have HR4 := Lib.hid (show RO wo w1.heap.size (.agg #[.int .i64 RP, .slice A3 RT.length c3, .slice A4 RF.length c4]) RP RT RF from ⟨A3, c3, A4, c4, rfl, hO1, hO2, hap⟩)
  have HB4 := Lib.hid hB
  obtain ⟨z0, z1, z2⟩ := hbx
  obtain ⟨x0, x1, x2⟩ := hbw.c
  have fz := hbw.fz
  clear hO1 hO2 hap hB hne hbw
  go_wp2_with (fail)
  refine bodyPost_ret (v := .agg #[.int .i64 RP, .slice A3 RT.length c3, .slice A4 RF.length c4]) (by simp [results, Tryd.f37, go_sem, x0, x1, x2]) rfl ?_
  exact made_put (g := w.heap.size + 1) HR4.out HB4.out hs1 (by omega) hlo
end Go.Proofs.YtecmclaockmgeaaDoor

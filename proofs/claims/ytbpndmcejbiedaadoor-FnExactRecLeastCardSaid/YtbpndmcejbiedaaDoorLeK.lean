/-
  The contracts of commonDivisor, lowestTerms, leastFrac.
  The contract of lowestTerms.
  The contract of leastFrac.
-/
import Derived.Deep.RegionHeld3
import Derived.Test.YtbpndmcejbiedaaDoorFrV
import Derived.Test.YtbpndmcejbiedaaDoorDvI
import Derived.OwnWalk
import Derived.Test.YtbpndmcejbiedaaDoorFrM
import Derived.Test.YtbpndmcejbiedaaDoorEx
namespace Go.Proofs.YtbpndmcejbiedaaDoor
open Go.RowKit
theorem OT.it2 {w : World} {B n c : Nat} {A : Option Addr} {p : Int} {xs : List Int} (h : OT w B A n c p xs) : ∃ b, IT w A n c b p xs := OT.it h
set_option maxRecDepth 100000 in
set_option maxHeartbeats 2000000 in
theorem commonDivisor_any (p : Int) (A : Option Addr) (n c b : Nat) (f : List Int) (A' : Option Addr) (n' c' b' : Nat) (g : List Int) (w : World) (h : IT w A n c b p f) (h' : IT w A' n' c' b' p g) (hf : polB p f = true) (hg : polB p g = true) :
    Calls Tryd.prog 67 #[.slice A n c, .slice A' n' c'] w fun e w' => ∃ (A1 : Option Addr) (c1 b1 : Nat), e = .returned (.slice A1 (gcdL p f g).length c1) ∧ IT w' A1 (gcdL p f g).length c1 b1 p (gcdL p f g) ∧ Below w.heap.size w w' := by
  have hl := h.len
  have hl' := h'.len
  have H := Lib.hid h
  have H' := Lib.hid h'
  obtain ⟨R, hR⟩ : ∃ R, gcdL p f g = R := ⟨_, rfl⟩
  have HR := Lib.hid (show gcdN p g.length f g = R from hR)
  have HF := Lib.hid hf
  have HG := Lib.hid hg
  rw [hR]
  clear h h' hf hg hR
  subst hl hl'
  go_enter Tryd.func67, Tryd.ntmps67
  go_wp2_with (fail)
  go_loopw [0, 1] (fun vf vg wr => ∃ (N : Nat) (x y : List Int) (Ax : Option Addr) (cx bx : Nat) (Ay : Option Addr) (cy byy : Nat), vf = .slice Ax x.length cx ∧ vg = .slice Ay y.length cy ∧ Hid (polB p x = true ∧ polB p y = true ∧ y.length ≤ N ∧ gcdN p N x y = R) ∧ IT wr Ax x.length cx bx p x ∧ IT wr Ay y.length cy byy p y ∧ Below w.heap.size w wr) (fun _ v _ => match v with | .slice _ m _ => m | _ => 0)
  case atStart => exact ⟨g.length, f, g, A, c, b, A', c', b', rfl, rfl, ⟨HF.out, HG.out, Nat.le_refl _, HR.out⟩, H.out, H'.out, Below.refl _ _⟩
  case round =>
    obtain ⟨N, x, y, Ax, cx, bx, Ay, cy, byy, rfl, rfl, hfact, hx, hy, hbel⟩ := hrel
    have HX := Lib.hid hx
    have HY := Lib.hid hy
    have HB := Lib.hid hbel
    clear hx hy hbel
    by_cases h0 : y.length = 0
    · have HE := Lib.hid (show x = R by have := hfact.out.2.2.2; rwa [gcdN_nil _ _ _ _ h0] at this)
      have hd : decide (y.length = 0) = true := decide_eq_true h0
      clear hfact h0
      go_wp2_with (go_at_call 73; refine (terms_isZero _ _ _ _).mono ?_; rintro e w1 ⟨rfl, rfl⟩; rw [hd])
      go_ret
      have hE := HE.out
      subst hE
      exact ⟨Ax, cx, bx, rfl, HX.out, HB.out⟩
    · have hd : decide (y.length = 0) = false := decide_eq_false h0
      obtain ⟨px, py, hyN, hgc⟩ := hfact.out
      obtain ⟨hp, hxl, hxv⟩ := serB_true (polB_ser px)
      obtain ⟨_, hyl, hyv⟩ := serB_true (polB_ser py)
      obtain ⟨M, rfl, hst⟩ := gcdN_step p N x y h0 hyN
      obtain ⟨_, r1, _, r2, _⟩ := div_law (polB_ser px) py (by omega)
      have HN := Lib.hid (show polB p y = true ∧ polB p (remL p x y) = true ∧ (remL p x y).length ≤ M ∧ gcdN p M y (remL p x y) = R from ⟨py, r1, by omega, by rw [← hst]; exact hgc⟩)
      have HP := Lib.hid hp
      have HV := Lib.hid hxv
      have HW := Lib.hid hyv
      have HGL := Lib.hid (show co y (y.length - 1) ≠ 0 from (polB_last py).resolve_left (by omega))
      have HFT := Lib.hid (trim_pol (polB_last px))
      obtain ⟨Z, hZ⟩ : ∃ Z, remL p x y = Z := ⟨_, rfl⟩
      rw [hZ] at HN r2
      have HZ := Lib.hid hZ
      obtain ⟨Q, hQ⟩ : ∃ Q, (divP p x y).1 = Q := ⟨_, rfl⟩
      have HQ := Lib.hid hQ
      have hy1 : 1 ≤ y.length := by omega
      clear px py hyN hgc hp hxv hyv hst r1 hZ hQ hfact h0
      go_wp2_with (go_at_call 73; refine (terms_isZero _ _ _ _).mono ?_; rintro e w1 ⟨rfl, rfl⟩; rw [hd])
      refine (divide_any p Ax _ cx bx x Ay _ cy byy y _ HX.out HY.out HP.out HV.out HW.out (by omega) (by omega) (by omega) HGL.out HFT.out).mono ?_
      rw [HQ.out, HZ.out]
      rintro e w5 ⟨A5, c5, A6, c6, rfl, hO5, hO6, hB5⟩
      obtain ⟨b6, hI6⟩ := OT.it hO6
      have HI6 := Lib.hid hI6
      have HY2 := Lib.hid (HY.out.below hB5)
      have HB2 := Lib.hid (below_more HB.out hB5)
      clear hO5 hO6 hI6 hB5
      go_wp2_with (fail)
      go_roundw
      case rel => exact ⟨M, y, Z, Ay, cy, byy, A6, c6, b6, rfl, rfl, HN.out, HY2.out, HI6.out, HB2.out⟩
      case measure => simp; omega
end Go.Proofs.YtbpndmcejbiedaaDoor
namespace Go.Proofs.YtbpndmcejbiedaaDoor
open Go.RowKit
theorem one_term (w : World) (p x : Int) : OT (w.alloc (.cells #[.int .i64 p, .int .i64 x] 57)) w.heap.size (some ⟨w.heap.size, 0, none⟩) 1 1 p [x] := by
  have hl := World.ownsRow_lit (e := 57) (base := w.heap.size) (size := 2) w #[.int .i64 p, .int .i64 x] 1 (by simp) (by unfold maxLen; omega) rfl
  have hl2 : (w.alloc (.cells #[.int .i64 p, .int .i64 x] 57)).ownsRow w.heap.size 57 2 (.slice (some ⟨w.heap.size, 0, none⟩) 1 1) 1 [.int .i64 p, .int .i64 x] := by simpa using hl
  exact hl2
/-- two polynomials come back, and an error -/
def MadeLT (p : Int) (up low : List Int) (ge : Addr) (w : World) (e : Ending) (w' : World) : Prop :=
  (badL low = true ∧ e = .returned (.tuple #[.slice none 0 0, .slice none 0 0, .iface 101 (.pointer (some ge))]) ∧ Below w.heap.size w w') ∨
  (badL low = false ∧ ∃ (A : Option Addr) (c b : Nat) (A' : Option Addr) (c' b' : Nat), e = .returned (.tuple #[.slice A (leastL p up low).1.length c, .slice A' (leastL p up low).2.length c', .nilIface]) ∧ IT w' A (leastL p up low).1.length c b p (leastL p up low).1 ∧ IT w' A' (leastL p up low).2.length c' b' p (leastL p up low).2 ∧ Below w.heap.size w w')
set_option maxRecDepth 100000 in
set_option maxHeartbeats 4000000 in
theorem lowestTerms_any (p : Int) (A : Option Addr) (n c b : Nat) (f : List Int) (A' : Option Addr) (n' c' b' : Nat) (g : List Int) (w : World) (h : IT w A n c b p f) (h' : IT w A' n' c' b' p g) (hf : polB p f = true) (hg : polB p g = true) (ge : Addr) (hge : GE w ge) :
    Calls Tryd.prog 52 #[.slice A n c, .slice A' n' c'] w (MadeLT p f g ge w) := by
  have hl := h.len
  have hl' := h'.len
  have H := Lib.hid h
  have H' := Lib.hid h'
  have HG := Lib.hid hge
  have hne := run_eql_iface_nil_left (P := Tryd.prog) w 101 (.pointer (some ge)) Tryd.underlying69
  rcases hb : badL g
  · have HB := Lib.hid hb
    have hb2 := of_decide_eq_false hb
    obtain ⟨q1, q2, q3, q4, q5, q6⟩ := quo_pos hf hg (fun h => hb2 (.inl h)) (fun h => hb2 (.inr h))
    obtain ⟨g1, _, _⟩ := gcd_law hf hg
    have g4 := gcd_pos hf hg (fun h => hb2 (.inl h))
    obtain ⟨hp, hfl, hfv⟩ := serB_true (polB_ser hf)
    obtain ⟨_, hgl, hgv⟩ := serB_true (polB_ser hg)
    obtain ⟨_, hdl, hdv⟩ := serB_true (polB_ser g1)
    have HF := Lib.hid hf
    have HGP := Lib.hid hg
    have HP := Lib.hid hp
    have HFV := Lib.hid hfv
    have HGV := Lib.hid hgv
    obtain ⟨D, hD⟩ : ∃ D, gcdL p f g = D := ⟨_, rfl⟩
    rw [hD] at q1 q2 q3 q4 q5 q6 g1 g4 hdl hdv
    have HD := Lib.hid hD
    have HDV := Lib.hid hdv
    have HDL := Lib.hid (show co D (D.length - 1) ≠ 0 from (polB_last g1).resolve_left (by omega))
    have HFT := Lib.hid (trim_pol (polB_last hf))
    have HGT := Lib.hid (trim_pol (polB_last hg))
    have HQ1 := Lib.hid (quo_fullF hf g1 g4)
    have HQ2 := Lib.hid (quo_fullF hg g1 g4)
    obtain ⟨Q1, hQ1⟩ : ∃ Q, quoL p f D = Q := ⟨_, rfl⟩
    obtain ⟨Q2, hQ2⟩ : ∃ Q, quoL p g D = Q := ⟨_, rfl⟩
    rw [hQ1] at q5 q6 HQ1
    rw [hQ2] at q1 q2 q3 q4 HQ2
    obtain ⟨R1, hR1⟩ : ∃ R, remL p f D = R := ⟨_, rfl⟩
    obtain ⟨R2, hR2⟩ : ∃ R, remL p g D = R := ⟨_, rfl⟩
    have HR1 := Lib.hid hR1
    have HR2 := Lib.hid hR2
    have HV1 := Lib.hid (serB_true (polB_ser q5)).2.2
    have HV2 := Lib.hid (serB_true (polB_ser q1)).2.2
    have HZ2 := Lib.hid q2
    obtain ⟨bk, hbk⟩ : ∃ bk, invM p (co Q2 0) = bk := ⟨_, rfl⟩
    have HBK := Lib.hid hbk
    have hbkv : numB p bk = true := by rw [← hbk]; exact numB_mk hp (inv_bd hp).1 (inv_bd hp).2
    have HBV := Lib.hid (show ∀ x ∈ [bk], numB p x = true from fun x hx => by rw [List.mem_singleton.1 hx]; exact hbkv)
    have HX := Lib.hid (show (leastL p f g).1 = trimL (tmsL p Q1 [bk]) by rw [scale_eq hp]; unfold leastL; rw [hD, hQ1, hQ2, hbk])
    have HY := Lib.hid (show (leastL p f g).2 = trimL (tmsL p Q2 [bk]) by rw [scale_eq hp]; unfold leastL; rw [hD, hQ2, hbk])
    have he := Lib.hid (show errV ge (badL g) = .nilIface by rw [hb]; rfl)
    have hn1 : n ≤ 24 := by omega
    have hn2 : n' ≤ 24 := by omega
    have hq6 : Q1.length ≤ 24 := by omega
    have hq4 : Q2.length ≤ 24 := by omega
    clear h h' hge hb hb2 q1 q2 q4 q5 q6 g1 hp hfv hgv hdv hD hQ1 hQ2 hR1 hR2 hbk hbkv hf hg hl hl' hfl hgl
    go_enter Tryd.func52, Tryd.ntmps52
    go_wp2_with (go_at_call 58; refine (checkLow_any p A' n' c' b' g _ H'.out ge HG.out).mono ?_; rintro e w1 ⟨rfl, hB⟩; rw [he.out]; have HB1 := Lib.hid hB; clear hB)
    refine (commonDivisor_any p A n c b f A' n' c' b' g _ (H.out.below HB1.out) (H'.out.below HB1.out) HF.out HGP.out).mono ?_
    rw [HD.out]
    rintro e w2 ⟨A2, c2, b2, rfl, hI2, hB⟩
    have HI2 := Lib.hid hI2
    have HB2 := Lib.hid (below_more HB1.out hB)
    clear hI2 hB
    go_wp2_with (fail)
    refine (divide_any p A n c b f A2 _ c2 b2 D _ (H.out.below HB2.out) HI2.out HP.out HFV.out HDV.out (by omega) (by omega) g4 HDL.out HFT.out).mono ?_
    rw [HQ1.out, HR1.out]
    rintro e w3 ⟨A3, c3, A4, c4, rfl, hO3, hO4, hB⟩
    obtain ⟨b3, hI3⟩ := OT.it hO3
    have HI3 := Lib.hid hI3
    have HI2b := Lib.hid (HI2.out.below hB)
    have HB3 := Lib.hid (below_more HB2.out hB)
    clear hO3 hO4 hI3 hB
    go_wp2_with (fail)
    refine (divide_any p A' n' c' b' g A2 _ c2 b2 D _ (H'.out.below HB3.out) HI2b.out HP.out HGV.out HDV.out (by omega) (by omega) g4 HDL.out HGT.out).mono ?_
    rw [HQ2.out, HR2.out]
    rintro e w4 ⟨A5, c5, A6, c6, rfl, hO5, hO6, hB⟩
    obtain ⟨b5, hI5⟩ := OT.it hO5
    have hcap5 := hI5.capn
    have hbig5 := hI5.big
    obtain rfl : A5 = some ⟨b5, 0, none⟩ := by rcases hI5.adr with ⟨_, h1, _⟩ | h1 <;> first | omega | exact h1
    obtain ⟨x, hx, hxp, hxc⟩ := hI5.cell 0 (by omega)
    simp only [Nat.zero_mul, Nat.zero_add] at hxp hxc
    have HX2 := Lib.hid (show co Q2 0 = x from getD_at hx)
    have HXV := Lib.hid (HV2.out x (List.mem_of_getElem? hx))
    have HI5 := Lib.hid hI5
    have HI3b := Lib.hid (HI3.out.below hB)
    have HB4 := Lib.hid (below_more HB3.out hB)
    clear hO5 hO6 hI5 hB hx
    go_wp2_with (fail)
    refine (res_back p x _ HXV.out (by rw [← HX2.out]; exact HZ2.out)).mono ?_
    rw [← HX2.out, HBK.out]
    rintro e w5 ⟨rfl, hB⟩
    have HB5 := Lib.hid (below_more HB4.out hB)
    have HI3c := Lib.hid (HI3b.out.below hB)
    have HI5c := Lib.hid (HI5.out.below hB)
    clear hB
    go_wp2_with (fail)
    obtain ⟨W5, hW5⟩ : ∃ W5, w5.alloc (.cells #[.int .i64 p, .int .i64 bk] 57) = W5 := ⟨_, rfl⟩
    have hB : Below w5.heap.size w5 W5 := by rw [← hW5]; exact below_new _ _
    have hO := one_term w5 p bk
    rw [hW5] at hO
    obtain ⟨b7, hI7⟩ := OT.it hO
    have HI7 := Lib.hid hI7
    have HB6 := Lib.hid (below_more HB5.out hB)
    have HI3d := Lib.hid (HI3c.out.below hB)
    have HI5d := Lib.hid (HI5c.out.below hB)
    rw [hW5]
    clear hW5 hO hI7 hB
    refine (times_any p A3 _ c3 b3 Q1 _ 1 1 b7 [bk] _ HI3d.out HI7.out HV1.out HBV.out (by omega) (by decide)).mono ?_
    rw [← HX.out]
    rintro e w6 ⟨A8, c8, rfl, hO8, hB⟩
    obtain ⟨b8, hI8⟩ := OT.it hO8
    have HI8 := Lib.hid hI8
    have HB7 := Lib.hid (below_more HB6.out hB)
    have HI5e := Lib.hid (HI5d.out.below hB)
    have HI7e := Lib.hid (HI7.out.below hB)
    clear hO8 hI8 hB
    go_wp2_with (fail)
    refine (times_any p _ _ c5 b5 Q2 _ 1 1 b7 [bk] _ HI5e.out HI7e.out HV2.out HBV.out (by omega) (by decide)).mono ?_
    rw [← HY.out]
    rintro e w7 ⟨A9, c9, rfl, hO9, hB⟩
    obtain ⟨b9, hI9⟩ := OT.it hO9
    have HI9 := Lib.hid hI9
    have HI8e := Lib.hid (HI8.out.below hB)
    have HB8 := Lib.hid (below_more HB7.out hB)
    clear hO9 hI9 hB
    go_wp2_with (fail)
    go_ret3
    exact .inr ⟨HB.out, A8, c8, b8, A9, c9, b9, rfl, HI8e.out, HI9.out, HB8.out⟩
  · have HE := Lib.hid (show errV ge (badL g) = .iface 101 (.pointer (some ge)) by rw [hb]; rfl)
    have HB := Lib.hid hb
    clear h h' hge hb hf hg
    go_enter Tryd.func52, Tryd.ntmps52
    go_wp2_with (go_at_call 58; refine (checkLow_any p A' n' c' b' g _ H'.out ge HG.out).mono ?_; rintro e w1 ⟨rfl, hB⟩; rw [HE.out]; have HB1 := Lib.hid hB; clear hB)
    go_ret3
    exact .inl ⟨HB.out, rfl, HB1.out⟩
end Go.Proofs.YtbpndmcejbiedaaDoor
namespace Go.Proofs.YtbpndmcejbiedaaDoor
open Go.RowKit
theorem apart_own {w1 w2 : World} {B B' n c n' c' : Nat} {A A' : Option Addr} {xs ys : List Int} (h : OI w1 B A n c xs) (h' : OI w2 B' A' n' c' ys) (hB : w1.heap.size ≤ B') : Apart (.slice A n c) (.slice A' n' c') := by
  rcases hg : (Value.slice A n c).ownBlock with _ | g
  · exact .inl hg
  · right
    rw [hg]
    intro e
    have h1 := (h.lt g hg).2
    have h2 := (h'.lt g e.symm).1
    omega
/-- three parts and whether there are -/
def MadeRB (R : Option (Int × List Int × List Int)) (w : World) (e : Ending) (w' : World) : Prop :=
  ∃ v, e = .returned (.tuple #[v, .bool R.isSome]) ∧ RO w' w.heap.size v (R.getD (0, [], [])).1 (R.getD (0, [], [])).2.1 (R.getD (0, [], [])).2.2 ∧ Below w.heap.size w w'
theorem ro_zero (w : World) (B : Nat) : RO w B (.agg #[.int .i64 0, .slice none 0 0, .slice none 0 0]) 0 [] [] :=
  ⟨none, 0, none, 0, rfl, World.ownsRow_nil _ _ _ _, World.ownsRow_nil _ _ _ _, .inl rfl⟩
theorem leastR_no {p : Int} {f g : List Int} (h : badL g = true ∨ 12 < (leastL p f g).1.length ∨ 12 < (leastL p f g).2.length) : leastR p f g = none := by
  unfold leastR leastO
  rw [if_neg]
  · rfl
  · rintro ⟨h1, h2, h3, h4⟩
    rcases h with h | h | h
    · rcases of_decide_eq_true h with h | h
      · exact h1 h
      · exact h2 h
    · omega
    · omega
set_option maxRecDepth 100000 in
set_option maxHeartbeats 4000000 in
theorem leastFrac_any (p : Int) (A : Option Addr) (n c b : Nat) (f : List Int) (A' : Option Addr) (n' c' b' : Nat) (g : List Int) (w : World) (h : IT w A n c b p f) (h' : IT w A' n' c' b' p g) (hf : polB p f = true) (hg : polB p g = true) (ge : Addr) (hge : GE w ge) :
    Calls Tryd.prog 32 #[.int .i64 p, .slice A n c, .slice A' n' c'] w (MadeRB (leastR p f g) w) := by
  have H := Lib.hid h
  have H' := Lib.hid h'
  have HF := Lib.hid hf
  have HGP := Lib.hid hg
  have HG := Lib.hid hge
  clear h h' hf hg hge
  have HW := Lib.hid (BxW.new w (.int .i64 0) (.slice none 0 0) (.slice none 0 0) 27)
  have hb0 := below_new w (.cells #[.int .i64 0, .slice none 0 0, .slice none 0 0] 27)
  have HB0 := Lib.hid hb0
  have H0 := Lib.hid (H.out.below hb0)
  have H0' := Lib.hid (H'.out.below hb0)
  have HG0 := Lib.hid (HG.out.below hb0)
  clear hb0
  go_enter Tryd.func32, Tryd.ntmps32
  go_wp2_with (fail)
  refine (lowestTerms_any p A n c b f A' n' c' b' g _ H0.out H0'.out HF.out HGP.out ge HG0.out).mono ?_
  rintro e w1 (⟨hbad, rfl, hB⟩ | ⟨hbad, A1, c1, b1, A2, c2, b2, rfl, hI1, hI2, hB⟩)
  · have HR := Lib.hid (show leastR p f g = none from leastR_no (.inl hbad))
    have HB1 := Lib.hid (below_more HB0.out hB)
    have HG1 := HG0.out.below hB
    unfold GE at HG1
    have HW1 := Lib.hid (HW.out.below hB)
    clear hB hbad
    obtain ⟨x0, x1, x2⟩ := HW1.out.c
    have fz := HW1.out.fz
    go_wp2_with (fail)
    refine (is_same ge _).mono ?_
    rintro e w2 ⟨rfl, rfl⟩
    go_wp2_with (fail)
    refine bodyPost_ret (v := .tuple #[.agg #[.int .i64 0, .slice none 0 0, .slice none 0 0], .bool false]) (by simp [results, Tryd.f32, go_sem, x0, x1, x2]) rfl ?_
    rw [HR.out]
    exact ⟨_, rfl, ro_zero _ _, HB1.out.trans (set3_far _ w.heap.size _ _ _ (Nat.le_refl _) HB1.out.size)⟩
  · obtain ⟨X, hX⟩ : ∃ X, (leastL p f g).1 = X := ⟨_, rfl⟩
    obtain ⟨Y, hY⟩ : ∃ Y, (leastL p f g).2 = Y := ⟨_, rfl⟩
    rw [hX] at hI1
    rw [hY] at hI2
    rw [hX, hY]
    have HX := Lib.hid hX
    have HY := Lib.hid hY
    have HBAD := Lib.hid hbad
    have HI1 := Lib.hid hI1
    have HI2 := Lib.hid hI2
    have HB1 := Lib.hid (below_more HB0.out hB)
    have HG1 := HG0.out.below hB
    unfold GE at HG1
    have HW1 := Lib.hid (HW.out.below hB)
    clear hB hbad hX hY hI1 hI2
    obtain ⟨x0, x1, x2⟩ := HW1.out.c
    have fz := HW1.out.fz
    by_cases hlt : X.length < Y.length
    · by_cases h12 : Y.length ≤ 12
      case neg =>
        have h12i : (12 : Int) < (Y.length : Int) := by omega
        have HR := Lib.hid (show leastR p f g = none from leastR_no (.inr (.inr (by rw [HY.out]; omega))))
        go_wp2_with (fail)
        refine (is_nil ge _).mono ?_
        rintro e w2 ⟨rfl, rfl⟩
        go_wp2_with (fail)
        refine bodyPost_ret (v := .tuple #[.agg #[.int .i64 0, .slice none 0 0, .slice none 0 0], .bool false]) (by simp [results, Tryd.f32, go_sem, x0, x1, x2]) rfl ?_
        rw [HR.out]
        exact ⟨_, rfl, ro_zero _ _, HB1.out.trans (set3_far _ w.heap.size _ _ _ (Nat.le_refl _) HB1.out.size)⟩
      have h12i : ¬ (12 : Int) < (Y.length : Int) := by omega
      have HN := Lib.hid (show X.length ≤ 12 ∧ Y.length ≤ 12 by omega)
      clear h12
      go_wp2_with (fail)
      refine (is_nil ge _).mono ?_
      rintro e w2 ⟨rfl, rfl⟩
      go_wp2_with (fail)
      refine (numbersOf_any p A1 _ c1 b1 X _ HI1.out (by have := HN.out.1; omega)).mono ?_
      rintro e w3 ⟨A3, c3, rfl, hO3, hB⟩
      have HO3 := Lib.hid hO3
      have HB2 := Lib.hid (below_more HB1.out hB)
      have HI2b := Lib.hid (HI2.out.below hB)
      have HW2 := Lib.hid (HW1.out.below hB)
      clear hO3 hB x0 x1 x2 fz
      go_wp2_with (fail)
      refine (numbersOf_any p A2 _ c2 b2 Y _ HI2b.out (by have := HN.out.2; omega)).mono ?_
      rintro e w4 ⟨A4, c4, rfl, hO4, hB⟩
      have HO4 := Lib.hid hO4
      have HO3b := Lib.hid (OIb HO3.out hB)
      have HAP := Lib.hid (apart_own HO3.out hO4 (Nat.le_refl _))
      have HB3 := Lib.hid (below_more HB2.out hB)
      have HW3 := Lib.hid (HW2.out.below hB)
      have hs2 := HB1.out.size
      have hs3 := HB2.out.size
      have hlo := HW1.out.c.lt
      have hlo2 := HW2.out.c.lt
      clear hO4 hB
      obtain ⟨x0, x1, x2⟩ := HW3.out.c
      have fz := HW3.out.fz
      have HR := Lib.hid (show leastR p f g = some (p, X, Y) from by
        have hb := of_decide_eq_false HBAD.out
        have := leastR_yes (p := p) (up := f) (low := g) (fun h => hb (.inl h)) (fun h => hb (.inr h)) (by rw [HX.out]; exact HN.out.1) (by rw [HY.out]; exact HN.out.2)
        rw [this, HX.out, HY.out])
      go_wp2_with (fail)
      refine bodyPost_ret (v := .tuple #[.agg #[.int .i64 p, .slice A3 X.length c3, .slice A4 Y.length c4], .bool true]) (by simp [results, Tryd.f32, go_sem, x0, x1, x2]) rfl ?_
      rw [HR.out]
      obtain ⟨_, he, hr, hb⟩ := made_set3 (g := w.heap.size) (p := p) HB3.out rfl rfl HO3b.out HO4.out hs2 hs3 (Nat.le_refl _) (fun k hk => by have := (HO3.out.lt k hk).1; omega) (fun k hk => by have := (HO4.out.lt k hk).1; omega) HAP.out
      cases he
      exact ⟨_, rfl, hr, hb⟩
    · by_cases h12 : X.length ≤ 12
      case neg =>
        have h12i : (12 : Int) < (X.length : Int) := by omega
        have HR := Lib.hid (show leastR p f g = none from leastR_no (.inr (.inl (by rw [HX.out]; omega))))
        go_wp2_with (fail)
        refine (is_nil ge _).mono ?_
        rintro e w2 ⟨rfl, rfl⟩
        go_wp2_with (fail)
        refine bodyPost_ret (v := .tuple #[.agg #[.int .i64 0, .slice none 0 0, .slice none 0 0], .bool false]) (by simp [results, Tryd.f32, go_sem, x0, x1, x2]) rfl ?_
        rw [HR.out]
        exact ⟨_, rfl, ro_zero _ _, HB1.out.trans (set3_far _ w.heap.size _ _ _ (Nat.le_refl _) HB1.out.size)⟩
      have h12i : ¬ (12 : Int) < (X.length : Int) := by omega
      have HN := Lib.hid (show X.length ≤ 12 ∧ Y.length ≤ 12 by omega)
      clear h12
      go_wp2_with (fail)
      refine (is_nil ge _).mono ?_
      rintro e w2 ⟨rfl, rfl⟩
      go_wp2_with (fail)
      refine (numbersOf_any p A1 _ c1 b1 X _ HI1.out (by have := HN.out.1; omega)).mono ?_
      rintro e w3 ⟨A3, c3, rfl, hO3, hB⟩
      have HO3 := Lib.hid hO3
      have HB2 := Lib.hid (below_more HB1.out hB)
      have HI2b := Lib.hid (HI2.out.below hB)
      have HW2 := Lib.hid (HW1.out.below hB)
      clear hO3 hB x0 x1 x2 fz
      go_wp2_with (fail)
      refine (numbersOf_any p A2 _ c2 b2 Y _ HI2b.out (by have := HN.out.2; omega)).mono ?_
      rintro e w4 ⟨A4, c4, rfl, hO4, hB⟩
      have HO4 := Lib.hid hO4
      have HO3b := Lib.hid (OIb HO3.out hB)
      have HAP := Lib.hid (apart_own HO3.out hO4 (Nat.le_refl _))
      have HB3 := Lib.hid (below_more HB2.out hB)
      have HW3 := Lib.hid (HW2.out.below hB)
      have hs2 := HB1.out.size
      have hs3 := HB2.out.size
      have hlo := HW1.out.c.lt
      have hlo2 := HW2.out.c.lt
      clear hO4 hB
      obtain ⟨x0, x1, x2⟩ := HW3.out.c
      have fz := HW3.out.fz
      have HR := Lib.hid (show leastR p f g = some (p, X, Y) from by
        have hb := of_decide_eq_false HBAD.out
        have := leastR_yes (p := p) (up := f) (low := g) (fun h => hb (.inl h)) (fun h => hb (.inr h)) (by rw [HX.out]; exact HN.out.1) (by rw [HY.out]; exact HN.out.2)
        rw [this, HX.out, HY.out])
      go_wp2_with (fail)
      refine bodyPost_ret (v := .tuple #[.agg #[.int .i64 p, .slice A3 X.length c3, .slice A4 Y.length c4], .bool true]) (by simp [results, Tryd.f32, go_sem, x0, x1, x2]) rfl ?_
      rw [HR.out]
      obtain ⟨_, he, hr, hb⟩ := made_set3 (g := w.heap.size) (p := p) HB3.out rfl rfl HO3b.out HO4.out hs2 hs3 (Nat.le_refl _) (fun k hk => by have := (HO3.out.lt k hk).1; omega) (fun k hk => by have := (HO4.out.lt k hk).1; omega) HAP.out
      cases he
      exact ⟨_, rfl, hr, hb⟩
end Go.Proofs.YtbpndmcejbiedaaDoor

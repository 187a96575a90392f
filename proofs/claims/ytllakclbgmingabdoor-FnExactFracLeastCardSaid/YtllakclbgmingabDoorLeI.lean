/-
  The contracts of commonDivisor, lowestTerms, leastFrac.
-/
import Derived.Deep.RegionHeld3
import Derived.Test.YtllakclbgmingabDoorFrV
import Derived.Test.YtllakclbgmingabDoorDvI
namespace Go.Proofs.YtllakclbgmingabDoor
open Go.RowKit
theorem OT.it2 {w : World} {B n c : Nat} {A : Option Addr} {p : Int} {xs : List Int} (h : OT w B A n c p xs) : ∃ b, IT w A n c b p xs := OT.it h
set_option maxRecDepth 100000 in
set_option maxHeartbeats 2000000 in
theorem commonDivisor_any (p : Int) (A : Option Addr) (n c b : Nat) (f : List Int) (A' : Option Addr) (n' c' b' : Nat) (g : List Int) (w : World) (h : IT w A n c b p f) (h' : IT w A' n' c' b' p g) (hf : polB p f = true) (hg : polB p g = true) :
    Calls Tryd.prog 91 #[.slice A n c, .slice A' n' c'] w fun e w' => ∃ (A1 : Option Addr) (c1 b1 : Nat), e = .returned (.slice A1 (gcdL p f g).length c1) ∧ IT w' A1 (gcdL p f g).length c1 b1 p (gcdL p f g) ∧ Below w.heap.size w w' := by
  have hl := h.len
  have hl' := h'.len
  have H := Lib.hid h
  have H' := Lib.hid h'
  obtain ⟨R, hR⟩ : ∃ R, gcdL p f g = R := ⟨_, rfl⟩
  have HR := Lib.hid (show gcdN p g.length f g = R from hR)
  have HF := Lib.hid hf
  have HG := Lib.hid hg
  rw [hR]
  clear h h' hf hg hR
  subst hl hl'
  go_enter Tryd.func91, Tryd.ntmps91
  go_wp2_with (fail)
  go_loopw [0, 1] (fun vf vg wr => ∃ (N : Nat) (x y : List Int) (Ax : Option Addr) (cx bx : Nat) (Ay : Option Addr) (cy byy : Nat), vf = .slice Ax x.length cx ∧ vg = .slice Ay y.length cy ∧ Hid (polB p x = true ∧ polB p y = true ∧ y.length ≤ N ∧ gcdN p N x y = R) ∧ IT wr Ax x.length cx bx p x ∧ IT wr Ay y.length cy byy p y ∧ Below w.heap.size w wr) (fun _ v _ => match v with | .slice _ m _ => m | _ => 0)
  case atStart => exact ⟨g.length, f, g, A, c, b, A', c', b', rfl, rfl, ⟨HF.out, HG.out, Nat.le_refl _, HR.out⟩, H.out, H'.out, Below.refl _ _⟩
  case round =>
    obtain ⟨N, x, y, Ax, cx, bx, Ay, cy, byy, rfl, rfl, hfact, hx, hy, hbel⟩ := hrel
    have HX := Lib.hid hx
    have HY := Lib.hid hy
    have HB := Lib.hid hbel
    clear hx hy hbel
    by_cases h0 : y.length = 0
    · have HE := Lib.hid (show x = R by have := hfact.out.2.2.2; rwa [gcdN_nil _ _ _ _ h0] at this)
      have hd : decide (y.length = 0) = true := decide_eq_true h0
      clear hfact h0
      go_wp2_with (go_at_call 83; refine (terms_isZero _ _ _ _).mono ?_; rintro e w1 ⟨rfl, rfl⟩; rw [hd])
      go_ret
      have hE := HE.out
      subst hE
      exact ⟨Ax, cx, bx, rfl, HX.out, HB.out⟩
    · have hd : decide (y.length = 0) = false := decide_eq_false h0
      obtain ⟨px, py, hyN, hgc⟩ := hfact.out
      obtain ⟨hp, hxl, hxv⟩ := serB_true (polB_ser px)
      obtain ⟨_, hyl, hyv⟩ := serB_true (polB_ser py)
      obtain ⟨M, rfl, hst⟩ := gcdN_step p N x y h0 hyN
      obtain ⟨_, r1, _, r2, _⟩ := div_law (polB_ser px) py (by omega)
      have HN := Lib.hid (show polB p y = true ∧ polB p (remL p x y) = true ∧ (remL p x y).length ≤ M ∧ gcdN p M y (remL p x y) = R from ⟨py, r1, by omega, by rw [← hst]; exact hgc⟩)
      have HP := Lib.hid hp
      have HV := Lib.hid hxv
      have HW := Lib.hid hyv
      have HGL := Lib.hid (show co y (y.length - 1) ≠ 0 from (polB_last py).resolve_left (by omega))
      have HFT := Lib.hid (trim_pol (polB_last px))
      obtain ⟨Z, hZ⟩ : ∃ Z, remL p x y = Z := ⟨_, rfl⟩
      rw [hZ] at HN r2
      have HZ := Lib.hid hZ
      obtain ⟨Q, hQ⟩ : ∃ Q, (divP p x y).1 = Q := ⟨_, rfl⟩
      have HQ := Lib.hid hQ
      have hy1 : 1 ≤ y.length := by omega
      clear px py hyN hgc hp hxv hyv hst r1 hZ hQ hfact h0
      go_wp2_with (go_at_call 83; refine (terms_isZero _ _ _ _).mono ?_; rintro e w1 ⟨rfl, rfl⟩; rw [hd])
      refine (divide_any p Ax _ cx bx x Ay _ cy byy y _ HX.out HY.out HP.out HV.out HW.out (by omega) (by omega) (by omega) HGL.out HFT.out).mono ?_
      rw [HQ.out, HZ.out]
      rintro e w5 ⟨A5, c5, A6, c6, rfl, hO5, hO6, hB5⟩
      obtain ⟨b6, hI6⟩ := OT.it hO6
      have HI6 := Lib.hid hI6
      have HY2 := Lib.hid (HY.out.below hB5)
      have HB2 := Lib.hid (below_more HB.out hB5)
      clear hO5 hO6 hI6 hB5
      go_wp2_with (fail)
      go_roundw
      case rel => exact ⟨M, y, Z, Ay, cy, byy, A6, c6, b6, rfl, rfl, HN.out, HY2.out, HI6.out, HB2.out⟩
      case measure => simp; omega
end Go.Proofs.YtllakclbgmingabDoor

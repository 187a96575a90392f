/-
  The contracts of Frac.lower, checkLow, FracValid.
-/
import Derived.Deep.RegionHeld3
import Derived.Test.YtecmclaockmgeaaDoorLeM
import Derived.Test.YtecmclaockmgeaaDoorBxs
import Derived.Test.YtecmclaockmgeaaDoorErr
import Derived.Test.YtecmclaockmgeaaDoorVal
import Derived.Test.YtecmclaockmgeaaDoorTi
namespace Go.Proofs.YtecmclaockmgeaaDoor
open Go.RowKit
theorem lower_any (v : Value) (p : Int) (U L : List Int) (w : World) (h : RV w v p U L) (hL : L.length ≤ 1048576) :
    Calls Tryd.prog 61 #[v] w (MadeT p L w) := by
  obtain ⟨A, n, c, b, o, A', n', c', b', o', rfl, g1, g2⟩ := h
  have hB0 : Below w.heap.size w (w.alloc (.cells #[.int .i64 p, .slice A n c, .slice A' n' c'] 46)) := (Below.refl _ w).alloc (Nat.le_refl _) _
  have H' := Lib.hid (g2.below hB0)
  have HB0 := Lib.hid hB0
  have hn9 : n' ≤ 1048576 := by rw [← g2.len]; exact hL
  clear g1 g2 hB0 hL
  go_enter Tryd.func61, Tryd.ntmps61
  go_wp2_with (fail)
  refine (termsOf_any p A' n' c' b' o' L _ H'.out hn9).mono ?_
  rintro e w1 ⟨A1, c1, rfl, hO, hB⟩
  have HO := Lib.hid hO
  have HB := Lib.hid hB
  clear hO hB
  go_wp2_with (fail)
  go_ret
  exact ⟨A1, c1, rfl, HO.out.mono HB0.out.size, below_more HB0.out HB.out⟩
theorem upper_any (v : Value) (p : Int) (U L : List Int) (w : World) (h : RV w v p U L) (hL : U.length ≤ 1048576) :
    Calls Tryd.prog 62 #[v] w (MadeT p U w) := by
  obtain ⟨A, n, c, b, o, A', n', c', b', o', rfl, g1, g2⟩ := h
  have hB0 : Below w.heap.size w (w.alloc (.cells #[.int .i64 p, .slice A n c, .slice A' n' c'] 46)) := (Below.refl _ w).alloc (Nat.le_refl _) _
  have H' := Lib.hid (g1.below hB0)
  have HB0 := Lib.hid hB0
  have hn9 : n ≤ 1048576 := by rw [← g1.len]; exact hL
  clear g1 g2 hB0 hL
  go_enter Tryd.func62, Tryd.ntmps62
  go_wp2_with (fail)
  refine (termsOf_any p A n c b o U _ H'.out hn9).mono ?_
  rintro e w1 ⟨A1, c1, rfl, hO, hB⟩
  have HO := Lib.hid hO
  have HB := Lib.hid hB
  clear hO hB
  go_wp2_with (fail)
  go_ret
  exact ⟨A1, c1, rfl, HO.out.mono HB0.out.size, below_more HB0.out HB.out⟩
/-- a lower polynomial without an inverse -/
def badL (L : List Int) : Bool := decide (L.length = 0 ∨ co L 0 = 0)
def errV (ge : Addr) (b : Bool) : Value := if b = true then .iface 119 (.pointer (some ge)) else .nilIface
theorem checkLow_any (p : Int) (A : Option Addr) (n c b : Nat) (xs : List Int) (w : World) (h : IT w A n c b p xs) (ge : Addr) (hge : GE w ge) :
    Calls Tryd.prog 60 #[.slice A n c] w fun e w' => e = .returned (errV ge (badL xs)) ∧ Below w.heap.size w w' := by
  have hl := h.len
  have hcap := h.capn
  have hbig := h.big
  have H := Lib.hid h
  have hg := hge
  unfold GE at hg
  by_cases h0 : n = 0
  · subst h0
    have HE := Lib.hid (show errV ge (badL xs) = .iface 119 (.pointer (some ge)) by unfold errV badL; rw [if_pos (decide_eq_true (.inl hl))])
    clear h hge hl
    go_enter Tryd.func60, Tryd.ntmps60
    go_wp2_with (fail)
    refine (terms_isZero A 0 c _).mono ?_
    rintro e w1 ⟨rfl, rfl⟩
    rw [show decide ((0 : Nat) = 0) = true from rfl]
    go_wp2_with (fail)
    go_ret
    exact ⟨by rw [HE.out]; rfl, Below.refl _ _⟩
  · obtain rfl : A = some ⟨b, 0, none⟩ := by rcases h.adr with ⟨_, h1, _⟩ | h1 <;> first | omega | exact h1
    obtain ⟨x, hx, hxp, hxc⟩ := h.cell 0 (by omega)
    simp only [Nat.zero_mul, Nat.zero_add] at hxp hxc
    have hd : decide (n = 0) = false := decide_eq_false h0
    by_cases hx0 : x = 0
    · subst hx0
      have HE := Lib.hid (show errV ge (badL xs) = .iface 119 (.pointer (some ge)) by unfold errV badL; rw [if_pos (decide_eq_true (.inr (getD_at hx)))])
      clear h hge hl hx
      go_enter Tryd.func60, Tryd.ntmps60
      go_wp2_with (fail)
      refine (terms_isZero _ n c _).mono ?_
      rintro e w1 ⟨rfl, rfl⟩
      rw [hd]
      go_wp2_with (fail)
      refine (res_isZero p 0 _).mono ?_
      rintro e w2 ⟨rfl, hB⟩
      have hg2 := (keep_of_below hB).cell hg (fun h => h)
      have HB := Lib.hid hB
      clear hB
      go_wp2_with (fail)
      go_ret
      exact ⟨by rw [HE.out]; rfl, HB.out⟩
    · have hx1 : (x == 0) = false := by simpa using hx0
      have HE := Lib.hid (show errV ge (badL xs) = .nilIface by unfold errV badL; rw [if_neg (by rw [decide_eq_true_eq]; intro h1; rcases h1 with h1 | h1; exact h0 (by omega); exact hx0 (by rw [← h1]; exact (getD_at hx).symm))])
      clear h hge hl hx
      go_enter Tryd.func60, Tryd.ntmps60
      go_wp2_with (fail)
      refine (terms_isZero _ n c _).mono ?_
      rintro e w1 ⟨rfl, rfl⟩
      rw [hd]
      go_wp2_with (fail)
      refine (res_isZero p x _).mono ?_
      rintro e w2 ⟨rfl, hB⟩
      have HB := Lib.hid hB
      clear hB
      go_wp2_with (fail)
      go_ret
      exact ⟨by rw [HE.out]; rfl, HB.out⟩
theorem is_any (ge : Addr) (b : Bool) (w : World) :
    Calls Tryd.prog 59 #[errV ge b, .iface 119 (.pointer (some ge))] w fun e w' => e = .returned (.bool b) ∧ w' = w := by
  cases b
  · exact is_nil ge w
  · exact is_same ge w
theorem fracB_eq (p : Int) (U L : List Int) : fracB p U L = (polB p U && (polB p L && (decide (U.length ≤ 12) && (decide (L.length ≤ 12) && !badL L)))) := by
  unfold fracB badL
  rw [Bool.eq_iff_iff]
  simp only [Bool.and_eq_true, decide_eq_true_eq, Bool.not_eq_true', decide_eq_false_iff_not, not_or]
  exact ⟨fun ⟨⟨⟨⟨⟨a, b⟩, c⟩, d⟩, e⟩, f⟩ => ⟨a, b, c, d, e, f⟩, fun ⟨a, b, c, d, e, f⟩ => ⟨⟨⟨⟨⟨a, b⟩, c⟩, d⟩, e⟩, f⟩⟩
end Go.Proofs.YtecmclaockmgeaaDoor

/-
  The contract of the model's RecTerms.
-/
import Derived.Test.YtjpmncpbghlkaaaSTerms
import Derived.Test.YtjpmncpbghlkaaaTerms
namespace Go.Proofs.Ytjpmncpbghlkaaa
open Go.RowKit
theorem oi_empty (w : World) (B : Nat) (hB : B ≤ w.heap.size) : OI (w.alloc (.cells #[] 3)) B (some ⟨w.heap.size, 0, none⟩) 0 0 [] :=
  World.ownsRow_made (base := B) (e := 3) (size := 1) w #[] 0 hB (by unfold maxLen; omega) (by simp)
theorem specRecTerms (v : Value) (p : Int) (T F : List Int) (x : Int) (w : World) (h : RV w v p T F) :
    Calls Try.prog 25 #[v, .int .i64 x] w (MadeI (termsO p T F x).length (termsO p T F x) w) := by
  obtain ⟨A, n, c, b, o, A', n', c', b', o', rfl, g1, g2⟩ := h
  have hB0 : Below w.heap.size w (w.alloc (.cells #[.int .i64 p, .slice A n c, .slice A' n' c'] 25)) := (Below.refl _ w).alloc (Nat.le_refl _) _
  have HV0 := Lib.hid (show RV _ (.agg #[.int .i64 p, .slice A n c, .slice A' n' c']) p T F from ⟨_, _, _, _, _, _, _, _, _, _, rfl, g1.below hB0, g2.below hB0⟩)
  have H := Lib.hid (show RV w (.agg #[.int .i64 p, .slice A n c, .slice A' n' c']) p T F from ⟨_, _, _, _, _, _, _, _, _, _, rfl, g1, g2⟩)
  have hz := box3 w (.int .i64 p) (.slice A n c) (.slice A' n' c') 25
  have HZ := Lib.hid hz
  have HB0 := Lib.hid hB0
  clear g1 g2 hB0 hz
  rcases hv : recB p T F
  · have HV := Lib.hid hv
    have HE := Lib.hid (show termsO p T F x = [] by unfold termsO; rw [if_neg (by simp [hv])])
    clear hv
    go_enter Try.func25, Try.ntmps25
    go_wp2_with (go_at_call 17; refine (specRecValid _ p T F _ HV0.out).mono ?_; rintro e w1 ⟨rfl, hB⟩; rw [HV.out]; have HB := Lib.hid hB; clear hB)
    go_ret
    rw [HE.out]
    have hB1 := below_more HB0.out HB.out
    exact ⟨_, 0, rfl, oi_empty _ _ hB1.size, below_more hB1 ((Below.refl _ _).alloc (Nat.le_refl _) _)⟩
  have HV := Lib.hid hv
  clear hv
  by_cases hx : 0 ≤ x ∧ x ≤ 24
  case neg =>
    have HE := Lib.hid (show termsO p T F x = [] by unfold termsO; rw [if_neg (by simp only [not_and]; intro _; omega)])
    have HI := Lib.hid (show inB x 0 24 = false by unfold inB; rw [Bool.eq_false_iff]; simp; omega)
    go_enter Try.func25, Try.ntmps25
    go_wp2_with (first | (go_at_call 17; refine (specRecValid _ p T F _ HV0.out).mono ?_; rintro e w1 ⟨rfl, hB⟩; rw [HV.out]; have HB := Lib.hid hB; clear hB) | (go_at_call 57; refine (specIn _ _ _ _).mono ?_; rintro e w1 ⟨rfl, rfl⟩; rw [HI.out]))
    go_ret
    rw [HE.out]
    have hB1 := below_more HB0.out HB.out
    exact ⟨_, 0, rfl, oi_empty _ _ hB1.size, below_more hB1 ((Below.refl _ _).alloc (Nat.le_refl _) _)⟩
  obtain ⟨m, rfl⟩ : ∃ m : Nat, x = (m : Int) := ⟨x.toNat, by omega⟩
  have hm : m ≤ 24 := by omega
  have HE := Lib.hid (show termsO p T F (m : Int) = trm p T F m by unfold termsO; rw [if_pos ⟨HV.out, hx⟩]; rfl)
  have HI := Lib.hid (show inB (m : Int) 0 24 = true by unfold inB; rw [Bool.and_eq_true]; exact ⟨decide_eq_true hx.1, decide_eq_true hx.2⟩)
  clear hx
  go_enter Try.func25, Try.ntmps25
  go_wp2_with (first | (go_at_call 17; refine (specRecValid _ p T F _ HV0.out).mono ?_; rintro e w1 ⟨rfl, hB⟩; rw [HV.out]; have k0 := (keep_of_below hB).cell HZ.out.1 (fun h => h); have k1 := (keep_of_below hB).cell HZ.out.2.1 (fun h => h); have k2 := (keep_of_below hB).cell HZ.out.2.2 (fun h => h); have HB := Lib.hid hB; clear hB) | (go_at_call 57; refine (specIn _ _ _ _).mono ?_; rintro e w1 ⟨rfl, rfl⟩; rw [HI.out]))
  have hB1 := below_more HB0.out HB.out
  refine (specL3 _ p T F m _ (H.out.below hB1) HV.out (by omega)).mono ?_
  rintro e w3 ⟨A3, c3, rfl, hO, hB3⟩
  have HO := Lib.hid (owns_mono hO hB1.size)
  have HB3 := Lib.hid (below_more hB1 hB3)
  clear hO hB3 hB1
  go_wp2_with (fail)
  go_ret
  rw [HE.out, trm_len]
  exact ⟨_, _, rfl, HO.out, HB3.out⟩
end Go.Proofs.Ytjpmncpbghlkaaa

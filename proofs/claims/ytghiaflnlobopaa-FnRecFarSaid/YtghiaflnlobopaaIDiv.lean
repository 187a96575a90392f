/-
  The contracts of PolyDivide, of the program and of its model.
-/
import Derived.Test.YtghiaflnlobopaaDvI
import Derived.Test.YtghiaflnlobopaaDvS
import Derived.Test.YtghiaflnlobopaaPolN
import Derived.OwnWalk
namespace Go.Proofs.Ytghiaflnlobopaa
open Go.RowKit
theorem divS_len (p : Int) (g : List Int) (bk : Int) : ∀ (k : Nat) (q r : List Int), (divS p g bk k q r).1.length = q.length
  | 0, q, r => rfl
  | k + 1, q, r => by
    show (divS p g bk k (q.set k _) _).1.length = _
    rw [divS_len p g bk k, List.length_set]
theorem divP_len (p : Int) (f g : List Int) : (divP p f g).1.length = divN f g := by
  unfold divP; rw [divS_len, List.length_replicate]
theorem quo_full {p : Int} {f g : List Int} (hf : polB p f = true) (hg : polB p g = true) (h1 : 1 ≤ g.length) : (divP p f g).1 = quoL p f g := by
  obtain ⟨q1, q2, q3, q4, q5⟩ := div_law (polB_ser hf) hg h1
  have hlen := divP_len p f g
  symm
  unfold quoL
  refine trim_pol ?_
  by_cases hN : divN f g = 0
  · left; rw [hlen, hN]
  right
  intro h0
  have hNn : divN f g + g.length = f.length + 1 := by unfold divN at hN ⊢; split at hN <;> (split <;> omega)
  have hq0 : ∀ k, divN f g - 1 ≤ k → co (quoL p f g) k = 0 := fun k hk => by
    by_cases e : k = divN f g - 1
    · rw [e]; unfold quoL; rw [co_trim, ← hlen]; exact h0
    · exact co_far (by omega)
  have h5 := q5 (f.length - 1)
  have hcv : cv (co g) (co (quoL p f g)) (f.length - 1) = 0 := by
    rw [show f.length - 1 = (g.length - 1) + (divN f g - 1) by omega, cv_top (fun k hk => co_far (by omega)) (fun k hk => hq0 k (by omega)), hq0 _ (Nat.le_refl _), Int.mul_zero]
  rw [hcv, co_far (f := remL p f g) (by omega)] at h5
  simp only [Int.add_zero, Int.sub_zero] at h5
  have hb := co_bd (polB_ser hf) (f.length - 1)
  have hz := near_zero h5 hb.1 hb.2
  rcases polB_last hf with h | h
  · omega
  · exact h hz
def polDiv (p : Int) (f g : List Int) : Option (List Int × List Int) := if polB p f = true ∧ polB p g = true ∧ g.length ≠ 0 then some (quoL p f g, remL p f g) else none
theorem polDiv_bd (p : Int) (f g : List Int) : ((polDiv p f g).getD ([], [])).1.length ≤ 1048576 ∧ ((polDiv p f g).getD ([], [])).2.length ≤ 1048576 := by
  unfold polDiv
  split
  · rename_i h
    obtain ⟨q1, q2, _, _, _⟩ := div_law (polB_ser h.1) h.2.1 (by have := h.2.2; omega)
    have h1 := (serB_true (polB_ser q1)).2.1
    have h2 := (serB_true (polB_ser q2)).2.1
    exact ⟨by show (quoL p f g).length ≤ _; omega, by show (remL p f g).length ≤ _; omega⟩
  · simp
/-- two rows and whether there are -/
def MadeO2 (R : Option (List Int × List Int)) (w : World) (e : Ending) (w' : World) : Prop :=
  ∃ (A : Option Addr) (c : Nat) (A' : Option Addr) (c' : Nat), e = .returned (.tuple #[.slice A (R.getD ([], [])).1.length c, .slice A' (R.getD ([], [])).2.length c', .bool R.isSome]) ∧ OI w' w.heap.size A (R.getD ([], [])).1.length c (R.getD ([], [])).1 ∧ OI w' w.heap.size A' (R.getD ([], [])).2.length c' (R.getD ([], [])).2 ∧ Apart (.slice A (R.getD ([], [])).1.length c) (.slice A' (R.getD ([], [])).2.length c') ∧ Below w.heap.size w w'
theorem made2_no {w w1 : World} (hb : Below w.heap.size w w1) : MadeO2 none w (.returned (.tuple #[.slice (some ⟨w1.heap.size, 0, none⟩) 0 0, .slice (some ⟨w1.heap.size + 1, 0, none⟩) 0 0, .bool false])) ((w1.alloc (.cells #[] 3)).alloc (.cells #[] 3)) := by
  have h2 : OI ((w1.alloc (.cells #[] 3)).alloc (.cells #[] 3)) (w1.alloc (.cells #[] 3)).heap.size (some ⟨(w1.alloc (.cells #[] 3)).heap.size, 0, none⟩) 0 0 [] := OI.empty _
  have e : (w1.alloc (.cells #[] 3)).heap.size = w1.heap.size + 1 := by simp
  rw [e] at h2
  exact ⟨_, 0, _, 0, rfl, owns_mono (World.ownsRow.alloc (OI.empty w1) _) hb.size, owns_mono h2 (by have := hb.size; omega), .inr (by simp [Value.ownBlock]), (hb.alloc hb.size _).alloc (by have := hb.size; simp; omega) _⟩
end Go.Proofs.Ytghiaflnlobopaa

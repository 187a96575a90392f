/-
  The contracts of PolyDivide, of the program and of its model.
-/
import Derived.Test.YtjpmncpbghlkaabDvI
import Derived.Test.YtjpmncpbghlkaabDvS
import Derived.Test.YtjpmncpbghlkaabPolN
import Derived.OwnWalk
namespace Go.Proofs.Ytjpmncpbghlkaab
open Go.RowKit
theorem divS_len (p : Int) (g : List Int) (bk : Int) : ∀ (k : Nat) (q r : List Int), (divS p g bk k q r).1.length = q.length
  | 0, q, r => rfl
  | k + 1, q, r => by
    show (divS p g bk k (q.set k _) _).1.length = _
    rw [divS_len p g bk k, List.length_set]
theorem divP_len (p : Int) (f g : List Int) : (divP p f g).1.length = divN f g := by
  unfold divP; rw [divS_len, List.length_replicate]
theorem quo_full {p : Int} {f g : List Int} (hf : polB p f = true) (hg : polB p g = true) (h1 : 1 ≤ g.length) : (divP p f g).1 = quoL p f g := by
  obtain ⟨q1, q2, q3, q4, q5⟩ := div_law (polB_ser hf) hg h1
  have hlen := divP_len p f g
  symm
  unfold quoL
  refine trim_pol ?_
  by_cases hN : divN f g = 0
  · left; rw [hlen, hN]
  right
  intro h0
  have hNn : divN f g + g.length = f.length + 1 := by unfold divN at hN ⊢; split at hN <;> (split <;> omega)
  have hq0 : ∀ k, divN f g - 1 ≤ k → co (quoL p f g) k = 0 := fun k hk => by
    by_cases e : k = divN f g - 1
    · rw [e]; unfold quoL; rw [co_trim, ← hlen]; exact h0
    · exact co_far (by omega)
  have h5 := q5 (f.length - 1)
  have hcv : cv (co g) (co (quoL p f g)) (f.length - 1) = 0 := by
    rw [show f.length - 1 = (g.length - 1) + (divN f g - 1) by omega, cv_top (fun k hk => co_far (by omega)) (fun k hk => hq0 k (by omega)), hq0 _ (Nat.le_refl _), Int.mul_zero]
  rw [hcv, co_far (f := remL p f g) (by omega)] at h5
  simp only [Int.add_zero, Int.sub_zero] at h5
  have hb := co_bd (polB_ser hf) (f.length - 1)
  have hz := near_zero h5 hb.1 hb.2
  rcases polB_last hf with h | h
  · omega
  · exact h hz
def polDiv (p : Int) (f g : List Int) : Option (List Int × List Int) := if polB p f = true ∧ polB p g = true ∧ g.length ≠ 0 then some (quoL p f g, remL p f g) else none
theorem polDiv_bd (p : Int) (f g : List Int) : ((polDiv p f g).getD ([], [])).1.length ≤ 1048576 ∧ ((polDiv p f g).getD ([], [])).2.length ≤ 1048576 := by
  unfold polDiv
  split
  · rename_i h
    obtain ⟨q1, q2, _, _, _⟩ := div_law (polB_ser h.1) h.2.1 (by have := h.2.2; omega)
    have h1 := (serB_true (polB_ser q1)).2.1
    have h2 := (serB_true (polB_ser q2)).2.1
    exact ⟨by show (quoL p f g).length ≤ _; omega, by show (remL p f g).length ≤ _; omega⟩
  · simp
/-- two rows and whether there are -/
def MadeO2 (R : Option (List Int × List Int)) (w : World) (e : Ending) (w' : World) : Prop :=
  ∃ (A : Option Addr) (c : Nat) (A' : Option Addr) (c' : Nat), e = .returned (.tuple #[.slice A (R.getD ([], [])).1.length c, .slice A' (R.getD ([], [])).2.length c', .bool R.isSome]) ∧ OI w' w.heap.size A (R.getD ([], [])).1.length c (R.getD ([], [])).1 ∧ OI w' w.heap.size A' (R.getD ([], [])).2.length c' (R.getD ([], [])).2 ∧ Apart (.slice A (R.getD ([], [])).1.length c) (.slice A' (R.getD ([], [])).2.length c') ∧ Below w.heap.size w w'
theorem made2_no {w w1 : World} (hb : Below w.heap.size w w1) : MadeO2 none w (.returned (.tuple #[.slice (some ⟨w1.heap.size, 0, none⟩) 0 0, .slice (some ⟨w1.heap.size + 1, 0, none⟩) 0 0, .bool false])) ((w1.alloc (.cells #[] 3)).alloc (.cells #[] 3)) := by
  have h2 : OI ((w1.alloc (.cells #[] 3)).alloc (.cells #[] 3)) (w1.alloc (.cells #[] 3)).heap.size (some ⟨(w1.alloc (.cells #[] 3)).heap.size, 0, none⟩) 0 0 [] := OI.empty _
  have e : (w1.alloc (.cells #[] 3)).heap.size = w1.heap.size + 1 := by simp
  rw [e] at h2
  exact ⟨_, 0, _, 0, rfl, owns_mono (World.ownsRow.alloc (OI.empty w1) _) hb.size, owns_mono h2 (by have := hb.size; omega), .inr (by simp [Value.ownBlock]), (hb.alloc hb.size _).alloc (by have := hb.size; simp; omega) _⟩
set_option maxHeartbeats 1000000 in
theorem implPolyDivide (p : Int) (A : Option Addr) (n c b o : Nat) (f : List Int) (A' : Option Addr) (n' c' b' o' : Nat) (g : List Int) (w : World) (h : IA w A n b o f) (h' : IA w A' n' b' o' g) :
    Calls Try.prog 38 #[.int .i64 p, .slice A n c, .slice A' n' c'] w (MadeO2 (polDiv p f g) w) := by
  have hl := h.len
  have hl' := h'.len
  have H := Lib.hid h
  have H' := Lib.hid h'
  clear h h'
  rcases hv : polB p f
  · have HV := Lib.hid hv
    have HR := Lib.hid (show polDiv p f g = none by unfold polDiv; rw [if_neg (by simp [hv])])
    clear hv
    go_enter Try.func38, Try.ntmps38
    go_wp2_with (fail)
    refine (implPolyValid p A n c b o f _ H.out).mono ?_
    rintro e w1 ⟨rfl, rfl⟩
    rw [HV.out]
    go_wp2_with (fail)
    go_ret3
    rw [HR.out]; exact ⟨none, 0, none, 0, rfl, World.ownsRow_nil _ _ _ _, World.ownsRow_nil _ _ _ _, .inl rfl, Below.refl _ _⟩
  rcases hv' : polB p g
  · have HV := Lib.hid hv
    have HV' := Lib.hid hv'
    have HR := Lib.hid (show polDiv p f g = none by unfold polDiv; rw [if_neg (by simp [hv'])])
    clear hv hv'
    go_enter Try.func38, Try.ntmps38
    go_wp2_with (fail)
    refine (implPolyValid p A n c b o f _ H.out).mono ?_
    rintro e w1 ⟨rfl, rfl⟩
    rw [HV.out]
    go_wp2_with (fail)
    refine (implPolyValid p A' n' c' b' o' g _ H'.out).mono ?_
    rintro e w2 ⟨rfl, rfl⟩
    rw [HV'.out]
    go_wp2_with (fail)
    go_ret3
    rw [HR.out]; exact ⟨none, 0, none, 0, rfl, World.ownsRow_nil _ _ _ _, World.ownsRow_nil _ _ _ _, .inl rfl, Below.refl _ _⟩
  by_cases hn0 : n' = 0
  · subst hn0
    have HV := Lib.hid hv
    have HV' := Lib.hid hv'
    have HR := Lib.hid (show polDiv p f g = none by unfold polDiv; rw [if_neg (by omega)])
    clear hv hv'
    go_enter Try.func38, Try.ntmps38
    go_wp2_with (fail)
    refine (implPolyValid p A n c b o f _ H.out).mono ?_
    rintro e w1 ⟨rfl, rfl⟩
    rw [HV.out]
    go_wp2_with (fail)
    refine (implPolyValid p A' 0 c' b' o' g _ H'.out).mono ?_
    rintro e w2 ⟨rfl, rfl⟩
    rw [HV'.out]
    go_wp2_with (fail)
    go_ret3
    rw [HR.out]; exact ⟨none, 0, none, 0, rfl, World.ownsRow_nil _ _ _ _, World.ownsRow_nil _ _ _ _, .inl rfl, Below.refl _ _⟩
  · have HV := Lib.hid hv
    have HV' := Lib.hid hv'
    have hnz : ((n' : Int) == 0) = false := by simpa using hn0
    have HR := Lib.hid (show polDiv p f g = some (quoL p f g, remL p f g) by unfold polDiv; rw [if_pos ⟨hv, hv', by omega⟩])
    obtain ⟨hp, hfl, hfv⟩ := serB_true (polB_ser hv)
    obtain ⟨_, hgl, hgv⟩ := serB_true (polB_ser hv')
    have HP := Lib.hid hp
    have HFV := Lib.hid hfv
    have HGV := Lib.hid hgv
    have HQF := Lib.hid (quo_full hv hv' (by omega))
    have HFT := Lib.hid (trim_pol (polB_last hv))
    have HGL := Lib.hid (show co g (g.length - 1) ≠ 0 from (polB_last hv').resolve_left (by omega))
    obtain ⟨q1, q2, q3, q4, _⟩ := div_law (polB_ser hv) hv' (by omega)
    have hql := (serB_true (polB_ser q1)).2.1
    have hrl := (serB_true (polB_ser q2)).2.1
    obtain ⟨Q, hQ⟩ : ∃ Q, quoL p f g = Q := ⟨_, rfl⟩
    obtain ⟨R, hR⟩ : ∃ R, remL p f g = R := ⟨_, rfl⟩
    rw [hQ] at hql
    rw [hR] at hrl
    have HQ := Lib.hid hQ
    have HRR := Lib.hid hR
    clear hv hv' hp hfv hgv q1 q2 q3 q4 hQ hR
    go_enter Try.func38, Try.ntmps38
    go_wp2_with (fail)
    refine (implPolyValid p A n c b o f _ H.out).mono ?_
    rintro e w1 ⟨rfl, rfl⟩
    rw [HV.out]
    go_wp2_with (fail)
    refine (implPolyValid p A' n' c' b' o' g _ H'.out).mono ?_
    rintro e w2 ⟨rfl, rfl⟩
    rw [HV'.out]
    go_wp2_with (fail)
    refine (termsOf_any p A n c b o f _ H.out (by omega)).mono ?_
    rintro e w3 ⟨A3, c3, rfl, hO3, hB3⟩
    rw [hl] at hO3 ⊢
    obtain ⟨b3, hI3⟩ := OT.it hO3
    have HI3 := Lib.hid hI3
    clear hO3 hI3
    go_wp2_with (fail)
    refine (termsOf_any p A' n' c' b' o' g _ (H'.out.below hB3) (by omega)).mono ?_
    rintro e w4 ⟨A4, c4, rfl, hO4, hB4⟩
    rw [hl'] at hO4 ⊢
    obtain ⟨b4, hI4⟩ := OT.it hO4
    have HI4 := Lib.hid hI4
    have HI3' := Lib.hid (HI3.out.below hB4)
    have hB4' := below_more hB3 hB4
    clear hO4 hI4 hB3 hB4
    go_wp2_with (fail)
    refine (divide_any p A3 n c3 b3 f A4 n' c4 b4 g _ HI3'.out HI4.out HP.out HFV.out HGV.out (by omega) (by omega) (by omega) HGL.out HFT.out).mono ?_
    rw [HQF.out, HQ.out, HRR.out]
    rintro e w5 ⟨A5, c5, A6, c6, rfl, hO5, hO6, hB5⟩
    obtain ⟨b5, hI5⟩ := OT.it hO5
    obtain ⟨b6, hI6⟩ := OT.it hO6
    have HI5 := Lib.hid hI5
    have HI6 := Lib.hid hI6
    have hB5' := below_more hB4' hB5
    clear hO5 hO6 hI5 hI6 hB4' hB5
    go_wp2_with (fail)
    refine (numbersOf_any p A5 _ c5 b5 Q _ HI5.out (by omega)).mono ?_
    rintro e w7 ⟨A7, c7, rfl, hO7, hB7⟩
    have HO7 := Lib.hid hO7
    have HI6' := Lib.hid (HI6.out.below hB7)
    have hB7' := below_more hB5' hB7
    have hs5 := hB5'.size
    have hs7 := hB7.size
    clear hO7 hB7
    go_wp2_with (fail)
    refine (numbersOf_any p A6 _ c6 b6 R _ HI6'.out (by omega)).mono ?_
    rintro e w8 ⟨A8, c8, rfl, hO8, hB8⟩
    have HO8 := Lib.hid hO8
    have HO7' := Lib.hid (OIb HO7.out hB8)
    have HAP := Lib.hid (apart_new HO7.out hO8 (Nat.le_refl _))
    have hB8' := below_more hB7' hB8
    clear hO8 hB8
    go_wp2_with (fail)
    go_ret3
    rw [HR.out, HQ.out, HRR.out]
    exact ⟨_, _, _, _, rfl, owns_mono HO7'.out hs5, owns_mono HO8.out (by omega), HAP.out, hB8'⟩

end Go.Proofs.Ytjpmncpbghlkaab

/-
  The contract of leastFrac.
-/
import Derived.Test.YtllakclbgmingabDoorLeJ
import Derived.Test.YtllakclbgmingabDoorFrM
import Derived.Test.YtllakclbgmingabDoorEx
namespace Go.Proofs.YtllakclbgmingabDoor
open Go.RowKit
theorem apart_own {w1 w2 : World} {B B' n c n' c' : Nat} {A A' : Option Addr} {xs ys : List Int} (h : OI w1 B A n c xs) (h' : OI w2 B' A' n' c' ys) (hB : w1.heap.size ≤ B') : Apart (.slice A n c) (.slice A' n' c') := by
  rcases hg : (Value.slice A n c).ownBlock with _ | g
  · exact .inl hg
  · right
    rw [hg]
    intro e
    have h1 := (h.lt g hg).2
    have h2 := (h'.lt g e.symm).1
    omega
/-- three parts and whether there are -/
def MadeRB (R : Option (Int × List Int × List Int)) (w : World) (e : Ending) (w' : World) : Prop :=
  ∃ v, e = .returned (.tuple #[v, .bool R.isSome]) ∧ RO w' w.heap.size v (R.getD (0, [], [])).1 (R.getD (0, [], [])).2.1 (R.getD (0, [], [])).2.2 ∧ Below w.heap.size w w'
theorem ro_zero (w : World) (B : Nat) : RO w B (.agg #[.int .i64 0, .slice none 0 0, .slice none 0 0]) 0 [] [] :=
  ⟨none, 0, none, 0, rfl, World.ownsRow_nil _ _ _ _, World.ownsRow_nil _ _ _ _, .inl rfl⟩
theorem leastR_no {p : Int} {f g : List Int} (h : badL g = true ∨ 12 < (leastL p f g).1.length ∨ 12 < (leastL p f g).2.length) : leastR p f g = none := by
  unfold leastR leastO
  rw [if_neg]
  · rfl
  · rintro ⟨h1, h2, h3, h4⟩
    rcases h with h | h | h
    · rcases of_decide_eq_true h with h | h
      · exact h1 h
      · exact h2 h
    · omega
    · omega
set_option maxRecDepth 100000 in
set_option maxHeartbeats 4000000 in
theorem leastFrac_any (p : Int) (A : Option Addr) (n c b : Nat) (f : List Int) (A' : Option Addr) (n' c' b' : Nat) (g : List Int) (w : World) (h : IT w A n c b p f) (h' : IT w A' n' c' b' p g) (hf : polB p f = true) (hg : polB p g = true) (ge : Addr) (hge : GE w ge) :
    Calls Tryd.prog 33 #[.int .i64 p, .slice A n c, .slice A' n' c'] w (MadeRB (leastR p f g) w) := by
  have H := Lib.hid h
  have H' := Lib.hid h'
  have HF := Lib.hid hf
  have HGP := Lib.hid hg
  have HG := Lib.hid hge
  clear h h' hf hg hge
  have HW := Lib.hid (BxW.new w (.int .i64 0) (.slice none 0 0) (.slice none 0 0) 25)
  have hb0 := below_new w (.cells #[.int .i64 0, .slice none 0 0, .slice none 0 0] 25)
  have HB0 := Lib.hid hb0
  have H0 := Lib.hid (H.out.below hb0)
  have H0' := Lib.hid (H'.out.below hb0)
  have HG0 := Lib.hid (HG.out.below hb0)
  clear hb0
  go_enter Tryd.func33, Tryd.ntmps33
  go_wp2_with (fail)
  refine (lowestTerms_any p A n c b f A' n' c' b' g _ H0.out H0'.out HF.out HGP.out ge HG0.out).mono ?_
  rintro e w1 (⟨hbad, rfl, hB⟩ | ⟨hbad, A1, c1, b1, A2, c2, b2, rfl, hI1, hI2, hB⟩)
  · have HR := Lib.hid (show leastR p f g = none from leastR_no (.inl hbad))
    have HB1 := Lib.hid (below_more HB0.out hB)
    have HG1 := HG0.out.below hB
    unfold GE at HG1
    have HW1 := Lib.hid (HW.out.below hB)
    clear hB hbad
    obtain ⟨x0, x1, x2⟩ := HW1.out.c
    have fz := HW1.out.fz
    go_wp2_with (fail)
    refine (is_same ge _).mono ?_
    rintro e w2 ⟨rfl, rfl⟩
    go_wp2_with (fail)
    refine bodyPost_ret (v := .tuple #[.agg #[.int .i64 0, .slice none 0 0, .slice none 0 0], .bool false]) (by simp [results, Tryd.f33, go_sem, x0, x1, x2]) rfl ?_
    rw [HR.out]
    exact ⟨_, rfl, ro_zero _ _, HB1.out.trans (set3_far _ w.heap.size _ _ _ (Nat.le_refl _) HB1.out.size)⟩
  · obtain ⟨X, hX⟩ : ∃ X, (leastL p f g).1 = X := ⟨_, rfl⟩
    obtain ⟨Y, hY⟩ : ∃ Y, (leastL p f g).2 = Y := ⟨_, rfl⟩
    rw [hX] at hI1
    rw [hY] at hI2
    rw [hX, hY]
    have HX := Lib.hid hX
    have HY := Lib.hid hY
    have HBAD := Lib.hid hbad
    have HI1 := Lib.hid hI1
    have HI2 := Lib.hid hI2
    have HB1 := Lib.hid (below_more HB0.out hB)
    have HG1 := HG0.out.below hB
    unfold GE at HG1
    have HW1 := Lib.hid (HW.out.below hB)
    clear hB hbad hX hY hI1 hI2
    obtain ⟨x0, x1, x2⟩ := HW1.out.c
    have fz := HW1.out.fz
    by_cases hlt : X.length < Y.length
    · by_cases h12 : Y.length ≤ 12
      case neg =>
        have h12i : (12 : Int) < (Y.length : Int) := by omega
        have HR := Lib.hid (show leastR p f g = none from leastR_no (.inr (.inr (by rw [HY.out]; omega))))
        go_wp2_with (fail)
        refine (is_nil ge _).mono ?_
        rintro e w2 ⟨rfl, rfl⟩
        go_wp2_with (fail)
        refine bodyPost_ret (v := .tuple #[.agg #[.int .i64 0, .slice none 0 0, .slice none 0 0], .bool false]) (by simp [results, Tryd.f33, go_sem, x0, x1, x2]) rfl ?_
        rw [HR.out]
        exact ⟨_, rfl, ro_zero _ _, HB1.out.trans (set3_far _ w.heap.size _ _ _ (Nat.le_refl _) HB1.out.size)⟩
      have h12i : ¬ (12 : Int) < (Y.length : Int) := by omega
      have HN := Lib.hid (show X.length ≤ 12 ∧ Y.length ≤ 12 by omega)
      clear h12
      go_wp2_with (fail)
      refine (is_nil ge _).mono ?_
      rintro e w2 ⟨rfl, rfl⟩
      go_wp2_with (fail)
      refine (numbersOf_any p A1 _ c1 b1 X _ HI1.out (by have := HN.out.1; omega)).mono ?_
      rintro e w3 ⟨A3, c3, rfl, hO3, hB⟩
      have HO3 := Lib.hid hO3
      have HB2 := Lib.hid (below_more HB1.out hB)
      have HI2b := Lib.hid (HI2.out.below hB)
      have HW2 := Lib.hid (HW1.out.below hB)
      clear hO3 hB x0 x1 x2 fz
      go_wp2_with (fail)
      refine (numbersOf_any p A2 _ c2 b2 Y _ HI2b.out (by have := HN.out.2; omega)).mono ?_
      rintro e w4 ⟨A4, c4, rfl, hO4, hB⟩
      have HO4 := Lib.hid hO4
      have HO3b := Lib.hid (OIb HO3.out hB)
      have HAP := Lib.hid (apart_own HO3.out hO4 (Nat.le_refl _))
      have HB3 := Lib.hid (below_more HB2.out hB)
      have HW3 := Lib.hid (HW2.out.below hB)
      have hs2 := HB1.out.size
      have hs3 := HB2.out.size
      have hlo := HW1.out.c.lt
      have hlo2 := HW2.out.c.lt
      clear hO4 hB
      obtain ⟨x0, x1, x2⟩ := HW3.out.c
      have fz := HW3.out.fz
      have HR := Lib.hid (show leastR p f g = some (p, X, Y) from by
        have hb := of_decide_eq_false HBAD.out
        have := leastR_yes (p := p) (up := f) (low := g) (fun h => hb (.inl h)) (fun h => hb (.inr h)) (by rw [HX.out]; exact HN.out.1) (by rw [HY.out]; exact HN.out.2)
        rw [this, HX.out, HY.out])
      go_wp2_with (fail)
      refine bodyPost_ret (v := .tuple #[.agg #[.int .i64 p, .slice A3 X.length c3, .slice A4 Y.length c4], .bool true]) (by simp [results, Tryd.f33, go_sem, x0, x1, x2]) rfl ?_
      rw [HR.out]
      obtain ⟨_, he, hr, hb⟩ := made_set3 (g := w.heap.size) (p := p) HB3.out rfl rfl HO3b.out HO4.out hs2 hs3 (Nat.le_refl _) (fun k hk => by have := (HO3.out.lt k hk).1; omega) (fun k hk => by have := (HO4.out.lt k hk).1; omega) HAP.out
      cases he
      exact ⟨_, rfl, hr, hb⟩
    · by_cases h12 : X.length ≤ 12
      case neg =>
        have h12i : (12 : Int) < (X.length : Int) := by omega
        have HR := Lib.hid (show leastR p f g = none from leastR_no (.inr (.inl (by rw [HX.out]; omega))))
        go_wp2_with (fail)
        refine (is_nil ge _).mono ?_
        rintro e w2 ⟨rfl, rfl⟩
        go_wp2_with (fail)
        refine bodyPost_ret (v := .tuple #[.agg #[.int .i64 0, .slice none 0 0, .slice none 0 0], .bool false]) (by simp [results, Tryd.f33, go_sem, x0, x1, x2]) rfl ?_
        rw [HR.out]
        exact ⟨_, rfl, ro_zero _ _, HB1.out.trans (set3_far _ w.heap.size _ _ _ (Nat.le_refl _) HB1.out.size)⟩
      have h12i : ¬ (12 : Int) < (X.length : Int) := by omega
      have HN := Lib.hid (show X.length ≤ 12 ∧ Y.length ≤ 12 by omega)
      clear h12
      go_wp2_with (fail)
      refine (is_nil ge _).mono ?_
      rintro e w2 ⟨rfl, rfl⟩
      go_wp2_with (fail)
      refine (numbersOf_any p A1 _ c1 b1 X _ HI1.out (by have := HN.out.1; omega)).mono ?_
      rintro e w3 ⟨A3, c3, rfl, hO3, hB⟩
      have HO3 := Lib.hid hO3
      have HB2 := Lib.hid (below_more HB1.out hB)
      have HI2b := Lib.hid (HI2.out.below hB)
      have HW2 := Lib.hid (HW1.out.below hB)
      clear hO3 hB x0 x1 x2 fz
      go_wp2_with (fail)
      refine (numbersOf_any p A2 _ c2 b2 Y _ HI2b.out (by have := HN.out.2; omega)).mono ?_
      rintro e w4 ⟨A4, c4, rfl, hO4, hB⟩
      have HO4 := Lib.hid hO4
      have HO3b := Lib.hid (OIb HO3.out hB)
      have HAP := Lib.hid (apart_own HO3.out hO4 (Nat.le_refl _))
      have HB3 := Lib.hid (below_more HB2.out hB)
      have HW3 := Lib.hid (HW2.out.below hB)
      have hs2 := HB1.out.size
      have hs3 := HB2.out.size
      have hlo := HW1.out.c.lt
      have hlo2 := HW2.out.c.lt
      clear hO4 hB
      obtain ⟨x0, x1, x2⟩ := HW3.out.c
      have fz := HW3.out.fz
      have HR := Lib.hid (show leastR p f g = some (p, X, Y) from by
        have hb := of_decide_eq_false HBAD.out
        have := leastR_yes (p := p) (up := f) (low := g) (fun h => hb (.inl h)) (fun h => hb (.inr h)) (by rw [HX.out]; exact HN.out.1) (by rw [HY.out]; exact HN.out.2)
        rw [this, HX.out, HY.out])
      go_wp2_with (fail)
      refine bodyPost_ret (v := .tuple #[.agg #[.int .i64 p, .slice A3 X.length c3, .slice A4 Y.length c4], .bool true]) (by simp [results, Tryd.f33, go_sem, x0, x1, x2]) rfl ?_
      rw [HR.out]
      obtain ⟨_, he, hr, hb⟩ := made_set3 (g := w.heap.size) (p := p) HB3.out rfl rfl HO3b.out HO4.out hs2 hs3 (Nat.le_refl _) (fun k hk => by have := (HO3.out.lt k hk).1; omega) (fun k hk => by have := (HO4.out.lt k hk).1; omega) HAP.out
      cases he
      exact ⟨_, rfl, hr, hb⟩
end Go.Proofs.YtllakclbgmingabDoor

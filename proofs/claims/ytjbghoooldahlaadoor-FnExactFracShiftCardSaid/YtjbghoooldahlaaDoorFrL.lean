/-
  The contracts of FracLeast, of both sides.
-/
import Derived.Test.YtjbghoooldahlaaDoorLeK
import Derived.Test.YtjbghoooldahlaaDoorFrW
import Derived.Test.YtjbghoooldahlaaDoorSLe
namespace Go.Proofs.YtjbghoooldahlaaDoor
open Go.RowKit
theorem leastFrac_some (p : Int) (A : Option Addr) (n c b : Nat) (f : List Int) (A' : Option Addr) (n' c' b' : Nat) (g : List Int) (w : World) (h : IT w A n c b p f) (h' : IT w A' n' c' b' p g) (hf : polB p f = true) (hg : polB p g = true) (ge : Addr) (hge : GE w ge) (q : Int) (X Y : List Int) (hR : leastR p f g = some (q, X, Y)) :
    Calls Tryd.prog 28 #[.int .i64 p, .slice A n c, .slice A' n' c'] w fun e w' => ∃ (A3 : Option Addr) (c3 : Nat) (A4 : Option Addr) (c4 : Nat), e = .returned (.tuple #[.agg #[.int .i64 q, .slice A3 X.length c3, .slice A4 Y.length c4], .bool true]) ∧ OI w' w.heap.size A3 X.length c3 X ∧ OI w' w.heap.size A4 Y.length c4 Y ∧ Apart (.slice A3 X.length c3) (.slice A4 Y.length c4) ∧ Below w.heap.size w w' := by
  refine (leastFrac_any p A n c b f A' n' c' b' g w h h' hf hg ge hge).mono ?_
  rw [hR]
  rintro e w' ⟨_, rfl, ⟨A3, c3, A4, c4, rfl, h1, h2, h3⟩, hB⟩
  exact ⟨A3, c3, A4, c4, rfl, h1, h2, h3, hB⟩
theorem RO.put3 {W : World} {B g : Nat} {v x y z : Value} {p : Int} {T F : List Int} (h : RO W B v p T F) (hg : g < B) : RO (set3 W g x y z) B v p T F :=
  h.keep (set3_keep W g x y z) (fun k hk e => by have := (h.lt k hk).1; omega)
theorem BxW.put {W : World} {g : Nat} {a b c : Value} (h : BxW W g a b c) (x y z : Value) : Bx (set3 W g x y z) g x y z := by
  obtain ⟨⟨h0, h1, h2⟩, _⟩ := h
  refine ⟨?_, ?_, ?_⟩
  · unfold set3
    rw [World.cell?_setCell_other _ ⟨g, 2, none⟩ ⟨g, 0, none⟩ _ (by simp), World.cell?_setCell_other _ ⟨g, 1, none⟩ ⟨g, 0, none⟩ _ (by simp)]
    exact World.cell?_setCell_same' _ _ _ (by rw [h0]; rfl)
  · unfold set3
    rw [World.cell?_setCell_other _ ⟨g, 2, none⟩ ⟨g, 1, none⟩ _ (by simp)]
    exact World.cell?_setCell_same' _ _ _ (by rw [World.cell?_setCell_other _ ⟨g, 0, none⟩ ⟨g, 1, none⟩ _ (by simp), h1]; rfl)
  · unfold set3
    exact World.cell?_setCell_same' _ _ _ (by rw [World.cell?_setCell_other _ ⟨g, 1, none⟩ ⟨g, 2, none⟩ _ (by simp), World.cell?_setCell_other _ ⟨g, 0, none⟩ ⟨g, 2, none⟩ _ (by simp), h2]; rfl)
theorem made_put {w W : World} {B g : Nat} {v x y z : Value} {p : Int} {T F : List Int} (hr : RO W B v p T F) (hw : Below w.heap.size w W) (hB : w.heap.size ≤ B) (hg1 : w.heap.size ≤ g) (hg : g < B) : MadeR p T F w (.returned v) (set3 W g x y z) :=
  ⟨v, rfl, (hr.put3 hg).mono hB, hw.trans (set3_far W g x y z hg1 hw.size)⟩
theorem madeb_put {w W : World} {B g : Nat} {v x y z : Value} {R : Option (Int × List Int × List Int)} (hr : RO W B v (R.getD (0, [], [])).1 (R.getD (0, [], [])).2.1 (R.getD (0, [], [])).2.2) (hw : Below w.heap.size w W) (hB : w.heap.size ≤ B) (hg1 : w.heap.size ≤ g) (hg : g < B) : MadeRB R w (.returned (.tuple #[v, .bool R.isSome])) (set3 W g x y z) :=
  ⟨v, rfl, (hr.put3 hg).mono hB, hw.trans (set3_far W g x y z hg1 hw.size)⟩
theorem madeb_no {w W : World} {g : Nat} (hw : Below w.heap.size w W) (hg1 : w.heap.size ≤ g) : MadeRB none w (.returned (.tuple #[.agg #[.int .i64 0, .slice none 0 0, .slice none 0 0], .bool false])) (set3 W g (.int .i64 0) (.slice none 0 0) (.slice none 0 0)) :=
  ⟨_, rfl, ro_zero _ _, hw.trans (set3_far W g _ _ _ hg1 hw.size)⟩
end Go.Proofs.YtjbghoooldahlaaDoor

/-
  Boxes of structs of three cells.
-/
import Derived.Test.YtecmclaockmgeaaDoorRc
namespace Go.Proofs.YtecmclaockmgeaaDoor
open Go.RowKit
/-- a box of three cells -/
def Bx (W : World) (g : Nat) (v0 v1 v2 : Value) : Prop := W.cell? ⟨g, 0, none⟩ = some v0 ∧ W.cell? ⟨g, 1, none⟩ = some v1 ∧ W.cell? ⟨g, 2, none⟩ = some v2
theorem Bx.below {W W' : World} {g : Nat} {v0 v1 v2 : Value} (h : Bx W g v0 v1 v2) (k : Below W.heap.size W W') : Bx W' g v0 v1 v2 := by
  have hk := keep_of_below k
  exact ⟨hk.cell h.1 (fun h => h), hk.cell h.2.1 (fun h => h), hk.cell h.2.2 (fun h => h)⟩
theorem Bx.keep {W W' : World} {g : Nat} {v0 v1 v2 : Value} {S : Nat → Prop} (h : Bx W g v0 v1 v2) (hk : Keep S W W') (hs : ¬ S g) : Bx W' g v0 v1 v2 :=
  ⟨hk.cell h.1 hs, hk.cell h.2.1 hs, hk.cell h.2.2 hs⟩
theorem Bx.drew {W : World} {g : Nat} {v0 v1 v2 : Value} (h : Bx W g v0 v1 v2) : Bx W.drew g v0 v1 v2 := ⟨h.1, h.2.1, h.2.2⟩
theorem Bx.lt {W : World} {g : Nat} {v0 v1 v2 : Value} (h : Bx W g v0 v1 v2) : g < W.heap.size := cell_lt h.1
theorem Bx.new (W : World) (v0 v1 v2 : Value) (t : TypeId) : Bx (W.alloc (.cells #[v0, v1, v2] t)) W.heap.size v0 v1 v2 := by
  obtain ⟨h0, h1, h2⟩ := box3 W v0 v1 v2 t
  exact ⟨h0, h1, h2⟩
theorem below_new (W : World) (o : Obj) : Below W.heap.size W (W.alloc o) := (Below.refl _ W).alloc (Nat.le_refl _) o
theorem below_new_drew (W : World) : Below W.heap.size W W.drew := (Below.refl _ W).drew
/-- a box of three cells that may be written -/
structure BxW (W : World) (g : Nat) (v0 v1 v2 : Value) : Prop where
  c : Bx W g v0 v1 v2
  fz : ∀ o, W.frozen? ⟨g, o, none⟩ = false
theorem BxW.keep {W W' : World} {g : Nat} {v0 v1 v2 : Value} {S : Nat → Prop} (h : BxW W g v0 v1 v2) (hk : Keep S W W') (hs : ¬ S g) : BxW W' g v0 v1 v2 :=
  ⟨h.c.keep hk hs, fun o => (hk.frozen (p := ⟨g, o, none⟩) h.c.lt hs).trans (h.fz o)⟩
theorem BxW.below {W W' : World} {g : Nat} {v0 v1 v2 : Value} (h : BxW W g v0 v1 v2) (k : Below W.heap.size W W') : BxW W' g v0 v1 v2 := h.keep (keep_of_below k) (fun h => h)
theorem BxW.drew {W : World} {g : Nat} {v0 v1 v2 : Value} (h : BxW W g v0 v1 v2) : BxW W.drew g v0 v1 v2 := ⟨h.c.drew, h.fz⟩
theorem BxW.new (W : World) (v0 v1 v2 : Value) (t : TypeId) : BxW (W.alloc (.cells #[v0, v1, v2] t)) W.heap.size v0 v1 v2 :=
  ⟨Bx.new W v0 v1 v2 t, fun o => by simp [go_sem]⟩
def set3 (W : World) (g : Nat) (v0 v1 v2 : Value) : World := ((W.setCell ⟨g, 0, none⟩ v0).setCell ⟨g, 1, none⟩ v1).setCell ⟨g, 2, none⟩ v2
theorem set3_keep (W : World) (g : Nat) (v0 v1 v2 : Value) : Keep (fun k => k = g) W (set3 W g v0 v1 v2) :=
  (((Keep.refl (fun k => k = g) W).setCell (p := ⟨g, 0, none⟩) (fun _ => rfl) _).setCell (p := ⟨g, 1, none⟩) (fun _ => rfl) _).setCell (p := ⟨g, 2, none⟩) (fun _ => rfl) _
theorem set3_far (W : World) (g : Nat) (v0 v1 v2 : Value) {B : Nat} (hB : B ≤ g) (hs : B ≤ W.heap.size) : Below B W (set3 W g v0 v1 v2) := (set3_keep W g v0 v1 v2).below hs (fun k hk => by omega)
/-- a recurrence is made of two rows of the call's own, behind a store into a box -/
theorem made_set3 {w W : World} {g : Nat} {p : Int} {T F : List Int} {A A' : Option Addr} {n n' c c' B B' : Nat} (hw : Below w.heap.size w W) (hn : T.length = n) (hn' : F.length = n') (h1 : OI W B A n c T) (h2 : OI W B' A' n' c' F) (hB : w.heap.size ≤ B) (hB' : w.heap.size ≤ B') (hg : w.heap.size ≤ g) (hgB : ∀ k, (Value.slice A n c).ownBlock = some k → k ≠ g) (hgB' : ∀ k, (Value.slice A' n' c').ownBlock = some k → k ≠ g) (ha : Apart (.slice A n c) (.slice A' n' c')) :
    MadeR p T F w (.returned (.agg #[.int .i64 p, .slice A n c, .slice A' n' c'])) (set3 W g (.int .i64 p) (.slice A n c) (.slice A' n' c')) := by
  subst hn; subst hn'
  exact ⟨_, rfl, ⟨A, c, A', c', rfl, owns_mono (OIk h1 (set3_keep W g _ _ _) (fun k hk e => hgB k hk e)) hB, owns_mono (OIk h2 (set3_keep W g _ _ _) (fun k hk e => hgB' k hk e)) hB', ha⟩, hw.trans (set3_far W g _ _ _ hg hw.size)⟩
theorem made_zero {w W : World} {g : Nat} (hw : Below w.heap.size w W) (hg : w.heap.size ≤ g) : MadeR 0 [] [] w (.returned (.agg #[.int .i64 0, .slice none 0 0, .slice none 0 0])) (set3 W g (.int .i64 0) (.slice none 0 0) (.slice none 0 0)) :=
  made_set3 (A := none) (A' := none) (n := 0) (n' := 0) (c := 0) (c' := 0) hw rfl rfl (World.ownsRow_nil W w.heap.size _ _) (World.ownsRow_nil W w.heap.size _ _) (Nat.le_refl _) (Nat.le_refl _) hg (fun k hk => by cases hk) (fun k hk => by cases hk) (.inl rfl)
/-- three parts and whether there are -/
def MadeRB (R : Option (Int × List Int × List Int)) (w : World) (e : Ending) (w' : World) : Prop :=
  ∃ v, e = .returned (.tuple #[v, .bool R.isSome]) ∧ RO w' w.heap.size v (R.getD (0, [], [])).1 (R.getD (0, [], [])).2.1 (R.getD (0, [], [])).2.2 ∧ Below w.heap.size w w'
theorem ro_zero (w : World) (B : Nat) : RO w B (.agg #[.int .i64 0, .slice none 0 0, .slice none 0 0]) 0 [] [] :=
  ⟨none, 0, none, 0, rfl, World.ownsRow_nil _ _ _ _, World.ownsRow_nil _ _ _ _, .inl rfl⟩
theorem RO.put3 {W : World} {B g : Nat} {v x y z : Value} {p : Int} {T F : List Int} (h : RO W B v p T F) (hg : g < B) : RO (set3 W g x y z) B v p T F :=
  h.keep (set3_keep W g x y z) (fun k hk e => by have := (h.lt k hk).1; omega)
theorem BxW.put {W : World} {g : Nat} {a b c : Value} (h : BxW W g a b c) (x y z : Value) : Bx (set3 W g x y z) g x y z := by
  obtain ⟨⟨h0, h1, h2⟩, _⟩ := h
  refine ⟨?_, ?_, ?_⟩
  · unfold set3
    rw [World.cell?_setCell_other _ ⟨g, 2, none⟩ ⟨g, 0, none⟩ _ (by simp), World.cell?_setCell_other _ ⟨g, 1, none⟩ ⟨g, 0, none⟩ _ (by simp)]
    exact World.cell?_setCell_same' _ _ _ (by rw [h0]; rfl)
  · unfold set3
    rw [World.cell?_setCell_other _ ⟨g, 2, none⟩ ⟨g, 1, none⟩ _ (by simp)]
    exact World.cell?_setCell_same' _ _ _ (by rw [World.cell?_setCell_other _ ⟨g, 0, none⟩ ⟨g, 1, none⟩ _ (by simp), h1]; rfl)
  · unfold set3
    exact World.cell?_setCell_same' _ _ _ (by rw [World.cell?_setCell_other _ ⟨g, 1, none⟩ ⟨g, 2, none⟩ _ (by simp), World.cell?_setCell_other _ ⟨g, 0, none⟩ ⟨g, 2, none⟩ _ (by simp), h2]; rfl)
theorem made_put {w W : World} {B g : Nat} {v x y z : Value} {p : Int} {T F : List Int} (hr : RO W B v p T F) (hw : Below w.heap.size w W) (hB : w.heap.size ≤ B) (hg1 : w.heap.size ≤ g) (hg : g < B) : MadeR p T F w (.returned v) (set3 W g x y z) :=
  ⟨v, rfl, (hr.put3 hg).mono hB, hw.trans (set3_far W g x y z hg1 hw.size)⟩
theorem madeb_put {w W : World} {B g : Nat} {v x y z : Value} {R : Option (Int × List Int × List Int)} (hr : RO W B v (R.getD (0, [], [])).1 (R.getD (0, [], [])).2.1 (R.getD (0, [], [])).2.2) (hw : Below w.heap.size w W) (hB : w.heap.size ≤ B) (hg1 : w.heap.size ≤ g) (hg : g < B) : MadeRB R w (.returned (.tuple #[v, .bool R.isSome])) (set3 W g x y z) :=
  ⟨v, rfl, (hr.put3 hg).mono hB, hw.trans (set3_far W g x y z hg1 hw.size)⟩
theorem madeb_no {w W : World} {g : Nat} (hw : Below w.heap.size w W) (hg1 : w.heap.size ≤ g) : MadeRB none w (.returned (.tuple #[.agg #[.int .i64 0, .slice none 0 0, .slice none 0 0], .bool false])) (set3 W g (.int .i64 0) (.slice none 0 0) (.slice none 0 0)) :=
  ⟨_, rfl, ro_zero _ _, hw.trans (set3_far W g _ _ _ hg1 hw.size)⟩
end Go.Proofs.YtecmclaockmgeaaDoor

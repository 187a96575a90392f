/-
  Boxes of structs of five cells; automata that are made behind a store into one.
-/
import Derived.Test.YtegkmolffemkpaaWc
namespace Go.Proofs.Ytegkmolffemkpaa
open Go.RowKit
def Bx5 (W : World) (g : Nat) (v0 v1 v2 v3 v4 : Value) : Prop := W.cell? ⟨g, 0, none⟩ = some v0 ∧ W.cell? ⟨g, 1, none⟩ = some v1 ∧ W.cell? ⟨g, 2, none⟩ = some v2 ∧ W.cell? ⟨g, 3, none⟩ = some v3 ∧ W.cell? ⟨g, 4, none⟩ = some v4
theorem Bx5.keep {W' : World} {W : World} {g : Nat} {v0 v1 v2 v3 v4 : Value} {S : Nat → Prop} (h : Bx5 W g v0 v1 v2 v3 v4) (hk : Keep S W W') (hs : ¬ S g) : Bx5 W' g v0 v1 v2 v3 v4 := ⟨hk.cell h.1 hs, hk.cell h.2.1 hs, hk.cell h.2.2.1 hs, hk.cell h.2.2.2.1 hs, hk.cell h.2.2.2.2 hs⟩
theorem Bx5.below {W' : World} {W : World} {g : Nat} {v0 v1 v2 v3 v4 : Value} (h : Bx5 W g v0 v1 v2 v3 v4) (k : Below W.heap.size W W') : Bx5 W' g v0 v1 v2 v3 v4 := h.keep (keep_of_below k) (fun h => h)
theorem Bx5.drew {W : World} {g : Nat} {v0 v1 v2 v3 v4 : Value} (h : Bx5 W g v0 v1 v2 v3 v4) : Bx5 W.drew g v0 v1 v2 v3 v4 := ⟨h.1, h.2.1, h.2.2.1, h.2.2.2.1, h.2.2.2.2⟩
theorem Bx5.lt {W : World} {g : Nat} {v0 v1 v2 v3 v4 : Value} (h : Bx5 W g v0 v1 v2 v3 v4) : g < W.heap.size := cell_lt h.1
theorem Bx5.new (W : World) (v0 v1 v2 v3 v4 : Value) (t : TypeId) : Bx5 (W.alloc (.cells #[v0, v1, v2, v3, v4] t)) W.heap.size v0 v1 v2 v3 v4 := box5 W v0 v1 v2 v3 v4 t
structure BxW5 (W : World) (g : Nat) (v0 v1 v2 v3 v4 : Value) : Prop where
  c : Bx5 W g v0 v1 v2 v3 v4
  fz : ∀ o, W.frozen? ⟨g, o, none⟩ = false
theorem BxW5.keep {W' : World} {W : World} {g : Nat} {v0 v1 v2 v3 v4 : Value} {S : Nat → Prop} (h : BxW5 W g v0 v1 v2 v3 v4) (hk : Keep S W W') (hs : ¬ S g) : BxW5 W' g v0 v1 v2 v3 v4 := ⟨h.c.keep hk hs, fun o => (hk.frozen (p := ⟨g, o, none⟩) h.c.lt hs).trans (h.fz o)⟩
theorem BxW5.below {W' : World} {W : World} {g : Nat} {v0 v1 v2 v3 v4 : Value} (h : BxW5 W g v0 v1 v2 v3 v4) (k : Below W.heap.size W W') : BxW5 W' g v0 v1 v2 v3 v4 := h.keep (keep_of_below k) (fun h => h)
theorem BxW5.drew {W : World} {g : Nat} {v0 v1 v2 v3 v4 : Value} (h : BxW5 W g v0 v1 v2 v3 v4) : BxW5 W.drew g v0 v1 v2 v3 v4 := ⟨h.c.drew, h.fz⟩
theorem BxW5.new (W : World) (v0 v1 v2 v3 v4 : Value) (t : TypeId) : BxW5 (W.alloc (.cells #[v0, v1, v2, v3, v4] t)) W.heap.size v0 v1 v2 v3 v4 := ⟨Bx5.new W v0 v1 v2 v3 v4 t, fun o => by simp [go_sem]⟩
def set5 (W : World) (g : Nat) (v0 v1 v2 v3 v4 : Value) : World := (((((W.setCell ⟨g, 0, none⟩ v0).setCell ⟨g, 1, none⟩ v1).setCell ⟨g, 2, none⟩ v2).setCell ⟨g, 3, none⟩ v3).setCell ⟨g, 4, none⟩ v4)
theorem set5_keep (W : World) (g : Nat) (v0 v1 v2 v3 v4 : Value) : Keep (fun k => k = g) W (set5 W g v0 v1 v2 v3 v4) :=
  ((((((Keep.refl (fun k => k = g) W).setCell (p := ⟨g, 0, none⟩) (fun _ => rfl) _).setCell (p := ⟨g, 1, none⟩) (fun _ => rfl) _).setCell (p := ⟨g, 2, none⟩) (fun _ => rfl) _).setCell (p := ⟨g, 3, none⟩) (fun _ => rfl) _).setCell (p := ⟨g, 4, none⟩) (fun _ => rfl) _)
theorem set5_size (W : World) (g : Nat) (v0 v1 v2 v3 v4 : Value) : (set5 W g v0 v1 v2 v3 v4).heap.size = W.heap.size := by simp [set5, World.setCell]
theorem set5_far (W : World) (g : Nat) (v0 v1 v2 v3 v4 : Value) {B : Nat} (hB : B ≤ g) (hs : B ≤ W.heap.size) : Below B W (set5 W g v0 v1 v2 v3 v4) := (set5_keep W g v0 v1 v2 v3 v4).below hs (fun k hk => by omega)
theorem madew_put {w W : World} {B hi g : Nat} {v v0 v1 v2 v3 v4 : Value} {p : Int} {S : List Int} {MA MB : List (List Int)} {E : List Int} (hr : WO W B hi v p S MA MB E) (hw : Below w.heap.size w W) (hB : w.heap.size ≤ B) (hg1 : w.heap.size ≤ g) (hg : g < B) (hh : hi ≤ W.heap.size) : MadeW p S MA MB E w (.returned v) (set5 W g v0 v1 v2 v3 v4) :=
  ⟨v, rfl, (hr.keep (set5_keep W g v0 v1 v2 v3 v4) (fun k h1 _ e => by omega)).mono hB (by rw [set5_size]; exact hh), hw.trans (set5_far W g v0 v1 v2 v3 v4 hg1 hw.size)⟩
theorem om_nil (w : World) (B : Nat) : OM w B none 0 0 [] [] := ⟨World.ownsRow_nil _ _ _ _, rfl, fun r row h => by simp at h, fun r s u u' _ h => by simp at h⟩
theorem wo_zero (w : World) (B hi : Nat) (hb : B ≤ hi) : WO w B hi (.agg #[.int .i64 0, .slice none 0 0, .slice none 0 0, .slice none 0 0, .slice none 0 0]) 0 [] [] [] [] :=
  wo_seq (S := []) (MA := []) (MB := []) (E := []) (A1 := none) (A2 := none) (A3 := none) (A4 := none) (c1 := 0) (c2 := 0) (c3 := 0) (c4 := 0) (vs2 := []) (vs3 := []) (s1 := B) (s2 := B) (s3 := B) (World.ownsRow_nil _ _ _ _) (fun g hg => by simp [Value.ownBlock] at hg) (om_nil w B) (fun g hg => by simp [mBlk, rBlk, Value.ownBlock] at hg) (om_nil w B) (fun g hg => by simp [mBlk, rBlk, Value.ownBlock] at hg) (World.ownsRow_nil _ _ _ _) (fun g hg => by simp [Value.ownBlock] at hg) (Nat.le_refl _) (Nat.le_refl _) (Nat.le_refl _) hb
theorem madew_zero {w W : World} {g : Nat} {v0 v1 v2 v3 v4 : Value} (hw : Below w.heap.size w W) (hg1 : w.heap.size ≤ g) : MadeW 0 [] [] [] [] w (.returned (.agg #[.int .i64 0, .slice none 0 0, .slice none 0 0, .slice none 0 0, .slice none 0 0])) (set5 W g v0 v1 v2 v3 v4) :=
  ⟨_, rfl, wo_zero _ _ _ (by rw [set5_size]; exact hw.size), hw.trans (set5_far W g v0 v1 v2 v3 v4 hg1 hw.size)⟩
/-- an automaton and whether there is one -/
abbrev WaT : Type := Int × List Int × List (List Int) × List (List Int) × List Int
def waZ : WaT := (0, [], [], [], [])
def MadeWB (R : Option WaT) (w : World) (e : Ending) (w' : World) : Prop :=
  ∃ v, e = .returned (.tuple #[v, .bool R.isSome]) ∧ WO w' w.heap.size w'.heap.size v (R.getD waZ).1 (R.getD waZ).2.1 (R.getD waZ).2.2.1 (R.getD waZ).2.2.2.1 (R.getD waZ).2.2.2.2 ∧ Below w.heap.size w w'
def SaidWB (R : Option WaT) (w : World) (e : Ending) (w' : World) : Prop :=
  ∃ (A1 : Option Addr) (n1 c1 : Nat) (A2 : Option Addr) (n2 c2 : Nat) (A3 : Option Addr) (n3 c3 : Nat) (A4 : Option Addr) (n4 c4 : Nat), e = .returned (.tuple #[(.agg #[.int .i64 (R.getD waZ).1, .slice A1 n1 c1, .slice A2 n2 c2, .slice A3 n3 c3, .slice A4 n4 c4]), .bool R.isSome]) ∧ WV w' (.agg #[.int .i64 (R.getD waZ).1, .slice A1 n1 c1, .slice A2 n2 c2, .slice A3 n3 c3, .slice A4 n4 c4]) (R.getD waZ).1 (R.getD waZ).2.1 (R.getD waZ).2.2.1 (R.getD waZ).2.2.2.1 (R.getD waZ).2.2.2.2 ∧ Below w.heap.size w w'
theorem madewb_put {w W : World} {B hi g : Nat} {v v0 v1 v2 v3 v4 : Value} {R : Option WaT} (hr : WO W B hi v (R.getD waZ).1 (R.getD waZ).2.1 (R.getD waZ).2.2.1 (R.getD waZ).2.2.2.1 (R.getD waZ).2.2.2.2) (hw : Below w.heap.size w W) (hB : w.heap.size ≤ B) (hg1 : w.heap.size ≤ g) (hg : g < B) (hh : hi ≤ W.heap.size) : MadeWB R w (.returned (.tuple #[v, .bool R.isSome])) (set5 W g v0 v1 v2 v3 v4) :=
  ⟨v, rfl, (hr.keep (set5_keep W g v0 v1 v2 v3 v4) (fun k h1 _ e => by omega)).mono hB (by rw [set5_size]; exact hh), hw.trans (set5_far W g v0 v1 v2 v3 v4 hg1 hw.size)⟩
theorem madewb_no {w W : World} {g : Nat} {v0 v1 v2 v3 v4 : Value} (hw : Below w.heap.size w W) (hg1 : w.heap.size ≤ g) : MadeWB none w (.returned (.tuple #[.agg #[.int .i64 0, .slice none 0 0, .slice none 0 0, .slice none 0 0, .slice none 0 0], .bool false])) (set5 W g v0 v1 v2 v3 v4) :=
  ⟨_, rfl, wo_zero _ _ _ (by rw [set5_size]; exact hw.size), hw.trans (set5_far W g v0 v1 v2 v3 v4 hg1 hw.size)⟩
theorem saidw_zero {w W : World} {g : Nat} {v0 v1 v2 v3 v4 : Value} (hw : Below w.heap.size w W) (hg1 : w.heap.size ≤ g) : SaidW 0 [] [] [] [] w (.returned (.agg #[.int .i64 0, .slice none 0 0, .slice none 0 0, .slice none 0 0, .slice none 0 0])) (set5 W g v0 v1 v2 v3 v4) :=
  ⟨none, 0, 0, none, 0, 0, none, 0, 0, none, 0, 0, rfl, (wo_zero _ 0 0 (Nat.le_refl _)).wv, hw.trans (set5_far W g v0 v1 v2 v3 v4 hg1 hw.size)⟩
theorem saidwb_no {w W : World} {g : Nat} {v0 v1 v2 v3 v4 : Value} (hw : Below w.heap.size w W) (hg1 : w.heap.size ≤ g) : SaidWB none w (.returned (.tuple #[.agg #[.int .i64 0, .slice none 0 0, .slice none 0 0, .slice none 0 0, .slice none 0 0], .bool false])) (set5 W g v0 v1 v2 v3 v4) :=
  ⟨none, 0, 0, none, 0, 0, none, 0, 0, none, 0, 0, rfl, (wo_zero _ 0 0 (Nat.le_refl _)).wv, hw.trans (set5_far W g v0 v1 v2 v3 v4 hg1 hw.size)⟩
theorem BxW5.put5 {W : World} {g : Nat} {v0 v1 v2 v3 v4 : Value} (h : BxW5 W g v0 v1 v2 v3 v4) (u0 u1 u2 u3 u4 : Value) : Bx5 (set5 W g u0 u1 u2 u3 u4) g u0 u1 u2 u3 u4 := by
  obtain ⟨⟨h0, h1, h2, h3, h4⟩, _⟩ := h
  refine ⟨?_, ?_, ?_, ?_, ?_⟩
  · unfold set5
    rw [World.cell?_setCell_other _ ⟨g, 4, none⟩ ⟨g, 0, none⟩ _ (by simp), World.cell?_setCell_other _ ⟨g, 3, none⟩ ⟨g, 0, none⟩ _ (by simp), World.cell?_setCell_other _ ⟨g, 2, none⟩ ⟨g, 0, none⟩ _ (by simp), World.cell?_setCell_other _ ⟨g, 1, none⟩ ⟨g, 0, none⟩ _ (by simp)]
    exact World.cell?_setCell_same' _ _ _ (by rw [h0]; rfl)
  · unfold set5
    rw [World.cell?_setCell_other _ ⟨g, 4, none⟩ ⟨g, 1, none⟩ _ (by simp), World.cell?_setCell_other _ ⟨g, 3, none⟩ ⟨g, 1, none⟩ _ (by simp), World.cell?_setCell_other _ ⟨g, 2, none⟩ ⟨g, 1, none⟩ _ (by simp)]
    exact World.cell?_setCell_same' _ _ _ (by rw [World.cell?_setCell_other _ ⟨g, 0, none⟩ ⟨g, 1, none⟩ _ (by simp), h1]; rfl)
  · unfold set5
    rw [World.cell?_setCell_other _ ⟨g, 4, none⟩ ⟨g, 2, none⟩ _ (by simp), World.cell?_setCell_other _ ⟨g, 3, none⟩ ⟨g, 2, none⟩ _ (by simp)]
    exact World.cell?_setCell_same' _ _ _ (by rw [World.cell?_setCell_other _ ⟨g, 1, none⟩ ⟨g, 2, none⟩ _ (by simp), World.cell?_setCell_other _ ⟨g, 0, none⟩ ⟨g, 2, none⟩ _ (by simp), h2]; rfl)
  · unfold set5
    rw [World.cell?_setCell_other _ ⟨g, 4, none⟩ ⟨g, 3, none⟩ _ (by simp)]
    exact World.cell?_setCell_same' _ _ _ (by rw [World.cell?_setCell_other _ ⟨g, 2, none⟩ ⟨g, 3, none⟩ _ (by simp), World.cell?_setCell_other _ ⟨g, 1, none⟩ ⟨g, 3, none⟩ _ (by simp), World.cell?_setCell_other _ ⟨g, 0, none⟩ ⟨g, 3, none⟩ _ (by simp), h3]; rfl)
  · unfold set5
    exact World.cell?_setCell_same' _ _ _ (by rw [World.cell?_setCell_other _ ⟨g, 3, none⟩ ⟨g, 4, none⟩ _ (by simp), World.cell?_setCell_other _ ⟨g, 2, none⟩ ⟨g, 4, none⟩ _ (by simp), World.cell?_setCell_other _ ⟨g, 1, none⟩ ⟨g, 4, none⟩ _ (by simp), World.cell?_setCell_other _ ⟨g, 0, none⟩ ⟨g, 4, none⟩ _ (by simp), h4]; rfl)
theorem cutw_put {cur W : World} {B hi g : Nat} {v v0 v1 v2 v3 v4 : Value} {p : Int} {S : List Int} {MA MB : List (List Int)} {E : List Int} (hb : BxW5 W g v0 v1 v2 v3 v4) (hO : WO W B hi v p S MA MB E) (hT : Below cur.heap.size cur W) (h1 : cur.heap.size ≤ g) (h2 : g < B) (h3 : cur.heap.size ≤ B) (hh : hi ≤ W.heap.size) (u0 u1 u2 u3 u4 : Value) :
    cur.heap.size ≤ g ∧ Bx5 (set5 W g u0 u1 u2 u3 u4) g u0 u1 u2 u3 u4 ∧ WO (set5 W g u0 u1 u2 u3 u4) cur.heap.size (set5 W g u0 u1 u2 u3 u4).heap.size v p S MA MB E ∧ Below cur.heap.size cur (set5 W g u0 u1 u2 u3 u4) :=
  ⟨h1, hb.put5 u0 u1 u2 u3 u4, (hO.keep (set5_keep W g u0 u1 u2 u3 u4) (fun k q1 _ e => by omega)).mono h3 (by rw [set5_size]; exact hh), hT.trans (set5_far W g u0 u1 u2 u3 u4 h1 hT.size)⟩
theorem cutw_new {cur W : World} {B hi : Nat} {v u0 u1 u2 u3 u4 : Value} {p : Int} {S : List Int} {MA MB : List (List Int)} {E : List Int} (hO : WO W B hi v p S MA MB E) (hT : Below cur.heap.size cur W) (h3 : cur.heap.size ≤ B) (hh : hi ≤ W.heap.size) (t : TypeId) :
    cur.heap.size ≤ W.heap.size ∧ Bx5 (W.alloc (.cells #[u0, u1, u2, u3, u4] t)) W.heap.size u0 u1 u2 u3 u4 ∧ WO (W.alloc (.cells #[u0, u1, u2, u3, u4] t)) cur.heap.size (W.alloc (.cells #[u0, u1, u2, u3, u4] t)).heap.size v p S MA MB E ∧ Below cur.heap.size cur (W.alloc (.cells #[u0, u1, u2, u3, u4] t)) :=
  have hn : Below W.heap.size W (W.alloc (.cells #[u0, u1, u2, u3, u4] t)) := (Below.refl _ W).alloc (Nat.le_refl _) _
  ⟨hT.size, Bx5.new W u0 u1 u2 u3 u4 t, (hO.below hn).mono h3 (Nat.le_trans hh hn.size), below_more hT hn⟩
end Go.Proofs.Ytegkmolffemkpaa

/-
  Recurrences as values: what they hold; the exact laws' helpers over them.
-/
import Derived.Test.YtcjpjcigjljplaaEx
namespace Go.Proofs.Ytcjpjcigjljplaa
open Go.RowKit
/-- a recurrence that is read -/
def RV (w : World) (v : Value) (p : Int) (T F : List Int) : Prop :=
  ∃ (A : Option Addr) (n c b o : Nat) (A' : Option Addr) (n' c' b' o' : Nat), v = .agg #[.int .i64 p, .slice A n c, .slice A' n' c'] ∧ IA w A n b o T ∧ IA w A' n' b' o' F
/-- a recurrence of the call's own -/
def RO (w : World) (B : Nat) (v : Value) (p : Int) (T F : List Int) : Prop :=
  ∃ (A : Option Addr) (c : Nat) (A' : Option Addr) (c' : Nat), v = .agg #[.int .i64 p, .slice A T.length c, .slice A' F.length c'] ∧ OI w B A T.length c T ∧ OI w B A' F.length c' F ∧ Apart (.slice A T.length c) (.slice A' F.length c')
/-- the blocks of such a value -/
def recBlk (v : Value) (g : Nat) : Prop := ∃ (p : Value) (u u' : Value), v = .agg #[p, u, u'] ∧ (u.ownBlock = some g ∨ u'.ownBlock = some g)
theorem RV.keep {w w' : World} {v : Value} {p : Int} {T F : List Int} {S : Nat → Prop} (h : RV w v p T F) (k : Keep S w w') (hs : ∀ j, j < w.heap.size → ¬ S j) : RV w' v p T F := by
  obtain ⟨A, n, c, b, o, A', n', c', b', o', rfl, h1, h2⟩ := h
  exact ⟨A, n, c, b, o, A', n', c', b', o', rfl, h1.keep k hs, h2.keep k hs⟩
theorem RV.below {w w' : World} {v : Value} {p : Int} {T F : List Int} (h : RV w v p T F) (k : Below w.heap.size w w') : RV w' v p T F := h.keep (keep_of_below k) (fun _ _ h => h)
theorem RO.rv {w : World} {B : Nat} {v : Value} {p : Int} {T F : List Int} (h : RO w B v p T F) : RV w v p T F := by
  obtain ⟨A, c, A', c', rfl, h1, h2, _⟩ := h
  obtain ⟨b, g1⟩ := h1.ia
  obtain ⟨b', g2⟩ := h2.ia
  exact ⟨_, _, _, b, 0, _, _, _, b', 0, rfl, g1, g2⟩
theorem RO.lt {w : World} {B : Nat} {v : Value} {p : Int} {T F : List Int} (h : RO w B v p T F) : ∀ g, recBlk v g → B ≤ g ∧ g < w.heap.size := by
  obtain ⟨A, c, A', c', rfl, h1, h2, _⟩ := h
  rintro g ⟨p', u, u', e, hg⟩
  simp only [Value.agg.injEq, Array.mk.injEq, List.cons.injEq, and_true] at e
  obtain ⟨_, rfl, rfl⟩ := e
  rcases hg with hg | hg
  · exact h1.lt g hg
  · exact h2.lt g hg
theorem RO.mono {w : World} {B B' : Nat} {v : Value} {p : Int} {T F : List Int} (h : RO w B v p T F) (hB : B' ≤ B) : RO w B' v p T F := by
  obtain ⟨A, c, A', c', rfl, h1, h2, h3⟩ := h
  exact ⟨A, c, A', c', rfl, owns_mono h1 hB, owns_mono h2 hB, h3⟩
theorem RO.keep {w w' : World} {B : Nat} {v : Value} {p : Int} {T F : List Int} {S : Nat → Prop} (h : RO w B v p T F) (k : Keep S w w') (hs : ∀ g, recBlk v g → ¬ S g) : RO w' B v p T F := by
  obtain ⟨A, c, A', c', rfl, h1, h2, h3⟩ := h
  exact ⟨A, c, A', c', rfl, OIk h1 k (fun g hg => hs g ⟨_, _, _, rfl, .inl hg⟩), OIk h2 k (fun g hg => hs g ⟨_, _, _, rfl, .inr hg⟩), h3⟩
theorem RO.below {w w' : World} {B : Nat} {v : Value} {p : Int} {T F : List Int} (h : RO w B v p T F) (k : Below w.heap.size w w') : RO w' B v p T F := h.keep (keep_of_below k) (fun _ _ h => h)
/-- a recurrence comes back -/
def MadeR (p : Int) (T F : List Int) (w : World) (e : Ending) (w' : World) : Prop := ∃ v, e = .returned v ∧ RO w' w.heap.size v p T F ∧ Below w.heap.size w w'
theorem box3 (w : World) (a b c : Value) (t : TypeId) : (w.alloc (.cells #[a, b, c] t)).cell? ⟨w.heap.size, 0, none⟩ = some a ∧ (w.alloc (.cells #[a, b, c] t)).cell? ⟨w.heap.size, 1, none⟩ = some b ∧ (w.alloc (.cells #[a, b, c] t)).cell? ⟨w.heap.size, 2, none⟩ = some c := by
  refine ⟨?_, ?_, ?_⟩ <;> simp [go_sem]
theorem szRec (v : Value) (p : Int) (T F : List Int) (left : Int) (w : World) (h : RV w v p T F) (h0 : 0 ≤ left) (h1 : left ≤ 1048576) :
    Calls Try.prog 23 #[v, .int .i64 left] w fun e w' => ∃ r : Int, e = .returned (.int .i64 r) ∧ (r < 0 ∨ (0 ≤ r ∧ r ≤ left ∧ (T.length : Int) ≤ left ∧ (F.length : Int) ≤ left)) ∧ Below w.heap.size w w' := by
  obtain ⟨A, n, c, b, o, A', n', c', b', o', rfl, g1, g2⟩ := h
  have hb := g1.big
  have hb' := g2.big
  have HL := Lib.hid g1.len
  have HL' := Lib.hid g2.len
  clear g1 g2
  go_enter Try.func23, Try.ntmps23
  go_wp2_with (fail)
  refine (szIntS A n c left _ hb h0 h1).mono ?_
  rintro e w' ⟨r, rfl, hr, rfl⟩
  rcases hr with hr | ⟨hr0, hr1, hr2⟩
  · go_wp2_with (fail)
    go_ret
    exact ⟨_, rfl, .inl (by omega), (Below.refl _ _).alloc (Nat.le_refl _) _⟩
  · go_wp2_with (fail)
    refine (szIntS A' n' c' r _ hb' hr0 (by omega)).mono ?_
    rintro e w' ⟨s, rfl, hs, rfl⟩
    rcases hs with hs | ⟨hs0, hs1, hs2⟩
    · go_wp2_with (fail)
      go_ret
      exact ⟨_, rfl, .inl (by omega), (Below.refl _ _).alloc (Nat.le_refl _) _⟩
    · go_wp2_with (fail)
      go_ret
      exact ⟨_, rfl, .inr ⟨hs0, by omega, by rw [HL.out]; omega, by rw [HL'.out]; omega⟩, (Below.refl _ _).alloc (Nat.le_refl _) _⟩
theorem toRec (v : Value) (p : Int) (T F : List Int) (w : World) (h : RV w v p T F) (hT : T.length ≤ 1048576) (hF : F.length ≤ 1048576) :
    Calls Try.prog 25 #[v] w (MadeR p T F w) := by
  obtain ⟨A, n, c, b, o, A', n', c', b', o', rfl, g1, g2⟩ := h
  have HL := Lib.hid g1.len
  have HL' := Lib.hid g2.len
  have H := Lib.hid g1
  have H' := Lib.hid g2
  rw [g1.len] at hT
  rw [g2.len] at hF
  clear g1 g2
  go_enter Try.func25, Try.ntmps25
  go_wp2_with (fail)
  obtain ⟨W0, hW0⟩ : ∃ W0, ((w.alloc (.cells #[.int .i64 p, .slice A n c, .slice A' n' c'] 39)).alloc (.cells #[.int .i64 0, .slice none 0 0, .slice none 0 0] 42)).alloc (.cells #[.int .i64 p, .slice none 0 0, .slice none 0 0] 42) = W0 := ⟨_, rfl⟩
  have hB0 : Below w.heap.size w W0 := by rw [← hW0]; exact (((Below.refl _ w).alloc (Nat.le_refl _) _).alloc (by simp) _).alloc (by simp; omega) _
  have hs0 : W0.heap.size = w.heap.size + 3 := by rw [← hW0]; simp [go_sem]
  have y2 : W0.cell? ⟨w.heap.size, 2, none⟩ = some (.slice A' n' c') := by rw [← hW0]; simp [go_sem]
  have z0 : W0.cell? ⟨w.heap.size + 1 + 1, 0, none⟩ = some (.int .i64 p) := by rw [← hW0]; simp [go_sem]
  have z1 : W0.cell? ⟨w.heap.size + 1 + 1, 1, none⟩ = some (.slice none 0 0) := by rw [← hW0]; simp [go_sem]
  have z2 : W0.cell? ⟨w.heap.size + 1 + 1, 2, none⟩ = some (.slice none 0 0) := by rw [← hW0]; simp [go_sem]
  have f1 : W0.frozen? ⟨w.heap.size + 1 + 1, 1, none⟩ = false := by rw [← hW0]; simp [go_sem]
  have f2 : W0.frozen? ⟨w.heap.size + 1 + 1, 2, none⟩ = false := by rw [← hW0]; simp [go_sem]
  have x0 : W0.cell? ⟨w.heap.size + 1, 0, none⟩ = some (.int .i64 0) := by rw [← hW0]; simp [go_sem]
  have g0 : W0.frozen? ⟨w.heap.size + 1, 0, none⟩ = false := by rw [← hW0]; simp [go_sem]
  have x1 : W0.cell? ⟨w.heap.size + 1, 1, none⟩ = some (.slice none 0 0) := by rw [← hW0]; simp [go_sem]
  have g1 : W0.frozen? ⟨w.heap.size + 1, 1, none⟩ = false := by rw [← hW0]; simp [go_sem]
  have x2 : W0.cell? ⟨w.heap.size + 1, 2, none⟩ = some (.slice none 0 0) := by rw [← hW0]; simp [go_sem]
  have g2 : W0.frozen? ⟨w.heap.size + 1, 2, none⟩ = false := by rw [← hW0]; simp [go_sem]
  rw [hW0]
  clear hW0
  refine (toIntS A n c b o T _ (H.out.below hB0) hT).mono ?_
  rintro e w1 ⟨A1, c1, rfl, hO, hB⟩
  have k1 := keep_of_below hB
  have y2 := k1.cell y2 (fun h => h)
  have z0 := k1.cell z0 (fun h => h)
  have z1 := k1.cell z1 (fun h => h)
  have z2 := k1.cell z2 (fun h => h)
  have f1 := (k1.frozen (p := ⟨w.heap.size + 1 + 1, 1, none⟩) (by show w.heap.size + 1 + 1 < _; omega) (fun h => h)).trans f1
  have f2 := (k1.frozen (p := ⟨w.heap.size + 1 + 1, 2, none⟩) (by show w.heap.size + 1 + 1 < _; omega) (fun h => h)).trans f2
  have x0 := k1.cell x0 (fun h => h)
  have g0 := (k1.frozen (p := ⟨w.heap.size + 1, 0, none⟩) (by show w.heap.size + 1 < _; omega) (fun h => h)).trans g0
  have x1 := k1.cell x1 (fun h => h)
  have g1 := (k1.frozen (p := ⟨w.heap.size + 1, 1, none⟩) (by show w.heap.size + 1 < _; omega) (fun h => h)).trans g1
  have x2 := k1.cell x2 (fun h => h)
  have g2 := (k1.frozen (p := ⟨w.heap.size + 1, 2, none⟩) (by show w.heap.size + 1 < _; omega) (fun h => h)).trans g2
  have hs1 := hB.size
  have HO := Lib.hid hO
  have HB := Lib.hid (below_more hB0 hB)
  clear hO hB hB0 k1
  go_wp2_with (fail)
  have hB1 : Below w.heap.size w (w1.setCell ⟨w.heap.size + 1 + 1, 1, none⟩ (.slice A1 n c1)) := HB.out.setCell (by show w.heap.size ≤ w.heap.size + 1 + 1; omega) _
  refine (toIntS A' n' c' b' o' F _ (H'.out.below hB1) hF).mono ?_
  rintro e w2 ⟨A2, c2, rfl, hO2, hB2⟩
  have hsz : w1.heap.size = (w1.setCell ⟨w.heap.size + 1 + 1, 1, none⟩ (.slice A1 n c1)).heap.size := by simp [World.setCell]
  have HA := Lib.hid (show Apart (.slice A1 n c1) (.slice A2 n' c2) from by
    rcases hg : (Value.slice A1 n c1).ownBlock with _ | g
    · exact .inl hg
    · right
      rw [hg]
      intro e
      have h1 := (HO.out.lt g hg).2
      have h2 := (hO2.lt g e.symm).1
      omega)
  have HO3 := Lib.hid (show ∀ g, (Value.slice A2 n' c2).ownBlock = some g → w.heap.size + 1 + 1 < g from fun g hg => by have := (hO2.lt g hg).1; omega)
  have HO2 := Lib.hid (owns_mono hO2 (B' := w.heap.size) (by omega))
  have hk1 := setCell_keep w1 ⟨w.heap.size + 1 + 1, 1, none⟩ (.slice A1 n c1)
  have HO1 := Lib.hid (OIb (OIk HO.out hk1 (fun g hg hs => by have := (HO.out.lt g hg).1; have hs' : g = w.heap.size + 1 + 1 := hs; omega)) hB2)
  have k2 := keep_of_below hB2
  have z0 := k2.cell ((World.cell?_setCell_other w1 ⟨w.heap.size + 1 + 1, 1, none⟩ ⟨w.heap.size + 1 + 1, 0, none⟩ (.slice A1 n c1) (by simp)).trans z0) (fun h => h)
  have z2 := k2.cell ((World.cell?_setCell_other w1 ⟨w.heap.size + 1 + 1, 1, none⟩ ⟨w.heap.size + 1 + 1, 2, none⟩ (.slice A1 n c1) (by simp)).trans z2) (fun h => h)
  have z1 := k2.cell (World.cell?_setCell_same' w1 ⟨w.heap.size + 1 + 1, 1, none⟩ (.slice A1 n c1) (by rw [z1]; rfl)) (fun h => h)
  have f2 := (k2.frozen (p := ⟨w.heap.size + 1 + 1, 2, none⟩) (by show w.heap.size + 1 + 1 < _; omega) (fun h => h)).trans ((World.frozen?_setCell w1 ⟨w.heap.size + 1 + 1, 1, none⟩ ⟨w.heap.size + 1 + 1, 2, none⟩ (.slice A1 n c1)).trans f2)
  have x0 := k2.cell ((World.cell?_setCell_other w1 ⟨w.heap.size + 1 + 1, 1, none⟩ ⟨w.heap.size + 1, 0, none⟩ (.slice A1 n c1) (by simp)).trans x0) (fun h => h)
  have g0 := (k2.frozen (p := ⟨w.heap.size + 1, 0, none⟩) (by show w.heap.size + 1 < _; omega) (fun h => h)).trans ((World.frozen?_setCell w1 ⟨w.heap.size + 1 + 1, 1, none⟩ ⟨w.heap.size + 1, 0, none⟩ (.slice A1 n c1)).trans g0)
  have x1 := k2.cell ((World.cell?_setCell_other w1 ⟨w.heap.size + 1 + 1, 1, none⟩ ⟨w.heap.size + 1, 1, none⟩ (.slice A1 n c1) (by simp)).trans x1) (fun h => h)
  have g1 := (k2.frozen (p := ⟨w.heap.size + 1, 1, none⟩) (by show w.heap.size + 1 < _; omega) (fun h => h)).trans ((World.frozen?_setCell w1 ⟨w.heap.size + 1 + 1, 1, none⟩ ⟨w.heap.size + 1, 1, none⟩ (.slice A1 n c1)).trans g1)
  have x2 := k2.cell ((World.cell?_setCell_other w1 ⟨w.heap.size + 1 + 1, 1, none⟩ ⟨w.heap.size + 1, 2, none⟩ (.slice A1 n c1) (by simp)).trans x2) (fun h => h)
  have g2 := (k2.frozen (p := ⟨w.heap.size + 1, 2, none⟩) (by show w.heap.size + 1 < _; omega) (fun h => h)).trans ((World.frozen?_setCell w1 ⟨w.heap.size + 1 + 1, 1, none⟩ ⟨w.heap.size + 1, 2, none⟩ (.slice A1 n c1)).trans g2)
  have HB2 := Lib.hid (below_more hB1 hB2)
  have hsw := hB2.size
  clear hO2 hB2 hk1 k2 hB1
  go_wp2_with (fail)
  have hk5 : Keep (fun g => g = w.heap.size + 1 + 1 ∨ g = w.heap.size + 1) w2 ((((w2.setCell ⟨w.heap.size + 1 + 1, 2, none⟩ (.slice A2 n' c2)).setCell ⟨w.heap.size + 1, 0, none⟩ (.int .i64 p)).setCell ⟨w.heap.size + 1, 1, none⟩ (.slice A1 n c1)).setCell ⟨w.heap.size + 1, 2, none⟩ (.slice A2 n' c2)) :=
    ((((Keep.refl _ _).setCell (p := ⟨w.heap.size + 1 + 1, 2, none⟩) (fun _ => .inl rfl) _).setCell (p := ⟨w.heap.size + 1, 0, none⟩) (fun _ => .inr rfl) _).setCell (p := ⟨w.heap.size + 1, 1, none⟩) (fun _ => .inr rfl) _).setCell (p := ⟨w.heap.size + 1, 2, none⟩) (fun _ => .inr rfl) _
  have HK5 := Lib.hid hk5
  have HB5 := Lib.hid ((((HB2.out.setCell (p := ⟨w.heap.size + 1 + 1, 2, none⟩) (show w.heap.size ≤ w.heap.size + 1 + 1 by omega) (.slice A2 n' c2)).setCell (p := ⟨w.heap.size + 1, 0, none⟩) (show w.heap.size ≤ w.heap.size + 1 by omega) (.int .i64 p)).setCell (p := ⟨w.heap.size + 1, 1, none⟩) (show w.heap.size ≤ w.heap.size + 1 by omega) (.slice A1 n c1)).setCell (p := ⟨w.heap.size + 1, 2, none⟩) (show w.heap.size ≤ w.heap.size + 1 by omega) (.slice A2 n' c2))
  clear hk5
  refine bodyPost_ret (v := .agg #[.int .i64 p, .slice A1 n c1, .slice A2 n' c2]) (by simp [results, Try.f25, go_sem, x0, x1, x2]) rfl ?_
  refine ⟨_, rfl, ⟨A1, c1, A2, c2, by rw [HL.out, HL'.out], ?_, ?_, ?_⟩, HB5.out⟩
  · rw [HL.out]
    exact owns_mono (OIk HO1.out HK5.out (fun g hg hs => by have := (HO1.out.lt g hg).1; omega)) (by omega)
  · rw [HL'.out]
    exact OIk HO2.out HK5.out (fun g hg hs => by have := (HO3.out g hg); omega)
  · rw [HL.out, HL'.out]; exact HA.out
theorem eqRec (v : Value) (p : Int) (T F : List Int) (v' : Value) (p' : Int) (T' F' : List Int) (w : World) (h : RV w v p T F) (h' : RV w v' p' T' F') :
    Calls Try.prog 27 #[v, v'] w fun e w' => e = .returned (.bool (decide (p = p' ∧ T = T' ∧ F = F'))) ∧ Below w.heap.size w w' := by
  obtain ⟨A, n, c, b, o, B, m, d, x, y, rfl, g1, g2⟩ := h
  obtain ⟨A', n', c', b', o', B', m', d', x', y', rfl, k1, k2⟩ := h'
  have hB0 : Below w.heap.size w ((w.alloc (.cells #[.int .i64 p, .slice A n c, .slice B m d] 42)).alloc (.cells #[.int .i64 p', .slice A' n' c', .slice B' m' d'] 42)) := ((Below.refl _ w).alloc (Nat.le_refl _) _).alloc (by simp) _
  have H := Lib.hid (g1.below hB0)
  have H' := Lib.hid (g2.below hB0)
  have K := Lib.hid (k1.below hB0)
  have K' := Lib.hid (k2.below hB0)
  have HB0 := Lib.hid hB0
  clear g1 g2 k1 k2 hB0
  by_cases hp : p = p'
  · subst hp
    have hq : (p != p) = false := by simp
    go_enter Try.func27, Try.ntmps27
    go_wp2_with (fail)
    refine (eqIntS A n c b o T A' n' c' b' o' T' _ H.out K.out).mono ?_
    rintro e w1 ⟨rfl, hw⟩
    have hBe := below_drawn HB0.out hw
    have H' := Lib.hid (H'.out.drewN hw)
    have K' := Lib.hid (K'.out.drewN hw)
    obtain ⟨mm, rfl⟩ := hw
    by_cases hT : T = T'
    · rw [decide_eq_true hT]
      have HT := Lib.hid hT
      have HBE := Lib.hid hBe
      clear hT hBe
      go_wp2_with (fail)
      refine (eqIntS B m d x y F B' m' d' x' y' F' _ H'.out K'.out).mono ?_
      rintro e w2 ⟨rfl, hw2⟩
      have HW2 := Lib.hid (below_drawn HBE.out hw2)
      clear hw2
      by_cases hF : F = F'
      · rw [decide_eq_true hF]
        have HF := Lib.hid hF
        clear hF
        go_wp2_with (fail)
        go_ret
        exact ⟨ret_bool (decide_eq_true ⟨trivial, HT.out, HF.out⟩).symm, HW2.out⟩
      · rw [decide_eq_false hF]
        have HF := Lib.hid hF
        clear hF
        go_wp2_with (fail)
        go_ret
        exact ⟨ret_bool (decide_eq_false (fun h => HF.out h.2.2)).symm, HW2.out⟩
    · rw [decide_eq_false hT]
      have HT := Lib.hid hT
      have HBE := Lib.hid hBe
      clear hT hBe
      go_wp2_with (fail)
      go_ret
      exact ⟨ret_bool (decide_eq_false (fun h => HT.out h.2.1)).symm, HBE.out⟩
  · have hq : (p != p') = true := by simpa using hp
    have HP := Lib.hid hp
    clear hp
    go_enter Try.func27, Try.ntmps27
    go_wp2_with (fail)
    go_ret
    exact ⟨ret_bool (decide_eq_false (fun h => HP.out h.1)).symm, HB0.out⟩
/-- what the marks leave -/
def MarkR (B : Nat) (v : Value) (p k : Int) (n n' : Nat) (w : World) (e : Ending) (w' : World) : Prop :=
  e = .returned (.int .i64 (k + n + n')) ∧ RO w' B v p (seqI k n) (seqI (k + n) n') ∧ Keep (recBlk v) w w'
theorem markRec (B : Nat) (v : Value) (p : Int) (T F : List Int) (k : Int) (w : World) (h : RO w B v p T F) (hk : 0 ≤ k) (hk' : k + T.length + F.length ≤ 8796093022208) :
    Calls Try.prog 30 #[v, .int .i64 k] w (MarkR B v p k T.length F.length w) := by
  obtain ⟨A, c, A', c', rfl, h1, h2, h3⟩ := h
  have hB0 : Below w.heap.size w (w.alloc (.cells #[.int .i64 p, .slice A T.length c, .slice A' F.length c'] 42)) := (Below.refl _ w).alloc (Nat.le_refl _) _
  have HLA := Lib.hid (show ∀ g, (Value.slice A T.length c).ownBlock = some g → _ from fun g hg => h1.lt g hg)
  have H := Lib.hid (OIb h1 hB0)
  have H' := Lib.hid (OIb h2 hB0)
  have HA := Lib.hid h3
  have HK0 := Lib.hid (show Keep (recBlk (.agg #[.int .i64 p, .slice A T.length c, .slice A' F.length c'])) w _ from (Keep.refl _ _).alloc (.cells #[.int .i64 p, .slice A T.length c, .slice A' F.length c'] 42))
  have hz2 : (w.alloc (.cells #[.int .i64 p, .slice A T.length c, .slice A' F.length c'] 42)).cell? ⟨w.heap.size, 2, none⟩ = some (.slice A' F.length c') := (box3 _ _ _ _ _).2.2
  have HZ2 := Lib.hid hz2
  clear h1 h2 h3 hB0 hz2
  go_enter Try.func30, Try.ntmps30
  go_wp2_with (fail)
  refine (markIntS B A T.length c T k _ H.out hk (by omega)).mono ?_
  rintro e w1 ⟨rfl, hO, hK⟩
  have HO := Lib.hid hO
  have HK := Lib.hid hK
  have z2 := hK.cell HZ2.out (fun hg => by have := (HLA.out _ hg).2; simp at this)
  clear hO hK
  go_wp2_with (fail)
  refine (markIntS B A' F.length c' F (k + (T.length : Int)) _ (OIk H'.out HK.out (fun g hg hs => ap1 HA.out hs hg)) (by omega) (by omega)).mono ?_
  rintro e w2 ⟨rfl, hO2, hK2⟩
  have HO2 := Lib.hid hO2
  have HO1 := Lib.hid (OIk HO.out hK2 (fun g hg hs => ap1 HA.out hg hs))
  have HK2 := Lib.hid ((HK0.out.trans (HK.out.mono (T := recBlk (.agg #[.int .i64 p, .slice A T.length c, .slice A' F.length c'])) (fun g _ hg => ⟨_, _, _, rfl, .inl hg⟩))).trans (hK2.mono (fun g _ hg => ⟨_, _, _, rfl, .inr hg⟩)))
  clear hO2 hK2
  go_wp2_with (fail)
  go_ret
  refine ⟨rfl, ⟨A, c, A', c', by rw [seqI_len, seqI_len], ?_, ?_, ?_⟩, HK2.out⟩
  · rw [seqI_len]; exact HO1.out
  · rw [seqI_len]; exact HO2.out
  · rw [seqI_len, seqI_len]; exact HA.out
theorem heldRec (v : Value) (p k : Int) (n n' : Nat) (w : World) (h : RV w v p (seqI k n) (seqI (k + n) n')) (hk : 0 ≤ k) (hk' : k + n + n' ≤ 8796093022208) :
    Calls Try.prog 34 #[v, .int .i64 k] w fun e w' => e = .returned (.int .i64 (k + n + n')) ∧ Below w.heap.size w w' := by
  obtain ⟨A, m, c, b, o, A', m', c', b', o', rfl, g1, g2⟩ := h
  obtain rfl : m = n := by have := g1.len; rw [seqI_len] at this; exact this.symm
  obtain rfl : m' = n' := by have := g2.len; rw [seqI_len] at this; exact this.symm
  have hB0 : Below w.heap.size w (w.alloc (.cells #[.int .i64 p, .slice A m c, .slice A' m' c'] 42)) := (Below.refl _ w).alloc (Nat.le_refl _) _
  have H := Lib.hid (g1.below hB0)
  have H' := Lib.hid (g2.below hB0)
  clear g1 g2 hB0
  go_enter Try.func34, Try.ntmps34
  go_wp2_with (fail)
  refine (heldIntS A m c b o k _ H.out hk (by omega)).mono ?_
  rintro e w1 ⟨rfl, rfl⟩
  have hp : 0 ≤ k + (m : Int) := by omega
  go_wp2_with (fail)
  refine (heldIntS A' m' c' b' o' (k + (m : Int)) _ H'.out hp (by omega)).mono ?_
  rintro e w1 ⟨rfl, rfl⟩
  have hp2 : 0 ≤ k + (m : Int) + (m' : Int) := by omega
  go_wp2_with (fail)
  go_ret
  exact ⟨rfl, (Below.refl _ _).alloc (Nat.le_refl _) _⟩
end Go.Proofs.Ytcjpjcigjljplaa

/-
  Automata as values: what they hold; the exact laws' helpers over them.
-/
import Derived.Test.YtegkmolffemkpaaEx
import Derived.Test.YtegkmolffemkpaaMarkM
namespace Go.Proofs.Ytegkmolffemkpaa
open Go.RowKit
/-- an automaton that is read -/
def WV (w : World) (v : Value) (p : Int) (S : List Int) (MA MB : List (List Int)) (E : List Int) : Prop :=
  ∃ (A1 : Option Addr) (n1 c1 b1 o1 : Nat) (A2 : Option Addr) (n2 c2 b2 o2 : Nat) (A3 : Option Addr) (n3 c3 b3 o3 : Nat) (A4 : Option Addr) (n4 c4 b4 o4 : Nat), v = .agg #[.int .i64 p, .slice A1 n1 c1, .slice A2 n2 c2, .slice A3 n3 c3, .slice A4 n4 c4] ∧ IA w A1 n1 b1 o1 S ∧ RA w A2 n2 b2 o2 MA ∧ RA w A3 n3 b3 o3 MB ∧ IA w A4 n4 b4 o4 E
/-- the blocks of a matrix: the one of its rows' slices and each row's -/
def rBlk (vs : List Value) (g : Nat) : Prop := ∃ (r : Nat) (u : Value), vs[r]? = some u ∧ u.ownBlock = some g
def mBlk (v : Value) (vs : List Value) (g : Nat) : Prop := v.ownBlock = some g ∨ rBlk vs g
/-- an automaton of the call's own: its blocks lie from B on, below hi, and no two parts share one (F tells the part of a block) -/
def WO (w : World) (B hi : Nat) (v : Value) (p : Int) (S : List Int) (MA MB : List (List Int)) (E : List Int) : Prop :=
  ∃ (A1 : Option Addr) (c1 : Nat) (A2 : Option Addr) (c2 : Nat) (A3 : Option Addr) (c3 : Nat) (A4 : Option Addr) (c4 : Nat) (vs2 vs3 : List Value) (F : Nat → Nat), v = .agg #[.int .i64 p, .slice A1 S.length c1, .slice A2 MA.length c2, .slice A3 MB.length c3, .slice A4 E.length c4] ∧ OI w B A1 S.length c1 S ∧ OM w B A2 MA.length c2 MA vs2 ∧ OM w B A3 MB.length c3 MB vs3 ∧ OI w B A4 E.length c4 E ∧
    (∀ g, (Value.slice A1 S.length c1).ownBlock = some g → F g = 1) ∧ (∀ g, mBlk (.slice A2 MA.length c2) vs2 g → F g = 2) ∧ (∀ g, mBlk (.slice A3 MB.length c3) vs3 g → F g = 3) ∧ (∀ g, (Value.slice A4 E.length c4).ownBlock = some g → F g = 4) ∧ (∀ g, F g ≠ 0 → B ≤ g ∧ g < hi)
theorem WV.keep {w w' : World} {v : Value} {p : Int} {S : List Int} {MA MB : List (List Int)} {E : List Int} {T : Nat → Prop} (h : WV w v p S MA MB E) (k : Keep T w w') (hs : ∀ j, j < w.heap.size → ¬ T j) : WV w' v p S MA MB E := by
  obtain ⟨A1, n1, c1, b1, o1, A2, n2, c2, b2, o2, A3, n3, c3, b3, o3, A4, n4, c4, b4, o4, rfl, h1, h2, h3, h4⟩ := h
  exact ⟨A1, n1, c1, b1, o1, A2, n2, c2, b2, o2, A3, n3, c3, b3, o3, A4, n4, c4, b4, o4, rfl, h1.keep k hs, h2.keep k hs, h3.keep k hs, h4.keep k hs⟩
theorem WV.below {w w' : World} {v : Value} {p : Int} {S : List Int} {MA MB : List (List Int)} {E : List Int} (h : WV w v p S MA MB E) (k : Below w.heap.size w w') : WV w' v p S MA MB E := h.keep (keep_of_below k) (fun _ _ h => h)
theorem WO.wv {w : World} {B hi : Nat} {v : Value} {p : Int} {S : List Int} {MA MB : List (List Int)} {E : List Int} (h : WO w B hi v p S MA MB E) : WV w v p S MA MB E := by
  obtain ⟨A1, c1, A2, c2, A3, c3, A4, c4, vs2, vs3, F, rfl, h1, h2, h3, h4, _⟩ := h
  obtain ⟨b1, g1⟩ := h1.ia
  obtain ⟨b2, g2⟩ := h2.ra
  obtain ⟨b3, g3⟩ := h3.ra
  obtain ⟨b4, g4⟩ := h4.ia
  exact ⟨_, _, _, b1, 0, _, _, _, b2, 0, _, _, _, b3, 0, _, _, _, b4, 0, rfl, g1, g2, g3, g4⟩
theorem WO.shape {w : World} {B hi : Nat} {v : Value} {p : Int} {S : List Int} {MA MB : List (List Int)} {E : List Int} (h : WO w B hi v p S MA MB E) : ∃ (A1 : Option Addr) (c1 : Nat) (A2 : Option Addr) (c2 : Nat) (A3 : Option Addr) (c3 : Nat) (A4 : Option Addr) (c4 : Nat), v = .agg #[.int .i64 p, .slice A1 S.length c1, .slice A2 MA.length c2, .slice A3 MB.length c3, .slice A4 E.length c4] := by
  obtain ⟨A1, c1, A2, c2, A3, c3, A4, c4, vs2, vs3, F, rfl, _⟩ := h
  exact ⟨A1, c1, A2, c2, A3, c3, A4, c4, rfl⟩
theorem OM.keepF {w w' : World} {B n c : Nat} {A : Option Addr} {M : List (List Int)} {vs : List Value} {S : Nat → Prop} (h : OM w B A n c M vs) (k : Keep S w w') (hs : ∀ g, mBlk (.slice A n c) vs g → ¬ S g) : OM w' B A n c M vs :=
  ⟨owns_keep h.out k (fun g hg => hs g (.inl hg)), h.len, fun r row hr => let ⟨A', c', h1, h2⟩ := h.row r row hr; ⟨A', c', h1, owns_keep h2 k (fun g hg => hs g (.inr ⟨r, _, h1, hg⟩))⟩, h.apart⟩
theorem OM.mono {w : World} {B B' n c : Nat} {A : Option Addr} {M : List (List Int)} {vs : List Value} (h : OM w B A n c M vs) (hB : B' ≤ B) : OM w B' A n c M vs :=
  ⟨owns_mono h.out hB, h.len, fun r row hr => let ⟨A', c', h1, h2⟩ := h.row r row hr; ⟨A', c', h1, owns_mono h2 hB⟩, h.apart⟩
theorem OM.mlt {w : World} {B n c : Nat} {A : Option Addr} {M : List (List Int)} {vs : List Value} (h : OM w B A n c M vs) : ∀ g, mBlk (.slice A n c) vs g → B ≤ g ∧ g < w.heap.size := by
  rintro g (hg | ⟨r, u, hu, hg⟩)
  · exact h.out.lt g hg
  · exact h.foot r u g hu hg
theorem WO.keep {w w' : World} {B hi : Nat} {v : Value} {p : Int} {S : List Int} {MA MB : List (List Int)} {E : List Int} {T : Nat → Prop} (h : WO w B hi v p S MA MB E) (k : Keep T w w') (hs : ∀ g, B ≤ g → g < hi → ¬ T g) : WO w' B hi v p S MA MB E := by
  obtain ⟨A1, c1, A2, c2, A3, c3, A4, c4, vs2, vs3, F, rfl, h1, h2, h3, h4, f1, f2, f3, f4, hF⟩ := h
  have hq : ∀ g, F g ≠ 0 → ¬ T g := fun g hg => hs g (hF g hg).1 (hF g hg).2
  exact ⟨A1, c1, A2, c2, A3, c3, A4, c4, vs2, vs3, F, rfl, OIk h1 k (fun g hg => hq g (by rw [f1 g hg]; decide)), h2.keepF k (fun g hg => hq g (by rw [f2 g hg]; decide)), h3.keepF k (fun g hg => hq g (by rw [f3 g hg]; decide)), OIk h4 k (fun g hg => hq g (by rw [f4 g hg]; decide)), f1, f2, f3, f4, hF⟩
theorem WO.below {w w' : World} {B hi : Nat} {v : Value} {p : Int} {S : List Int} {MA MB : List (List Int)} {E : List Int} (h : WO w B hi v p S MA MB E) (k : Below w.heap.size w w') : WO w' B hi v p S MA MB E := h.keep (keep_of_below k) (fun _ _ _ h => h)
theorem WO.mono {w : World} {B B' hi hi' : Nat} {v : Value} {p : Int} {S : List Int} {MA MB : List (List Int)} {E : List Int} (h : WO w B hi v p S MA MB E) (hB : B' ≤ B) (hh : hi ≤ hi') : WO w B' hi' v p S MA MB E := by
  obtain ⟨A1, c1, A2, c2, A3, c3, A4, c4, vs2, vs3, F, rfl, h1, h2, h3, h4, f1, f2, f3, f4, hF⟩ := h
  exact ⟨A1, c1, A2, c2, A3, c3, A4, c4, vs2, vs3, F, rfl, owns_mono h1 hB, h2.mono hB, h3.mono hB, owns_mono h4 hB, f1, f2, f3, f4, fun g hg => ⟨Nat.le_trans hB (hF g hg).1, Nat.lt_of_lt_of_le (hF g hg).2 hh⟩⟩
/-- parts made one after the other -/
theorem wo_seq {w : World} {B s1 s2 s3 hi : Nat} {p : Int} {S : List Int} {MA MB : List (List Int)} {E : List Int} {A1 A2 A3 A4 : Option Addr} {c1 c2 c3 c4 : Nat} {vs2 vs3 : List Value}
    (h1 : OI w B A1 S.length c1 S) (k1 : ∀ g, (Value.slice A1 S.length c1).ownBlock = some g → g < s1) (h2 : OM w s1 A2 MA.length c2 MA vs2) (k2 : ∀ g, mBlk (.slice A2 MA.length c2) vs2 g → g < s2)
    (h3 : OM w s2 A3 MB.length c3 MB vs3) (k3 : ∀ g, mBlk (.slice A3 MB.length c3) vs3 g → g < s3) (h4 : OI w s3 A4 E.length c4 E) (k4 : ∀ g, (Value.slice A4 E.length c4).ownBlock = some g → g < hi)
    (q1 : B ≤ s1) (q2 : s1 ≤ s2) (q3 : s2 ≤ s3) (q4 : s3 ≤ hi) : WO w B hi (.agg #[.int .i64 p, .slice A1 S.length c1, .slice A2 MA.length c2, .slice A3 MB.length c3, .slice A4 E.length c4]) p S MA MB E := by
  refine ⟨A1, c1, A2, c2, A3, c3, A4, c4, vs2, vs3, fun g => if g < B then 0 else if g < s1 then 1 else if g < s2 then 2 else if g < s3 then 3 else if g < hi then 4 else 0, rfl, h1, h2.mono q1, h3.mono (by omega), owns_mono h4 (by omega), ?_, ?_, ?_, ?_, ?_⟩
  · intro g hg
    have a := (h1.lt g hg).1
    have b := k1 g hg
    simp only [show ¬ g < B by omega, if_neg, if_pos b, not_false_eq_true]
  · intro g hg
    have a := (h2.mlt g hg).1
    have b := k2 g hg
    simp only [show ¬ g < B by omega, show ¬ g < s1 by omega, if_neg, if_pos b, not_false_eq_true]
  · intro g hg
    have a := (h3.mlt g hg).1
    have b := k3 g hg
    simp only [show ¬ g < B by omega, show ¬ g < s1 by omega, show ¬ g < s2 by omega, if_neg, if_pos b, not_false_eq_true]
  · intro g hg
    have a := (h4.lt g hg).1
    have b := k4 g hg
    simp only [show ¬ g < B by omega, show ¬ g < s1 by omega, show ¬ g < s2 by omega, show ¬ g < s3 by omega, if_neg, if_pos b, not_false_eq_true]
  · intro g hg
    by_cases a : g < B
    · simp only [if_pos a, ne_eq, not_true_eq_false] at hg
    · refine ⟨by omega, ?_⟩
      by_cases b : g < hi
      · exact b
      · simp only [a, show ¬ g < s1 by omega, show ¬ g < s2 by omega, show ¬ g < s3 by omega, b, if_false, ne_eq, not_true_eq_false] at hg
def MadeW (p : Int) (S : List Int) (MA MB : List (List Int)) (E : List Int) (w : World) (e : Ending) (w' : World) : Prop := ∃ v, e = .returned v ∧ WO w' w.heap.size w'.heap.size v p S MA MB E ∧ Below w.heap.size w w'
/-- an automaton comes back that only is read (the model's) -/
def SaidW (p : Int) (S : List Int) (MA MB : List (List Int)) (E : List Int) (w : World) (e : Ending) (w' : World) : Prop := ∃ (A1 : Option Addr) (n1 c1 : Nat) (A2 : Option Addr) (n2 c2 : Nat) (A3 : Option Addr) (n3 c3 : Nat) (A4 : Option Addr) (n4 c4 : Nat), e = .returned (.agg #[.int .i64 p, .slice A1 n1 c1, .slice A2 n2 c2, .slice A3 n3 c3, .slice A4 n4 c4]) ∧ WV w' (.agg #[.int .i64 p, .slice A1 n1 c1, .slice A2 n2 c2, .slice A3 n3 c3, .slice A4 n4 c4]) p S MA MB E ∧ Below w.heap.size w w'
theorem box5 (w : World) (a b c d e : Value) (t : TypeId) : (w.alloc (.cells #[a, b, c, d, e] t)).cell? ⟨w.heap.size, 0, none⟩ = some a ∧ (w.alloc (.cells #[a, b, c, d, e] t)).cell? ⟨w.heap.size, 1, none⟩ = some b ∧ (w.alloc (.cells #[a, b, c, d, e] t)).cell? ⟨w.heap.size, 2, none⟩ = some c ∧ (w.alloc (.cells #[a, b, c, d, e] t)).cell? ⟨w.heap.size, 3, none⟩ = some d ∧ (w.alloc (.cells #[a, b, c, d, e] t)).cell? ⟨w.heap.size, 4, none⟩ = some e := by
  refine ⟨?_, ?_, ?_, ?_, ?_⟩ <;> simp [go_sem]

theorem szWa (v : Value) (p : Int) (S : List Int) (MA MB : List (List Int)) (E : List Int) (left : Int) (w : World) (h : WV w v p S MA MB E) (h0 : 0 ≤ left) (h1 : left ≤ 1048576) :
    Calls Try.prog 20 #[v, .int .i64 left] w fun e w' => ∃ r : Int, e = .returned (.int .i64 r) ∧ (r < 0 ∨ (0 ≤ r ∧ r ≤ left ∧ (S.length : Int) ≤ left ∧ ((MA.length : Int) ≤ left ∧ ∀ row ∈ MA, (row.length : Int) ≤ left) ∧ ((MB.length : Int) ≤ left ∧ ∀ row ∈ MB, (row.length : Int) ≤ left) ∧ (E.length : Int) ≤ left)) ∧ Below w.heap.size w w' := by
  obtain ⟨A1, n1, c1, b1, o1, A2, n2, c2, b2, o2, A3, n3, c3, b3, o3, A4, n4, c4, b4, o4, rfl, g1, g2, g3, g4⟩ := h
  have hB0 : Below w.heap.size w (w.alloc (.cells #[.int .i64 p, .slice A1 n1 c1, .slice A2 n2 c2, .slice A3 n3 c3, .slice A4 n4 c4] 32)) := (Below.refl _ w).alloc (Nat.le_refl _) _
  have hb1 := g1.big
  have HL1 := Lib.hid g1.len
  have hb2 := g2.big
  have HL2 := Lib.hid g2.len
  have hb3 := g3.big
  have HL3 := Lib.hid g3.len
  have hb4 := g4.big
  have HL4 := Lib.hid g4.len
  have G2 := Lib.hid (g2.below hB0)
  have G3 := Lib.hid (g3.below hB0)
  have HB0 := Lib.hid hB0
  clear g1 g2 g3 g4 hB0
  go_enter Try.func20, Try.ntmps20
  go_wp2_with (fail)
  refine (szIntS A1 n1 c1 left _ hb1 h0 h1).mono ?_
  rintro e w1 ⟨r1, rfl, hr, rfl⟩
  rcases hr with hr | ⟨hr0, hx1, hn1⟩
  · go_wp2_with (fail)
    go_ret
    exact ⟨_, rfl, .inl (by omega), HB0.out⟩
  go_wp2_with (fail)
  refine (szIntSS A2 n2 c2 b2 o2 MA r1 _ G2.out hr0 (by omega)).mono ?_
  rintro e w2 ⟨r2, rfl, hr, rfl⟩
  clear hr0
  rcases hr with hr | ⟨hr0, hx2, hn2, hm2⟩
  · go_wp2_with (fail)
    go_ret
    exact ⟨_, rfl, .inl (by omega), HB0.out⟩
  go_wp2_with (fail)
  refine (szIntSS A3 n3 c3 b3 o3 MB r2 _ G3.out hr0 (by omega)).mono ?_
  rintro e w3 ⟨r3, rfl, hr, rfl⟩
  clear hr0
  rcases hr with hr | ⟨hr0, hx3, hn3, hm3⟩
  · go_wp2_with (fail)
    go_ret
    exact ⟨_, rfl, .inl (by omega), HB0.out⟩
  go_wp2_with (fail)
  refine (szIntS A4 n4 c4 r3 _ hb4 hr0 (by omega)).mono ?_
  rintro e w4 ⟨r4, rfl, hr, rfl⟩
  clear hr0
  rcases hr with hr | ⟨hr0, hx4, hn4⟩
  · go_wp2_with (fail)
    go_ret
    exact ⟨_, rfl, .inl (by omega), HB0.out⟩
  go_wp2_with (fail)
  go_ret
  exact ⟨_, rfl, .inr ⟨hr0, by omega, by rw [HL1.out]; omega, ⟨by rw [HL2.out]; omega, fun row hr => by have := hm2 row hr; omega⟩, ⟨by rw [HL3.out]; omega, fun row hr => by have := hm3 row hr; omega⟩, by rw [HL4.out]; omega⟩, HB0.out⟩
set_option maxHeartbeats 1600000 in
theorem toWa (v : Value) (p : Int) (S : List Int) (MA MB : List (List Int)) (E : List Int) (w : World) (h : WV w v p S MA MB E) (k1 : S.length ≤ 1048576) (k2 : MA.length ≤ 1048576 ∧ ∀ row ∈ MA, row.length ≤ 1048576) (k3 : MB.length ≤ 1048576 ∧ ∀ row ∈ MB, row.length ≤ 1048576) (k4 : E.length ≤ 1048576) :
    Calls Try.prog 21 #[v] w (MadeW p S MA MB E w) := by
  obtain ⟨A1, n1, c1, b1, o1, A2, n2, c2, b2, o2, A3, n3, c3, b3, o3, A4, n4, c4, b4, o4, rfl, g1, g2, g3, g4⟩ := h
  have HL1 := Lib.hid g1.len
  have H1 := Lib.hid g1
  rw [g1.len] at k1
  have HL2 := Lib.hid g2.len
  have H2 := Lib.hid g2
  rw [g2.len] at k2
  have HL3 := Lib.hid g3.len
  have H3 := Lib.hid g3
  rw [g3.len] at k3
  have HL4 := Lib.hid g4.len
  have H4 := Lib.hid g4
  rw [g4.len] at k4
  have K2 := Lib.hid k2.2
  have K3 := Lib.hid k3.2
  obtain ⟨k2, _⟩ := k2
  obtain ⟨k3, _⟩ := k3
  clear g1 g2 g3 g4
  go_enter Try.func21, Try.ntmps21
  go_wp2_with (fail)
  obtain ⟨W0, hW⟩ : ∃ W0, ((w.alloc (.cells #[.int .i64 p, .slice A1 n1 c1, .slice A2 n2 c2, .slice A3 n3 c3, .slice A4 n4 c4] 32)).alloc (.cells #[.int .i64 0, .slice none 0 0, .slice none 0 0, .slice none 0 0, .slice none 0 0] 26)).alloc (.cells #[.int .i64 p, .slice none 0 0, .slice none 0 0, .slice none 0 0, .slice none 0 0] 26) = W0 := ⟨_, rfl⟩
  have hB0 : Below w.heap.size w W0 := by rw [← hW]; exact (((Below.refl _ w).alloc (Nat.le_refl _) _).alloc (by simp) _).alloc (by simp; omega) _
  have hs0 : W0.heap.size = w.heap.size + 3 := by rw [← hW]; simp [go_sem]
  have y2 : W0.cell? ⟨w.heap.size, 2, none⟩ = some (.slice A2 n2 c2) := by rw [← hW]; simp [go_sem]
  have y3 : W0.cell? ⟨w.heap.size, 3, none⟩ = some (.slice A3 n3 c3) := by rw [← hW]; simp [go_sem]
  have y4 : W0.cell? ⟨w.heap.size, 4, none⟩ = some (.slice A4 n4 c4) := by rw [← hW]; simp [go_sem]
  have z0 : W0.cell? ⟨w.heap.size + 1 + 1, 0, none⟩ = some (.int .i64 p) := by rw [← hW]; simp [go_sem]
  have z1 : W0.cell? ⟨w.heap.size + 1 + 1, 1, none⟩ = some (.slice none 0 0) := by rw [← hW]; simp [go_sem]
  have z2 : W0.cell? ⟨w.heap.size + 1 + 1, 2, none⟩ = some (.slice none 0 0) := by rw [← hW]; simp [go_sem]
  have z3 : W0.cell? ⟨w.heap.size + 1 + 1, 3, none⟩ = some (.slice none 0 0) := by rw [← hW]; simp [go_sem]
  have z4 : W0.cell? ⟨w.heap.size + 1 + 1, 4, none⟩ = some (.slice none 0 0) := by rw [← hW]; simp [go_sem]
  have f1 : W0.frozen? ⟨w.heap.size + 1 + 1, 1, none⟩ = false := by rw [← hW]; simp [go_sem]
  have f2 : W0.frozen? ⟨w.heap.size + 1 + 1, 2, none⟩ = false := by rw [← hW]; simp [go_sem]
  have f3 : W0.frozen? ⟨w.heap.size + 1 + 1, 3, none⟩ = false := by rw [← hW]; simp [go_sem]
  have f4 : W0.frozen? ⟨w.heap.size + 1 + 1, 4, none⟩ = false := by rw [← hW]; simp [go_sem]
  have x0 : W0.cell? ⟨w.heap.size + 1, 0, none⟩ = some (.int .i64 0) := by rw [← hW]; simp [go_sem]
  have x1 : W0.cell? ⟨w.heap.size + 1, 1, none⟩ = some (.slice none 0 0) := by rw [← hW]; simp [go_sem]
  have x2 : W0.cell? ⟨w.heap.size + 1, 2, none⟩ = some (.slice none 0 0) := by rw [← hW]; simp [go_sem]
  have x3 : W0.cell? ⟨w.heap.size + 1, 3, none⟩ = some (.slice none 0 0) := by rw [← hW]; simp [go_sem]
  have x4 : W0.cell? ⟨w.heap.size + 1, 4, none⟩ = some (.slice none 0 0) := by rw [← hW]; simp [go_sem]
  have e0 : W0.frozen? ⟨w.heap.size + 1, 0, none⟩ = false := by rw [← hW]; simp [go_sem]
  have e1 : W0.frozen? ⟨w.heap.size + 1, 1, none⟩ = false := by rw [← hW]; simp [go_sem]
  have e2 : W0.frozen? ⟨w.heap.size + 1, 2, none⟩ = false := by rw [← hW]; simp [go_sem]
  have e3 : W0.frozen? ⟨w.heap.size + 1, 3, none⟩ = false := by rw [← hW]; simp [go_sem]
  have e4 : W0.frozen? ⟨w.heap.size + 1, 4, none⟩ = false := by rw [← hW]; simp [go_sem]
  rw [hW]
  clear hW
  have HB := Lib.hid hB0
  clear hB0
  refine (toIntS A1 n1 c1 b1 o1 S _ (H1.out.below HB.out) k1).mono ?_
  rintro e w1 ⟨D1, d1, rfl, hO, hN⟩
  have hk := keep_of_below hN
  have y2 := hk.cell y2 (fun h => h)
  have y3 := hk.cell y3 (fun h => h)
  have y4 := hk.cell y4 (fun h => h)
  have z0 := hk.cell z0 (fun h => h)
  have z1 := hk.cell z1 (fun h => h)
  have z2 := hk.cell z2 (fun h => h)
  have z3 := hk.cell z3 (fun h => h)
  have z4 := hk.cell z4 (fun h => h)
  have f1 := (hk.frozen (p := ⟨w.heap.size + 1 + 1, 1, none⟩) (by show w.heap.size + 1 + 1 < _; omega) (fun h => h)).trans f1
  have f2 := (hk.frozen (p := ⟨w.heap.size + 1 + 1, 2, none⟩) (by show w.heap.size + 1 + 1 < _; omega) (fun h => h)).trans f2
  have f3 := (hk.frozen (p := ⟨w.heap.size + 1 + 1, 3, none⟩) (by show w.heap.size + 1 + 1 < _; omega) (fun h => h)).trans f3
  have f4 := (hk.frozen (p := ⟨w.heap.size + 1 + 1, 4, none⟩) (by show w.heap.size + 1 + 1 < _; omega) (fun h => h)).trans f4
  have x0 := hk.cell x0 (fun h => h)
  have x1 := hk.cell x1 (fun h => h)
  have x2 := hk.cell x2 (fun h => h)
  have x3 := hk.cell x3 (fun h => h)
  have x4 := hk.cell x4 (fun h => h)
  have e0 := (hk.frozen (p := ⟨w.heap.size + 1, 0, none⟩) (by show w.heap.size + 1 < _; omega) (fun h => h)).trans e0
  have e1 := (hk.frozen (p := ⟨w.heap.size + 1, 1, none⟩) (by show w.heap.size + 1 < _; omega) (fun h => h)).trans e1
  have e2 := (hk.frozen (p := ⟨w.heap.size + 1, 2, none⟩) (by show w.heap.size + 1 < _; omega) (fun h => h)).trans e2
  have e3 := (hk.frozen (p := ⟨w.heap.size + 1, 3, none⟩) (by show w.heap.size + 1 < _; omega) (fun h => h)).trans e3
  have e4 := (hk.frozen (p := ⟨w.heap.size + 1, 4, none⟩) (by show w.heap.size + 1 < _; omega) (fun h => h)).trans e4
  have hz1 := hN.size
  have HO1 := Lib.hid hO
  have HM1 := Lib.hid ((fun g hg => hO.lt g hg : ∀ g, (Value.slice D1 n1 d1).ownBlock = some g → _))
  have HB := Lib.hid (below_more HB.out hN)
  clear hO hN hk
  go_wp2_with (fail)
  obtain ⟨W1, hW⟩ : ∃ W, w1.setCell ⟨w.heap.size + 1 + 1, 1, none⟩ (.slice D1 n1 d1) = W := ⟨_, rfl⟩
  have hsz : W1.heap.size = w1.heap.size := by rw [← hW]; simp [World.setCell]
  have hk : Keep (· = w.heap.size + 1 + 1) w1 W1 := by rw [← hW]; exact setCell_keep w1 ⟨w.heap.size + 1 + 1, 1, none⟩ (.slice D1 n1 d1)
  have HO1 := Lib.hid (OIk HO1.out hk (fun g hg hs => by have := (HM1.out g hg).1; have hs' : g = w.heap.size + 1 + 1 := hs; omega))
  have HB := Lib.hid (show Below w.heap.size w W1 by rw [← hW]; exact HB.out.setCell (by show w.heap.size ≤ w.heap.size + 1 + 1; omega) _)
  have y2 : W1.cell? ⟨w.heap.size, 2, none⟩ = some (.slice A2 n2 c2) := by rw [← hW]; exact (World.cell?_setCell_other _ _ _ _ (by simp)).trans y2
  have y3 : W1.cell? ⟨w.heap.size, 3, none⟩ = some (.slice A3 n3 c3) := by rw [← hW]; exact (World.cell?_setCell_other _ _ _ _ (by simp)).trans y3
  have y4 : W1.cell? ⟨w.heap.size, 4, none⟩ = some (.slice A4 n4 c4) := by rw [← hW]; exact (World.cell?_setCell_other _ _ _ _ (by simp)).trans y4
  have z0 : W1.cell? ⟨w.heap.size + 1 + 1, 0, none⟩ = some (.int .i64 p) := by rw [← hW]; exact (World.cell?_setCell_other _ _ _ _ (by simp)).trans z0
  have z1 : W1.cell? ⟨w.heap.size + 1 + 1, 1, none⟩ = some (.slice D1 n1 d1) := by rw [← hW]; exact World.cell?_setCell_same' _ _ _ (by rw [z1]; rfl)
  have z2 : W1.cell? ⟨w.heap.size + 1 + 1, 2, none⟩ = some (.slice none 0 0) := by rw [← hW]; exact (World.cell?_setCell_other _ _ _ _ (by simp)).trans z2
  have z3 : W1.cell? ⟨w.heap.size + 1 + 1, 3, none⟩ = some (.slice none 0 0) := by rw [← hW]; exact (World.cell?_setCell_other _ _ _ _ (by simp)).trans z3
  have z4 : W1.cell? ⟨w.heap.size + 1 + 1, 4, none⟩ = some (.slice none 0 0) := by rw [← hW]; exact (World.cell?_setCell_other _ _ _ _ (by simp)).trans z4
  have f1 : W1.frozen? ⟨w.heap.size + 1 + 1, 1, none⟩ = false := by rw [← hW]; exact (World.frozen?_setCell _ _ _ _).trans f1
  have f2 : W1.frozen? ⟨w.heap.size + 1 + 1, 2, none⟩ = false := by rw [← hW]; exact (World.frozen?_setCell _ _ _ _).trans f2
  have f3 : W1.frozen? ⟨w.heap.size + 1 + 1, 3, none⟩ = false := by rw [← hW]; exact (World.frozen?_setCell _ _ _ _).trans f3
  have f4 : W1.frozen? ⟨w.heap.size + 1 + 1, 4, none⟩ = false := by rw [← hW]; exact (World.frozen?_setCell _ _ _ _).trans f4
  have x0 : W1.cell? ⟨w.heap.size + 1, 0, none⟩ = some (.int .i64 0) := by rw [← hW]; exact (World.cell?_setCell_other _ _ _ _ (by simp)).trans x0
  have x1 : W1.cell? ⟨w.heap.size + 1, 1, none⟩ = some (.slice none 0 0) := by rw [← hW]; exact (World.cell?_setCell_other _ _ _ _ (by simp)).trans x1
  have x2 : W1.cell? ⟨w.heap.size + 1, 2, none⟩ = some (.slice none 0 0) := by rw [← hW]; exact (World.cell?_setCell_other _ _ _ _ (by simp)).trans x2
  have x3 : W1.cell? ⟨w.heap.size + 1, 3, none⟩ = some (.slice none 0 0) := by rw [← hW]; exact (World.cell?_setCell_other _ _ _ _ (by simp)).trans x3
  have x4 : W1.cell? ⟨w.heap.size + 1, 4, none⟩ = some (.slice none 0 0) := by rw [← hW]; exact (World.cell?_setCell_other _ _ _ _ (by simp)).trans x4
  have e0 : W1.frozen? ⟨w.heap.size + 1, 0, none⟩ = false := by rw [← hW]; exact (World.frozen?_setCell _ _ _ _).trans e0
  have e1 : W1.frozen? ⟨w.heap.size + 1, 1, none⟩ = false := by rw [← hW]; exact (World.frozen?_setCell _ _ _ _).trans e1
  have e2 : W1.frozen? ⟨w.heap.size + 1, 2, none⟩ = false := by rw [← hW]; exact (World.frozen?_setCell _ _ _ _).trans e2
  have e3 : W1.frozen? ⟨w.heap.size + 1, 3, none⟩ = false := by rw [← hW]; exact (World.frozen?_setCell _ _ _ _).trans e3
  have e4 : W1.frozen? ⟨w.heap.size + 1, 4, none⟩ = false := by rw [← hW]; exact (World.frozen?_setCell _ _ _ _).trans e4
  rw [hW]
  clear hW hk
  refine (toIntSS A2 n2 c2 b2 o2 MA _ (H2.out.below HB.out) k2 K2.out).mono ?_
  rintro e w2 ⟨D2, d2, vs2, rfl, hO, hN⟩
  have hk := keep_of_below hN
  have y2 := hk.cell y2 (fun h => h)
  have y3 := hk.cell y3 (fun h => h)
  have y4 := hk.cell y4 (fun h => h)
  have z0 := hk.cell z0 (fun h => h)
  have z1 := hk.cell z1 (fun h => h)
  have z2 := hk.cell z2 (fun h => h)
  have z3 := hk.cell z3 (fun h => h)
  have z4 := hk.cell z4 (fun h => h)
  have f1 := (hk.frozen (p := ⟨w.heap.size + 1 + 1, 1, none⟩) (by show w.heap.size + 1 + 1 < _; omega) (fun h => h)).trans f1
  have f2 := (hk.frozen (p := ⟨w.heap.size + 1 + 1, 2, none⟩) (by show w.heap.size + 1 + 1 < _; omega) (fun h => h)).trans f2
  have f3 := (hk.frozen (p := ⟨w.heap.size + 1 + 1, 3, none⟩) (by show w.heap.size + 1 + 1 < _; omega) (fun h => h)).trans f3
  have f4 := (hk.frozen (p := ⟨w.heap.size + 1 + 1, 4, none⟩) (by show w.heap.size + 1 + 1 < _; omega) (fun h => h)).trans f4
  have x0 := hk.cell x0 (fun h => h)
  have x1 := hk.cell x1 (fun h => h)
  have x2 := hk.cell x2 (fun h => h)
  have x3 := hk.cell x3 (fun h => h)
  have x4 := hk.cell x4 (fun h => h)
  have e0 := (hk.frozen (p := ⟨w.heap.size + 1, 0, none⟩) (by show w.heap.size + 1 < _; omega) (fun h => h)).trans e0
  have e1 := (hk.frozen (p := ⟨w.heap.size + 1, 1, none⟩) (by show w.heap.size + 1 < _; omega) (fun h => h)).trans e1
  have e2 := (hk.frozen (p := ⟨w.heap.size + 1, 2, none⟩) (by show w.heap.size + 1 < _; omega) (fun h => h)).trans e2
  have e3 := (hk.frozen (p := ⟨w.heap.size + 1, 3, none⟩) (by show w.heap.size + 1 < _; omega) (fun h => h)).trans e3
  have e4 := (hk.frozen (p := ⟨w.heap.size + 1, 4, none⟩) (by show w.heap.size + 1 < _; omega) (fun h => h)).trans e4
  have hz2 := hN.size
  have HO1 := Lib.hid (OIb HO1.out hN)
  have HO2 := Lib.hid hO
  have HM2 := Lib.hid (hO.mlt)
  have HB := Lib.hid (below_more HB.out hN)
  clear hO hN hk
  go_wp2_with (fail)
  obtain ⟨W2, hW⟩ : ∃ W, w2.setCell ⟨w.heap.size + 1 + 1, 2, none⟩ (.slice D2 n2 d2) = W := ⟨_, rfl⟩
  have hsz : W2.heap.size = w2.heap.size := by rw [← hW]; simp [World.setCell]
  have hk : Keep (· = w.heap.size + 1 + 1) w2 W2 := by rw [← hW]; exact setCell_keep w2 ⟨w.heap.size + 1 + 1, 2, none⟩ (.slice D2 n2 d2)
  have HO1 := Lib.hid (OIk HO1.out hk (fun g hg hs => by have := (HM1.out g hg).1; have hs' : g = w.heap.size + 1 + 1 := hs; omega))
  have HO2 := Lib.hid (HO2.out.keepF hk (fun g hg hs => by have := (HM2.out g hg).1; have hs' : g = w.heap.size + 1 + 1 := hs; omega))
  have HB := Lib.hid (show Below w.heap.size w W2 by rw [← hW]; exact HB.out.setCell (by show w.heap.size ≤ w.heap.size + 1 + 1; omega) _)
  have y2 : W2.cell? ⟨w.heap.size, 2, none⟩ = some (.slice A2 n2 c2) := by rw [← hW]; exact (World.cell?_setCell_other _ _ _ _ (by simp)).trans y2
  have y3 : W2.cell? ⟨w.heap.size, 3, none⟩ = some (.slice A3 n3 c3) := by rw [← hW]; exact (World.cell?_setCell_other _ _ _ _ (by simp)).trans y3
  have y4 : W2.cell? ⟨w.heap.size, 4, none⟩ = some (.slice A4 n4 c4) := by rw [← hW]; exact (World.cell?_setCell_other _ _ _ _ (by simp)).trans y4
  have z0 : W2.cell? ⟨w.heap.size + 1 + 1, 0, none⟩ = some (.int .i64 p) := by rw [← hW]; exact (World.cell?_setCell_other _ _ _ _ (by simp)).trans z0
  have z1 : W2.cell? ⟨w.heap.size + 1 + 1, 1, none⟩ = some (.slice D1 n1 d1) := by rw [← hW]; exact (World.cell?_setCell_other _ _ _ _ (by simp)).trans z1
  have z2 : W2.cell? ⟨w.heap.size + 1 + 1, 2, none⟩ = some (.slice D2 n2 d2) := by rw [← hW]; exact World.cell?_setCell_same' _ _ _ (by rw [z2]; rfl)
  have z3 : W2.cell? ⟨w.heap.size + 1 + 1, 3, none⟩ = some (.slice none 0 0) := by rw [← hW]; exact (World.cell?_setCell_other _ _ _ _ (by simp)).trans z3
  have z4 : W2.cell? ⟨w.heap.size + 1 + 1, 4, none⟩ = some (.slice none 0 0) := by rw [← hW]; exact (World.cell?_setCell_other _ _ _ _ (by simp)).trans z4
  have f1 : W2.frozen? ⟨w.heap.size + 1 + 1, 1, none⟩ = false := by rw [← hW]; exact (World.frozen?_setCell _ _ _ _).trans f1
  have f2 : W2.frozen? ⟨w.heap.size + 1 + 1, 2, none⟩ = false := by rw [← hW]; exact (World.frozen?_setCell _ _ _ _).trans f2
  have f3 : W2.frozen? ⟨w.heap.size + 1 + 1, 3, none⟩ = false := by rw [← hW]; exact (World.frozen?_setCell _ _ _ _).trans f3
  have f4 : W2.frozen? ⟨w.heap.size + 1 + 1, 4, none⟩ = false := by rw [← hW]; exact (World.frozen?_setCell _ _ _ _).trans f4
  have x0 : W2.cell? ⟨w.heap.size + 1, 0, none⟩ = some (.int .i64 0) := by rw [← hW]; exact (World.cell?_setCell_other _ _ _ _ (by simp)).trans x0
  have x1 : W2.cell? ⟨w.heap.size + 1, 1, none⟩ = some (.slice none 0 0) := by rw [← hW]; exact (World.cell?_setCell_other _ _ _ _ (by simp)).trans x1
  have x2 : W2.cell? ⟨w.heap.size + 1, 2, none⟩ = some (.slice none 0 0) := by rw [← hW]; exact (World.cell?_setCell_other _ _ _ _ (by simp)).trans x2
  have x3 : W2.cell? ⟨w.heap.size + 1, 3, none⟩ = some (.slice none 0 0) := by rw [← hW]; exact (World.cell?_setCell_other _ _ _ _ (by simp)).trans x3
  have x4 : W2.cell? ⟨w.heap.size + 1, 4, none⟩ = some (.slice none 0 0) := by rw [← hW]; exact (World.cell?_setCell_other _ _ _ _ (by simp)).trans x4
  have e0 : W2.frozen? ⟨w.heap.size + 1, 0, none⟩ = false := by rw [← hW]; exact (World.frozen?_setCell _ _ _ _).trans e0
  have e1 : W2.frozen? ⟨w.heap.size + 1, 1, none⟩ = false := by rw [← hW]; exact (World.frozen?_setCell _ _ _ _).trans e1
  have e2 : W2.frozen? ⟨w.heap.size + 1, 2, none⟩ = false := by rw [← hW]; exact (World.frozen?_setCell _ _ _ _).trans e2
  have e3 : W2.frozen? ⟨w.heap.size + 1, 3, none⟩ = false := by rw [← hW]; exact (World.frozen?_setCell _ _ _ _).trans e3
  have e4 : W2.frozen? ⟨w.heap.size + 1, 4, none⟩ = false := by rw [← hW]; exact (World.frozen?_setCell _ _ _ _).trans e4
  rw [hW]
  clear hW hk
  refine (toIntSS A3 n3 c3 b3 o3 MB _ (H3.out.below HB.out) k3 K3.out).mono ?_
  rintro e w3 ⟨D3, d3, vs3, rfl, hO, hN⟩
  have hk := keep_of_below hN
  have y2 := hk.cell y2 (fun h => h)
  have y3 := hk.cell y3 (fun h => h)
  have y4 := hk.cell y4 (fun h => h)
  have z0 := hk.cell z0 (fun h => h)
  have z1 := hk.cell z1 (fun h => h)
  have z2 := hk.cell z2 (fun h => h)
  have z3 := hk.cell z3 (fun h => h)
  have z4 := hk.cell z4 (fun h => h)
  have f1 := (hk.frozen (p := ⟨w.heap.size + 1 + 1, 1, none⟩) (by show w.heap.size + 1 + 1 < _; omega) (fun h => h)).trans f1
  have f2 := (hk.frozen (p := ⟨w.heap.size + 1 + 1, 2, none⟩) (by show w.heap.size + 1 + 1 < _; omega) (fun h => h)).trans f2
  have f3 := (hk.frozen (p := ⟨w.heap.size + 1 + 1, 3, none⟩) (by show w.heap.size + 1 + 1 < _; omega) (fun h => h)).trans f3
  have f4 := (hk.frozen (p := ⟨w.heap.size + 1 + 1, 4, none⟩) (by show w.heap.size + 1 + 1 < _; omega) (fun h => h)).trans f4
  have x0 := hk.cell x0 (fun h => h)
  have x1 := hk.cell x1 (fun h => h)
  have x2 := hk.cell x2 (fun h => h)
  have x3 := hk.cell x3 (fun h => h)
  have x4 := hk.cell x4 (fun h => h)
  have e0 := (hk.frozen (p := ⟨w.heap.size + 1, 0, none⟩) (by show w.heap.size + 1 < _; omega) (fun h => h)).trans e0
  have e1 := (hk.frozen (p := ⟨w.heap.size + 1, 1, none⟩) (by show w.heap.size + 1 < _; omega) (fun h => h)).trans e1
  have e2 := (hk.frozen (p := ⟨w.heap.size + 1, 2, none⟩) (by show w.heap.size + 1 < _; omega) (fun h => h)).trans e2
  have e3 := (hk.frozen (p := ⟨w.heap.size + 1, 3, none⟩) (by show w.heap.size + 1 < _; omega) (fun h => h)).trans e3
  have e4 := (hk.frozen (p := ⟨w.heap.size + 1, 4, none⟩) (by show w.heap.size + 1 < _; omega) (fun h => h)).trans e4
  have hz3 := hN.size
  have HO1 := Lib.hid (OIb HO1.out hN)
  have HO2 := Lib.hid (HO2.out.below hN)
  have HO3 := Lib.hid hO
  have HM3 := Lib.hid (hO.mlt)
  have HB := Lib.hid (below_more HB.out hN)
  clear hO hN hk
  go_wp2_with (fail)
  obtain ⟨W3, hW⟩ : ∃ W, w3.setCell ⟨w.heap.size + 1 + 1, 3, none⟩ (.slice D3 n3 d3) = W := ⟨_, rfl⟩
  have hsz : W3.heap.size = w3.heap.size := by rw [← hW]; simp [World.setCell]
  have hk : Keep (· = w.heap.size + 1 + 1) w3 W3 := by rw [← hW]; exact setCell_keep w3 ⟨w.heap.size + 1 + 1, 3, none⟩ (.slice D3 n3 d3)
  have HO1 := Lib.hid (OIk HO1.out hk (fun g hg hs => by have := (HM1.out g hg).1; have hs' : g = w.heap.size + 1 + 1 := hs; omega))
  have HO2 := Lib.hid (HO2.out.keepF hk (fun g hg hs => by have := (HM2.out g hg).1; have hs' : g = w.heap.size + 1 + 1 := hs; omega))
  have HO3 := Lib.hid (HO3.out.keepF hk (fun g hg hs => by have := (HM3.out g hg).1; have hs' : g = w.heap.size + 1 + 1 := hs; omega))
  have HB := Lib.hid (show Below w.heap.size w W3 by rw [← hW]; exact HB.out.setCell (by show w.heap.size ≤ w.heap.size + 1 + 1; omega) _)
  have y2 : W3.cell? ⟨w.heap.size, 2, none⟩ = some (.slice A2 n2 c2) := by rw [← hW]; exact (World.cell?_setCell_other _ _ _ _ (by simp)).trans y2
  have y3 : W3.cell? ⟨w.heap.size, 3, none⟩ = some (.slice A3 n3 c3) := by rw [← hW]; exact (World.cell?_setCell_other _ _ _ _ (by simp)).trans y3
  have y4 : W3.cell? ⟨w.heap.size, 4, none⟩ = some (.slice A4 n4 c4) := by rw [← hW]; exact (World.cell?_setCell_other _ _ _ _ (by simp)).trans y4
  have z0 : W3.cell? ⟨w.heap.size + 1 + 1, 0, none⟩ = some (.int .i64 p) := by rw [← hW]; exact (World.cell?_setCell_other _ _ _ _ (by simp)).trans z0
  have z1 : W3.cell? ⟨w.heap.size + 1 + 1, 1, none⟩ = some (.slice D1 n1 d1) := by rw [← hW]; exact (World.cell?_setCell_other _ _ _ _ (by simp)).trans z1
  have z2 : W3.cell? ⟨w.heap.size + 1 + 1, 2, none⟩ = some (.slice D2 n2 d2) := by rw [← hW]; exact (World.cell?_setCell_other _ _ _ _ (by simp)).trans z2
  have z3 : W3.cell? ⟨w.heap.size + 1 + 1, 3, none⟩ = some (.slice D3 n3 d3) := by rw [← hW]; exact World.cell?_setCell_same' _ _ _ (by rw [z3]; rfl)
  have z4 : W3.cell? ⟨w.heap.size + 1 + 1, 4, none⟩ = some (.slice none 0 0) := by rw [← hW]; exact (World.cell?_setCell_other _ _ _ _ (by simp)).trans z4
  have f1 : W3.frozen? ⟨w.heap.size + 1 + 1, 1, none⟩ = false := by rw [← hW]; exact (World.frozen?_setCell _ _ _ _).trans f1
  have f2 : W3.frozen? ⟨w.heap.size + 1 + 1, 2, none⟩ = false := by rw [← hW]; exact (World.frozen?_setCell _ _ _ _).trans f2
  have f3 : W3.frozen? ⟨w.heap.size + 1 + 1, 3, none⟩ = false := by rw [← hW]; exact (World.frozen?_setCell _ _ _ _).trans f3
  have f4 : W3.frozen? ⟨w.heap.size + 1 + 1, 4, none⟩ = false := by rw [← hW]; exact (World.frozen?_setCell _ _ _ _).trans f4
  have x0 : W3.cell? ⟨w.heap.size + 1, 0, none⟩ = some (.int .i64 0) := by rw [← hW]; exact (World.cell?_setCell_other _ _ _ _ (by simp)).trans x0
  have x1 : W3.cell? ⟨w.heap.size + 1, 1, none⟩ = some (.slice none 0 0) := by rw [← hW]; exact (World.cell?_setCell_other _ _ _ _ (by simp)).trans x1
  have x2 : W3.cell? ⟨w.heap.size + 1, 2, none⟩ = some (.slice none 0 0) := by rw [← hW]; exact (World.cell?_setCell_other _ _ _ _ (by simp)).trans x2
  have x3 : W3.cell? ⟨w.heap.size + 1, 3, none⟩ = some (.slice none 0 0) := by rw [← hW]; exact (World.cell?_setCell_other _ _ _ _ (by simp)).trans x3
  have x4 : W3.cell? ⟨w.heap.size + 1, 4, none⟩ = some (.slice none 0 0) := by rw [← hW]; exact (World.cell?_setCell_other _ _ _ _ (by simp)).trans x4
  have e0 : W3.frozen? ⟨w.heap.size + 1, 0, none⟩ = false := by rw [← hW]; exact (World.frozen?_setCell _ _ _ _).trans e0
  have e1 : W3.frozen? ⟨w.heap.size + 1, 1, none⟩ = false := by rw [← hW]; exact (World.frozen?_setCell _ _ _ _).trans e1
  have e2 : W3.frozen? ⟨w.heap.size + 1, 2, none⟩ = false := by rw [← hW]; exact (World.frozen?_setCell _ _ _ _).trans e2
  have e3 : W3.frozen? ⟨w.heap.size + 1, 3, none⟩ = false := by rw [← hW]; exact (World.frozen?_setCell _ _ _ _).trans e3
  have e4 : W3.frozen? ⟨w.heap.size + 1, 4, none⟩ = false := by rw [← hW]; exact (World.frozen?_setCell _ _ _ _).trans e4
  rw [hW]
  clear hW hk
  refine (toIntS A4 n4 c4 b4 o4 E _ (H4.out.below HB.out) k4).mono ?_
  rintro e w4 ⟨D4, d4, rfl, hO, hN⟩
  have hk := keep_of_below hN
  have y2 := hk.cell y2 (fun h => h)
  have y3 := hk.cell y3 (fun h => h)
  have y4 := hk.cell y4 (fun h => h)
  have z0 := hk.cell z0 (fun h => h)
  have z1 := hk.cell z1 (fun h => h)
  have z2 := hk.cell z2 (fun h => h)
  have z3 := hk.cell z3 (fun h => h)
  have z4 := hk.cell z4 (fun h => h)
  have f1 := (hk.frozen (p := ⟨w.heap.size + 1 + 1, 1, none⟩) (by show w.heap.size + 1 + 1 < _; omega) (fun h => h)).trans f1
  have f2 := (hk.frozen (p := ⟨w.heap.size + 1 + 1, 2, none⟩) (by show w.heap.size + 1 + 1 < _; omega) (fun h => h)).trans f2
  have f3 := (hk.frozen (p := ⟨w.heap.size + 1 + 1, 3, none⟩) (by show w.heap.size + 1 + 1 < _; omega) (fun h => h)).trans f3
  have f4 := (hk.frozen (p := ⟨w.heap.size + 1 + 1, 4, none⟩) (by show w.heap.size + 1 + 1 < _; omega) (fun h => h)).trans f4
  have x0 := hk.cell x0 (fun h => h)
  have x1 := hk.cell x1 (fun h => h)
  have x2 := hk.cell x2 (fun h => h)
  have x3 := hk.cell x3 (fun h => h)
  have x4 := hk.cell x4 (fun h => h)
  have e0 := (hk.frozen (p := ⟨w.heap.size + 1, 0, none⟩) (by show w.heap.size + 1 < _; omega) (fun h => h)).trans e0
  have e1 := (hk.frozen (p := ⟨w.heap.size + 1, 1, none⟩) (by show w.heap.size + 1 < _; omega) (fun h => h)).trans e1
  have e2 := (hk.frozen (p := ⟨w.heap.size + 1, 2, none⟩) (by show w.heap.size + 1 < _; omega) (fun h => h)).trans e2
  have e3 := (hk.frozen (p := ⟨w.heap.size + 1, 3, none⟩) (by show w.heap.size + 1 < _; omega) (fun h => h)).trans e3
  have e4 := (hk.frozen (p := ⟨w.heap.size + 1, 4, none⟩) (by show w.heap.size + 1 < _; omega) (fun h => h)).trans e4
  have hz4 := hN.size
  have HO1 := Lib.hid (OIb HO1.out hN)
  have HO2 := Lib.hid (HO2.out.below hN)
  have HO3 := Lib.hid (HO3.out.below hN)
  have HO4 := Lib.hid hO
  have HM4 := Lib.hid ((fun g hg => hO.lt g hg : ∀ g, (Value.slice D4 n4 d4).ownBlock = some g → _))
  have HB := Lib.hid (below_more HB.out hN)
  clear hO hN hk
  go_wp2_with (fail)
  have hk : Keep (fun g => g = w.heap.size + 1 + 1 ∨ g = w.heap.size + 1) w4 ((((((w4.setCell ⟨w.heap.size + 1 + 1, 4, none⟩ (.slice D4 n4 d4)).setCell ⟨w.heap.size + 1, 0, none⟩ (.int .i64 p)).setCell ⟨w.heap.size + 1, 1, none⟩ (.slice D1 n1 d1)).setCell ⟨w.heap.size + 1, 2, none⟩ (.slice D2 n2 d2)).setCell ⟨w.heap.size + 1, 3, none⟩ (.slice D3 n3 d3)).setCell ⟨w.heap.size + 1, 4, none⟩ (.slice D4 n4 d4)) := (((((((Keep.refl _ _).setCell (p := ⟨w.heap.size + 1 + 1, 4, none⟩) (fun _ => .inl rfl) _).setCell (p := ⟨w.heap.size + 1, 0, none⟩) (fun _ => .inr rfl) _).setCell (p := ⟨w.heap.size + 1, 1, none⟩) (fun _ => .inr rfl) _).setCell (p := ⟨w.heap.size + 1, 2, none⟩) (fun _ => .inr rfl) _).setCell (p := ⟨w.heap.size + 1, 3, none⟩) (fun _ => .inr rfl) _).setCell (p := ⟨w.heap.size + 1, 4, none⟩) (fun _ => .inr rfl) _)
  have HK := Lib.hid hk
  have HB := Lib.hid ((((((HB.out.setCell (p := ⟨w.heap.size + 1 + 1, 4, none⟩) (show w.heap.size ≤ w.heap.size + 1 + 1 by omega) (.slice D4 n4 d4)).setCell (p := ⟨w.heap.size + 1, 0, none⟩) (show w.heap.size ≤ w.heap.size + 1 by omega) (.int .i64 p)).setCell (p := ⟨w.heap.size + 1, 1, none⟩) (show w.heap.size ≤ w.heap.size + 1 by omega) (.slice D1 n1 d1)).setCell (p := ⟨w.heap.size + 1, 2, none⟩) (show w.heap.size ≤ w.heap.size + 1 by omega) (.slice D2 n2 d2)).setCell (p := ⟨w.heap.size + 1, 3, none⟩) (show w.heap.size ≤ w.heap.size + 1 by omega) (.slice D3 n3 d3)).setCell (p := ⟨w.heap.size + 1, 4, none⟩) (show w.heap.size ≤ w.heap.size + 1 by omega) (.slice D4 n4 d4))
  have hfin : ((((((w4.setCell ⟨w.heap.size + 1 + 1, 4, none⟩ (.slice D4 n4 d4)).setCell ⟨w.heap.size + 1, 0, none⟩ (.int .i64 p)).setCell ⟨w.heap.size + 1, 1, none⟩ (.slice D1 n1 d1)).setCell ⟨w.heap.size + 1, 2, none⟩ (.slice D2 n2 d2)).setCell ⟨w.heap.size + 1, 3, none⟩ (.slice D3 n3 d3)).setCell ⟨w.heap.size + 1, 4, none⟩ (.slice D4 n4 d4)).heap.size = w4.heap.size := by simp [World.setCell]
  clear hk
  refine bodyPost_ret (v := .agg #[.int .i64 p, .slice D1 n1 d1, .slice D2 n2 d2, .slice D3 n3 d3, .slice D4 n4 d4]) (by simp [results, Try.f21, go_sem, x0, x1, x2, x3, x4]) rfl ?_
  refine ⟨_, rfl, ?_, HB.out⟩
  rw [hfin]
  obtain rfl := HL1.out
  obtain rfl := HL2.out
  obtain rfl := HL3.out
  obtain rfl := HL4.out
  exact wo_seq (s1 := w1.heap.size) (s2 := w2.heap.size) (s3 := w3.heap.size) (owns_mono (OIk HO1.out HK.out (fun g hg hs => by have := (HM1.out g hg).1; omega)) (by omega)) (fun g hg => (HM1.out g hg).2) (OM.mono (HO2.out.keepF HK.out (fun g hg hs => by have := (HM2.out g hg).1; omega)) (by omega)) (fun g hg => (HM2.out g hg).2) (OM.mono (HO3.out.keepF HK.out (fun g hg hs => by have := (HM3.out g hg).1; omega)) (by omega)) (fun g hg => (HM3.out g hg).2) (owns_mono (OIk HO4.out HK.out (fun g hg hs => by have := (HM4.out g hg).1; omega)) (by omega)) (fun g hg => (HM4.out g hg).2) (by omega) (by omega) (by omega) (by omega)
theorem eqWa (v : Value) (p : Int) (S : List Int) (MA MB : List (List Int)) (E : List Int) (v' : Value) (p' : Int) (S' : List Int) (MA' MB' : List (List Int)) (E' : List Int) (w : World) (h : WV w v p S MA MB E) (h' : WV w v' p' S' MA' MB' E') :
    Calls Try.prog 22 #[v, v'] w fun e w' => e = .returned (.bool (decide (p = p' ∧ S = S' ∧ MA = MA' ∧ MB = MB' ∧ E = E'))) ∧ Below w.heap.size w w' := by
  obtain ⟨A1, n1, c1, b1, o1, A2, n2, c2, b2, o2, A3, n3, c3, b3, o3, A4, n4, c4, b4, o4, rfl, g1, g2, g3, g4⟩ := h
  obtain ⟨B1, m1, d1, x1, y1, B2, m2, d2, x2, y2, B3, m3, d3, x3, y3, B4, m4, d4, x4, y4, rfl, k1, k2, k3, k4⟩ := h'
  have hB0 : Below w.heap.size w ((w.alloc (.cells #[.int .i64 p, .slice A1 n1 c1, .slice A2 n2 c2, .slice A3 n3 c3, .slice A4 n4 c4] 26)).alloc (.cells #[.int .i64 p', .slice B1 m1 d1, .slice B2 m2 d2, .slice B3 m3 d3, .slice B4 m4 d4] 26)) := ((Below.refl _ w).alloc (Nat.le_refl _) _).alloc (by simp) _
  have G1 := Lib.hid (g1.below hB0)
  have K1 := Lib.hid (k1.below hB0)
  have G2 := Lib.hid (g2.below hB0)
  have K2 := Lib.hid (k2.below hB0)
  have G3 := Lib.hid (g3.below hB0)
  have K3 := Lib.hid (k3.below hB0)
  have G4 := Lib.hid (g4.below hB0)
  have K4 := Lib.hid (k4.below hB0)
  have HY2 := Lib.hid (show ((w.alloc (.cells #[.int .i64 p, .slice A1 n1 c1, .slice A2 n2 c2, .slice A3 n3 c3, .slice A4 n4 c4] 26)).alloc (.cells #[.int .i64 p', .slice B1 m1 d1, .slice B2 m2 d2, .slice B3 m3 d3, .slice B4 m4 d4] 26)).cell? ⟨w.heap.size, 2, none⟩ = some (.slice A2 n2 c2) by simp [go_sem])
  have HZ2 := Lib.hid (show ((w.alloc (.cells #[.int .i64 p, .slice A1 n1 c1, .slice A2 n2 c2, .slice A3 n3 c3, .slice A4 n4 c4] 26)).alloc (.cells #[.int .i64 p', .slice B1 m1 d1, .slice B2 m2 d2, .slice B3 m3 d3, .slice B4 m4 d4] 26)).cell? ⟨w.heap.size + 1, 2, none⟩ = some (.slice B2 m2 d2) by simp [go_sem])
  have HY3 := Lib.hid (show ((w.alloc (.cells #[.int .i64 p, .slice A1 n1 c1, .slice A2 n2 c2, .slice A3 n3 c3, .slice A4 n4 c4] 26)).alloc (.cells #[.int .i64 p', .slice B1 m1 d1, .slice B2 m2 d2, .slice B3 m3 d3, .slice B4 m4 d4] 26)).cell? ⟨w.heap.size, 3, none⟩ = some (.slice A3 n3 c3) by simp [go_sem])
  have HZ3 := Lib.hid (show ((w.alloc (.cells #[.int .i64 p, .slice A1 n1 c1, .slice A2 n2 c2, .slice A3 n3 c3, .slice A4 n4 c4] 26)).alloc (.cells #[.int .i64 p', .slice B1 m1 d1, .slice B2 m2 d2, .slice B3 m3 d3, .slice B4 m4 d4] 26)).cell? ⟨w.heap.size + 1, 3, none⟩ = some (.slice B3 m3 d3) by simp [go_sem])
  have HY4 := Lib.hid (show ((w.alloc (.cells #[.int .i64 p, .slice A1 n1 c1, .slice A2 n2 c2, .slice A3 n3 c3, .slice A4 n4 c4] 26)).alloc (.cells #[.int .i64 p', .slice B1 m1 d1, .slice B2 m2 d2, .slice B3 m3 d3, .slice B4 m4 d4] 26)).cell? ⟨w.heap.size, 4, none⟩ = some (.slice A4 n4 c4) by simp [go_sem])
  have HZ4 := Lib.hid (show ((w.alloc (.cells #[.int .i64 p, .slice A1 n1 c1, .slice A2 n2 c2, .slice A3 n3 c3, .slice A4 n4 c4] 26)).alloc (.cells #[.int .i64 p', .slice B1 m1 d1, .slice B2 m2 d2, .slice B3 m3 d3, .slice B4 m4 d4] 26)).cell? ⟨w.heap.size + 1, 4, none⟩ = some (.slice B4 m4 d4) by simp [go_sem])
  have HB := Lib.hid hB0
  clear g1 g2 g3 g4 k1 k2 k3 k4 hB0
  by_cases hp : p = p'
  case neg =>
    have hq : (p != p') = true := by simpa using hp
    have HP := Lib.hid hp
    clear hp
    go_enter Try.func22, Try.ntmps22
    go_wp2_with (fail)
    go_ret
    exact ⟨ret_bool (decide_eq_false (fun h => HP.out h.1)).symm, HB.out⟩
  subst hp
  have hq : (p != p) = false := by simp
  go_enter Try.func22, Try.ntmps22
  go_wp2_with (fail)
  refine (eqIntS A1 n1 c1 b1 o1 S B1 m1 d1 x1 y1 S' _ G1.out K1.out).mono ?_
  rintro e w1 ⟨rfl, hw⟩
  have HB := Lib.hid (below_drawn HB.out hw)
  have G2 := Lib.hid (G2.out.drewN hw)
  have K2 := Lib.hid (K2.out.drewN hw)
  have G3 := Lib.hid (G3.out.drewN hw)
  have K3 := Lib.hid (K3.out.drewN hw)
  have G4 := Lib.hid (G4.out.drewN hw)
  have K4 := Lib.hid (K4.out.drewN hw)
  have hk := keep_of_below (below_drawn (Below.refl _ _) hw)
  have cy2 := hk.cell HY2.out (fun h => h)
  have cz2 := hk.cell HZ2.out (fun h => h)
  have cy3 := hk.cell HY3.out (fun h => h)
  have cz3 := hk.cell HZ3.out (fun h => h)
  have cy4 := hk.cell HY4.out (fun h => h)
  have cz4 := hk.cell HZ4.out (fun h => h)
  clear hk
  clear hw
  by_cases hT : S = S'
  case neg =>
    rw [decide_eq_false hT]
    have HT := Lib.hid hT
    clear hT
    go_wp2_with (fail)
    go_ret
    exact ⟨ret_bool (decide_eq_false (fun h => HT.out h.2.1)).symm, HB.out⟩
  rw [decide_eq_true hT]
  have HT1 := Lib.hid hT
  clear hT
  go_wp2_with (fail)
  refine (eqIntSS A2 n2 c2 b2 o2 MA B2 m2 d2 x2 y2 MA' _ G2.out K2.out).mono ?_
  rintro e w2 ⟨rfl, hw⟩
  have HB := Lib.hid (below_drawn HB.out hw)
  have G3 := Lib.hid (G3.out.drewN hw)
  have K3 := Lib.hid (K3.out.drewN hw)
  have G4 := Lib.hid (G4.out.drewN hw)
  have K4 := Lib.hid (K4.out.drewN hw)
  have hk := keep_of_below (below_drawn (Below.refl _ _) hw)
  have cy3 := hk.cell cy3 (fun h => h)
  have cz3 := hk.cell cz3 (fun h => h)
  have cy4 := hk.cell cy4 (fun h => h)
  have cz4 := hk.cell cz4 (fun h => h)
  clear hk
  clear hw
  by_cases hT : MA = MA'
  case neg =>
    rw [decide_eq_false hT]
    have HT := Lib.hid hT
    clear hT
    go_wp2_with (fail)
    go_ret
    exact ⟨ret_bool (decide_eq_false (fun h => HT.out h.2.2.1)).symm, HB.out⟩
  rw [decide_eq_true hT]
  have HT2 := Lib.hid hT
  clear hT
  go_wp2_with (fail)
  refine (eqIntSS A3 n3 c3 b3 o3 MB B3 m3 d3 x3 y3 MB' _ G3.out K3.out).mono ?_
  rintro e w3 ⟨rfl, hw⟩
  have HB := Lib.hid (below_drawn HB.out hw)
  have G4 := Lib.hid (G4.out.drewN hw)
  have K4 := Lib.hid (K4.out.drewN hw)
  have hk := keep_of_below (below_drawn (Below.refl _ _) hw)
  have cy4 := hk.cell cy4 (fun h => h)
  have cz4 := hk.cell cz4 (fun h => h)
  clear hk
  clear hw
  by_cases hT : MB = MB'
  case neg =>
    rw [decide_eq_false hT]
    have HT := Lib.hid hT
    clear hT
    go_wp2_with (fail)
    go_ret
    exact ⟨ret_bool (decide_eq_false (fun h => HT.out h.2.2.2.1)).symm, HB.out⟩
  rw [decide_eq_true hT]
  have HT3 := Lib.hid hT
  clear hT
  go_wp2_with (fail)
  refine (eqIntS A4 n4 c4 b4 o4 E B4 m4 d4 x4 y4 E' _ G4.out K4.out).mono ?_
  rintro e w4 ⟨rfl, hw⟩
  have HB := Lib.hid (below_drawn HB.out hw)
  clear hw
  by_cases hT : E = E'
  case neg =>
    rw [decide_eq_false hT]
    have HT := Lib.hid hT
    clear hT
    go_wp2_with (fail)
    go_ret
    exact ⟨ret_bool (decide_eq_false (fun h => HT.out h.2.2.2.2)).symm, HB.out⟩
  rw [decide_eq_true hT]
  have HT4 := Lib.hid hT
  clear hT
  go_wp2_with (fail)
  go_ret
  exact ⟨ret_bool (decide_eq_true ⟨trivial, HT1.out, HT2.out, HT3.out, HT4.out⟩).symm, HB.out⟩
/-- marks: only the rows' blocks are written to -/
def MarkS (B n c : Nat) (A : Option Addr) (k : Int) (M : List (List Int)) (vs : List Value) (w : World) (e : Ending) (w' : World) : Prop :=
  e = .returned (.int .i64 (k + (tot M : Int))) ∧ OM w' B A n c (seqM k M) vs ∧ Keep (rBlk vs) w w'
theorem markSS (B : Nat) (A : Option Addr) (n c : Nat) (M : List (List Int)) (vs : List Value) (k : Int) (w : World) (h : OM w B A n c M vs) (hk : 0 ≤ k) (hk' : k + (tot M : Int) ≤ 8796093022208) :
    Calls Try.prog 70 #[.slice A n c, .int .i64 k] w (MarkS B n c A k M vs w) := by
  have hbig := h.big
  have H := Lib.hid h
  clear h
  go_enter Try.func70, Try.ntmps70
  go_wp2_with (fail)
  go_loopw [1, 5] (fun v i wr => ∃ j : Nat, j ≤ n ∧ i = .int .i64 j ∧ v = .int .i64 (k + (tot (M.take j) : Int)) ∧ OM wr B A n c ((seqM k M).take j ++ M.drop j) vs ∧ Keep (rBlk vs) w wr) (fun _ i _ => n - (intOf i).toNat)
  case atStart => exact ⟨0, by omega, rfl, by simp [tot], by simpa using H.out, Keep.refl _ _⟩
  case round =>
    obtain ⟨j, hj, rfl, rfl, hown, hkeep⟩ := hrel
    by_cases hlt : j < n
    · have hL := H.out.len
      obtain ⟨g, hg⟩ : ∃ g, A = some ⟨g, 0, none⟩ := by
        rcases H.out.adr with ⟨_, h0, _⟩ | ⟨g, h1, _⟩
        · omega
        · exact ⟨g, h1⟩
      subst hg
      have hrow : M[j]? = some (M[j]'(by omega)) := List.getElem?_eq_getElem (by omega)
      obtain ⟨row, hrw⟩ : ∃ row, M[j]'(by omega) = row := ⟨_, rfl⟩
      rw [hrw] at hrow
      have hmix : ((seqM k M).take j ++ M.drop j)[j]? = some row := by rw [mix_get _ _ _ (seqM_len k M) (by rw [seqM_len]; omega)]; exact hrow
      obtain ⟨A1, c1, hv, hI⟩ := hown.row j row hmix
      have hcell := World.ownsRow.cellAt hown.out j (by omega)
      rw [hv] at hcell
      have ht := tot_take M j row hrow
      have ht2 := tot_take_le M (j + 1)
      have HR := Lib.hid hrow
      have HM := Lib.hid hmix
      have HV := Lib.hid hv
      have HO := Lib.hid hown
      have HI := Lib.hid hI
      have HT := Lib.hid ht
      have hb1 : k + (tot (M.take j) : Int) + row.length ≤ 8796093022208 := by omega
      clear hrw hrow hmix hv hown hI ht ht2 hL
      go_wp2_with (fail)
      refine (markIntS B A1 row.length c1 row (k + (tot (M.take j) : Int)) _ HI.out (by omega) hb1).mono ?_
      rintro e w1 ⟨rfl, hI1, hK1⟩
      have hs := HO.out.setRow HM.out HV.out (seqI_len _ _) hI1 hK1
      rw [set_step _ _ j _ (seqM_len k M) (seqM_get M k j row HR.out)] at hs
      have HS := Lib.hid hs
      have HK := Lib.hid (hkeep.trans (hK1.mono (fun g _ hg => ⟨j, _, HV.out, hg⟩)))
      clear hs hK1 hkeep hI1
      go_wp2_with (fail)
      go_roundw
      case rel => exact ⟨j + 1, by omega, by go_num, by congr 1; have := HT.out; omega, HS.out, HK.out⟩
      case measure => simp [intOf]; omega
    · obtain rfl : j = n := by omega
      have hL := H.out.len
      have e : (seqM k M).take j ++ M.drop j = seqM k M := by
        rw [List.take_of_length_le (by rw [seqM_len]; omega), List.drop_of_length_le (by omega)]; simp
      have e2 : M.take j = M := List.take_of_length_le (by omega)
      rw [e] at hown
      have HO := Lib.hid hown
      have HE := Lib.hid e2
      clear e hown e2 hL
      go_wp2_with (fail)
      go_ret
      exact ⟨ret_int (by rw [HE.out]), HO.out, hkeep⟩
theorem markWa (B hi : Nat) (v : Value) (p : Int) (S : List Int) (MA MB : List (List Int)) (E : List Int) (k : Int) (w : World) (h : WO w B hi v p S MA MB E) (hk : 0 ≤ k) (hk' : k + S.length + tot MA + tot MB + E.length ≤ 8796093022208) :
    Calls Try.prog 36 #[v, .int .i64 k] w fun e w' => e = .returned (.int .i64 (k + S.length + tot MA + tot MB + E.length)) ∧ WO w' B hi v p (seqI k S.length) (seqM (k + S.length) MA) (seqM (k + S.length + tot MA) MB) (seqI (k + S.length + tot MA + tot MB) E.length) ∧ Keep (fun g => B ≤ g ∧ g < hi) w w' := by
  obtain ⟨A1, c1, A2, c2, A3, c3, A4, c4, vs2, vs3, F, rfl, g1, g2, g3, g4, f1, f2, f3, f4, hF⟩ := h
  have hB0 : Below w.heap.size w (w.alloc (.cells #[.int .i64 p, .slice A1 S.length c1, .slice A2 MA.length c2, .slice A3 MB.length c3, .slice A4 E.length c4] 26)) := (Below.refl _ w).alloc (Nat.le_refl _) _
  have HK := Lib.hid (show Keep (fun g => F g ≠ 0) w (w.alloc (.cells #[.int .i64 p, .slice A1 S.length c1, .slice A2 MA.length c2, .slice A3 MB.length c3, .slice A4 E.length c4] 26)) from (Keep.refl _ _).alloc (.cells #[.int .i64 p, .slice A1 S.length c1, .slice A2 MA.length c2, .slice A3 MB.length c3, .slice A4 E.length c4] 26))
  have HF1 := Lib.hid (show ∀ g, (Value.slice A1 S.length c1).ownBlock = some g → F g = 1 ∧ g < w.heap.size from fun g hg => ⟨f1 g hg, (g1.lt g hg).2⟩)
  have HO1 := Lib.hid (OIb g1 hB0)
  have HF2 := Lib.hid (show ∀ g, mBlk (.slice A2 MA.length c2) vs2 g → F g = 2 ∧ g < w.heap.size from fun g hg => ⟨f2 g hg, (g2.mlt g hg).2⟩)
  have HO2 := Lib.hid (g2.below hB0)
  have HF3 := Lib.hid (show ∀ g, mBlk (.slice A3 MB.length c3) vs3 g → F g = 3 ∧ g < w.heap.size from fun g hg => ⟨f3 g hg, (g3.mlt g hg).2⟩)
  have HO3 := Lib.hid (g3.below hB0)
  have HF4 := Lib.hid (show ∀ g, (Value.slice A4 E.length c4).ownBlock = some g → F g = 4 ∧ g < w.heap.size from fun g hg => ⟨f4 g hg, (g4.lt g hg).2⟩)
  have HO4 := Lib.hid (OIb g4 hB0)
  have HY2 := Lib.hid (show (w.alloc (.cells #[.int .i64 p, .slice A1 S.length c1, .slice A2 MA.length c2, .slice A3 MB.length c3, .slice A4 E.length c4] 26)).cell? ⟨w.heap.size, 2, none⟩ = some (.slice A2 MA.length c2) by simp [go_sem])
  have HY3 := Lib.hid (show (w.alloc (.cells #[.int .i64 p, .slice A1 S.length c1, .slice A2 MA.length c2, .slice A3 MB.length c3, .slice A4 E.length c4] 26)).cell? ⟨w.heap.size, 3, none⟩ = some (.slice A3 MB.length c3) by simp [go_sem])
  have HY4 := Lib.hid (show (w.alloc (.cells #[.int .i64 p, .slice A1 S.length c1, .slice A2 MA.length c2, .slice A3 MB.length c3, .slice A4 E.length c4] 26)).cell? ⟨w.heap.size, 4, none⟩ = some (.slice A4 E.length c4) by simp [go_sem])
  have HF := Lib.hid hF
  clear g1 g2 g3 g4 f1 f2 f3 f4 hF hB0
  go_enter Try.func36, Try.ntmps36
  go_wp2_with (fail)
  refine (markIntS B A1 S.length c1 S (k) _ HO1.out (by omega) (by omega)).mono ?_
  rintro e w1 ⟨rfl, hO, hK⟩
  have HO2 := Lib.hid (HO2.out.keepF hK (fun g hg hs => by have a := (HF2.out g hg).1; have b := (HF1.out g hs).1; omega))
  have HO3 := Lib.hid (HO3.out.keepF hK (fun g hg hs => by have a := (HF3.out g hg).1; have b := (HF1.out g hs).1; omega))
  have HO4 := Lib.hid (OIk HO4.out hK (fun g hg hs => by have a := (HF4.out g hg).1; have b := (HF1.out g hs).1; omega))
  have HO1 := Lib.hid hO
  have cy2 := hK.cell HY2.out (fun hs => by have := (HF1.out _ hs).2; simp at this)
  have cy3 := hK.cell HY3.out (fun hs => by have := (HF1.out _ hs).2; simp at this)
  have cy4 := hK.cell HY4.out (fun hs => by have := (HF1.out _ hs).2; simp at this)
  have HK := Lib.hid (HK.out.trans (hK.mono (fun g _ hs => show F g ≠ 0 by rw [(HF1.out g hs).1]; decide)))
  clear hO hK
  go_wp2_with (fail)
  refine (markSS B A2 MA.length c2 MA vs2 (k + S.length) _ HO2.out (by omega) (by omega)).mono ?_
  rintro e w2 ⟨rfl, hO, hK⟩
  have HO1 := Lib.hid (OIk HO1.out hK (fun g hg hs => by have a := (HF1.out g hg).1; have b := (HF2.out g (.inr hs)).1; omega))
  have HO3 := Lib.hid (HO3.out.keepF hK (fun g hg hs => by have a := (HF3.out g hg).1; have b := (HF2.out g (.inr hs)).1; omega))
  have HO4 := Lib.hid (OIk HO4.out hK (fun g hg hs => by have a := (HF4.out g hg).1; have b := (HF2.out g (.inr hs)).1; omega))
  have HO2 := Lib.hid hO
  have cy3 := hK.cell cy3 (fun hs => by have := (HF2.out _ (.inr hs)).2; simp at this)
  have cy4 := hK.cell cy4 (fun hs => by have := (HF2.out _ (.inr hs)).2; simp at this)
  have HK := Lib.hid (HK.out.trans (hK.mono (fun g _ hs => show F g ≠ 0 by rw [(HF2.out g (.inr hs)).1]; decide)))
  clear hO hK
  go_wp2_with (fail)
  refine (markSS B A3 MB.length c3 MB vs3 (k + S.length + tot MA) _ HO3.out (by omega) (by omega)).mono ?_
  rintro e w3 ⟨rfl, hO, hK⟩
  have HO1 := Lib.hid (OIk HO1.out hK (fun g hg hs => by have a := (HF1.out g hg).1; have b := (HF3.out g (.inr hs)).1; omega))
  have HO2 := Lib.hid (HO2.out.keepF hK (fun g hg hs => by have a := (HF2.out g hg).1; have b := (HF3.out g (.inr hs)).1; omega))
  have HO4 := Lib.hid (OIk HO4.out hK (fun g hg hs => by have a := (HF4.out g hg).1; have b := (HF3.out g (.inr hs)).1; omega))
  have HO3 := Lib.hid hO
  have cy4 := hK.cell cy4 (fun hs => by have := (HF3.out _ (.inr hs)).2; simp at this)
  have HK := Lib.hid (HK.out.trans (hK.mono (fun g _ hs => show F g ≠ 0 by rw [(HF3.out g (.inr hs)).1]; decide)))
  clear hO hK
  go_wp2_with (fail)
  refine (markIntS B A4 E.length c4 E (k + S.length + tot MA + tot MB) _ HO4.out (by omega) (by omega)).mono ?_
  rintro e w4 ⟨rfl, hO, hK⟩
  have HO1 := Lib.hid (OIk HO1.out hK (fun g hg hs => by have a := (HF1.out g hg).1; have b := (HF4.out g hs).1; omega))
  have HO2 := Lib.hid (HO2.out.keepF hK (fun g hg hs => by have a := (HF2.out g hg).1; have b := (HF4.out g hs).1; omega))
  have HO3 := Lib.hid (HO3.out.keepF hK (fun g hg hs => by have a := (HF3.out g hg).1; have b := (HF4.out g hs).1; omega))
  have HO4 := Lib.hid hO
  have HK := Lib.hid (HK.out.trans (hK.mono (fun g _ hs => show F g ≠ 0 by rw [(HF4.out g hs).1]; decide)))
  clear hO hK
  go_wp2_with (fail)
  go_ret
  refine ⟨rfl, ?_, HK.out.mono (fun g _ hg => HF.out g hg)⟩
  refine ⟨A1, c1, A2, c2, A3, c3, A4, c4, vs2, vs3, F, ?_⟩
  simp only [seqI_len, seqM_len]
  exact ⟨trivial, HO1.out, HO2.out, HO3.out, HO4.out, fun g hg => (HF1.out g hg).1, fun g hg => (HF2.out g hg).1, fun g hg => (HF3.out g hg).1, fun g hg => (HF4.out g hg).1, HF.out⟩
theorem heldWa (v : Value) (p k : Int) (S : List Int) (MA MB : List (List Int)) (E : List Int) (w : World) (h : WV w v p (seqI k S.length) (seqM (k + S.length) MA) (seqM (k + S.length + tot MA) MB) (seqI (k + S.length + tot MA + tot MB) E.length)) (hk : 0 ≤ k) (hk' : k + S.length + tot MA + tot MB + E.length ≤ 8796093022208) :
    Calls Try.prog 37 #[v, .int .i64 k] w fun e w' => e = .returned (.int .i64 (k + S.length + tot MA + tot MB + E.length)) ∧ Below w.heap.size w w' := by
  obtain ⟨A1, n1, c1, b1, o1, A2, n2, c2, b2, o2, A3, n3, c3, b3, o3, A4, n4, c4, b4, o4, rfl, g1, g2, g3, g4⟩ := h
  obtain rfl : n1 = S.length := by have := g1.len; rw [seqI_len] at this; exact this.symm
  obtain rfl : n2 = MA.length := by have := g2.len; rw [seqM_len] at this; exact this.symm
  obtain rfl : n3 = MB.length := by have := g3.len; rw [seqM_len] at this; exact this.symm
  obtain rfl : n4 = E.length := by have := g4.len; rw [seqI_len] at this; exact this.symm
  have hB0 : Below w.heap.size w (w.alloc (.cells #[.int .i64 p, .slice A1 S.length c1, .slice A2 MA.length c2, .slice A3 MB.length c3, .slice A4 E.length c4] 26)) := (Below.refl _ w).alloc (Nat.le_refl _) _
  have G1 := Lib.hid (g1.below hB0)
  have G2 := Lib.hid (g2.below hB0)
  have G3 := Lib.hid (g3.below hB0)
  have G4 := Lib.hid (g4.below hB0)
  have HB := Lib.hid hB0
  clear g1 g2 g3 g4 hB0
  go_enter Try.func37, Try.ntmps37
  go_wp2_with (fail)
  refine (heldIntS A1 S.length c1 b1 o1 (k) _ G1.out (by omega) (by omega)).mono ?_
  rintro e w1 ⟨rfl, rfl⟩
  have hp1 : 0 ≤ k + S.length := by omega
  go_wp2_with (fail)
  refine (heldIntSS A2 MA.length c2 b2 o2 (k + S.length) MA _ G2.out (by omega) (by omega)).mono ?_
  rintro e w2 ⟨rfl, rfl⟩
  have hp2 : 0 ≤ k + S.length + tot MA := by omega
  go_wp2_with (fail)
  refine (heldIntSS A3 MB.length c3 b3 o3 (k + S.length + tot MA) MB _ G3.out (by omega) (by omega)).mono ?_
  rintro e w3 ⟨rfl, rfl⟩
  have hp3 : 0 ≤ k + S.length + tot MA + tot MB := by omega
  go_wp2_with (fail)
  refine (heldIntS A4 E.length c4 b4 o4 (k + S.length + tot MA + tot MB) _ G4.out (by omega) (by omega)).mono ?_
  rintro e w4 ⟨rfl, rfl⟩
  have hp4 : 0 ≤ k + S.length + tot MA + tot MB + E.length := by omega
  go_wp2_with (fail)
  go_ret
  exact ⟨rfl, HB.out⟩
end Go.Proofs.Ytegkmolffemkpaa

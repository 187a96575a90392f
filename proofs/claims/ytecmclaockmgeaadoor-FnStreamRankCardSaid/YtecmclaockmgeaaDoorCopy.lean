/-
  The contracts of the exact laws' helpers that read: the sizes, the copies, the comparisons.
-/
import Derived.Test.YtecmclaockmgeaaDoorOwn
import Derived.Test.YtecmclaockmgeaaDoorMatS
namespace Go.Proofs.YtecmclaockmgeaaDoor
open Go.RowKit
def SzPost (Q : Int → Prop) (w : World) (e : Ending) (w' : World) : Prop := ∃ r : Int, e = .returned (.int .i64 r) ∧ Q r ∧ w = w'
def SzQ (left : Int) (n : Nat) (r : Int) : Prop := r < 0 ∨ (0 ≤ r ∧ r ≤ left ∧ (n : Int) ≤ left)
def SzQM (left : Int) (n : Nat) (M : List (List Int)) (r : Int) : Prop := r < 0 ∨ (0 ≤ r ∧ r ≤ left ∧ (n : Int) ≤ left ∧ ∀ row ∈ M, (row.length : Int) ≤ left)
/-- a call's result: a slice of integers of its own -/
def MadeI (n : Nat) (xs : List Int) (w : World) (e : Ending) (w' : World) : Prop :=
  ∃ (A : Option Addr) (c : Nat), e = .returned (.slice A n c) ∧ OI w' w.heap.size A n c xs ∧ Below w.heap.size w w'
def MadeM (n : Nat) (M : List (List Int)) (w : World) (e : Ending) (w' : World) : Prop :=
  ∃ (A : Option Addr) (c : Nat) (vs : List Value), e = .returned (.slice A n c) ∧ OM w' w.heap.size A n c M vs ∧ Below w.heap.size w w'
theorem ints_step {xs : List Int} {k n : Nat} {x : Int} (hk : k < n) (hl : xs.length = n) (hx : xs[k]? = some x) :
    (ints (xs.take k ++ List.replicate (n - k) 0)).set k (.int .i64 x) = ints (xs.take (k + 1) ++ List.replicate (n - (k + 1)) 0) := by
  unfold ints
  have e : n - k = (n - (k + 1)) + 1 := by omega
  rw [List.take_add_one, hx, e, List.replicate_succ]
  simp only [List.map_append, List.map_cons, Option.toList_some, List.append_assoc, List.cons_append, List.nil_append]
  rw [List.set_append_right _ _ (by simp; omega)]
  simp
  rw [show k - min k xs.length = 0 by omega]
  rfl
theorem rows_step {vs : List Value} {k n : Nat} {v z : Value} (hk : k < n) (hl : vs.length = k) :
    (vs ++ List.replicate (n - k) z).set k v = (vs ++ [v]) ++ List.replicate (n - (k + 1)) z := by
  have e : n - k = (n - (k + 1)) + 1 := by omega
  rw [e, List.replicate_succ, List.set_append_right _ _ (by omega)]
  simp [hl]
/-- the rows that are copied so far: each in a block of its own, from B + 1 on; the slice of slices itself in block B -/
structure Half (w : World) (B n k : Nat) (M : List (List Int)) (vs : List Value) : Prop where
  out : w.ownsRow B 23 1 (.slice (some ⟨B, 0, none⟩) n n) n (vs ++ List.replicate (n - k) (.slice none 0 0))
  vlen : vs.length = k
  row : ∀ (r : Nat) (row : List Int), r < k → M[r]? = some row → ∃ (A' : Option Addr) (c' : Nat), vs[r]? = some (Value.slice A' row.length c') ∧ OI w (B + 1) A' row.length c' row
  apart : ∀ (r s : Nat) (u u' : Value), r < s → vs[r]? = some u → vs[s]? = some u' → Apart u u'
theorem Half.start (w : World) (n : Nat) (M : List (List Int)) (hn : n ≤ 9223372036854775807) : Half (w.alloc (.cells (madeCells #[.slice none 0 0] n) 23)) w.heap.size n 0 M [] := by
  have h := World.ownsRow_lit (e := 23) (base := w.heap.size) (size := 1) w (madeCells #[.slice none 0 0] n) n (Nat.le_refl _) (by unfold maxLen; omega) (by simp [madeCells])
  rw [madeCells_one] at h
  exact ⟨by simpa using h, rfl, fun r row h => absurd h (by omega), fun r s u u' _ h => by simp at h⟩
theorem Half.done {w : World} {B n : Nat} {M : List (List Int)} {vs : List Value} (h : Half w B n n M vs) (hl : M.length = n) : OM w B (some ⟨B, 0, none⟩) n n M vs := by
  obtain ⟨h1, h2, h3, h4⟩ := h
  refine ⟨by simpa using h1, hl, fun r row hr => ?_, h4⟩
  have hlt : r < M.length := (List.getElem?_eq_some_iff.1 hr).1
  obtain ⟨A', c', g1, g2⟩ := h3 r row (by omega) hr
  exact ⟨A', c', g1, owns_mono g2 (by omega)⟩
theorem Half.step {w w1 : World} {B n k : Nat} {M : List (List Int)} {vs : List Value} (h : Half w B n k M vs) (hk : k < n) (hM : M.length = n) (hbel : Below w.heap.size w w1) {row : List Int} {A : Option Addr} {c : Nat} (hr : M[k]? = some row)
    (hI : OI w1 w.heap.size A row.length c row) : Half (w1.setCell ⟨B, k, none⟩ (.slice A row.length c)) B n (k + 1) M (vs ++ [.slice A row.length c]) ∧ w1.grownBy (w1.setCell ⟨B, k, none⟩ (.slice A row.length c)) (some B) := by
  obtain ⟨h1, h2, h3, h4⟩ := h
  have hB := h1.lt B rfl
  have ho := owns_below h1 hbel
  obtain ⟨hs, hg⟩ := World.ownsRow.stored ho k (.slice A row.length c)
  rw [rows_step hk h2] at hs
  have hkeep := keep_grown hg
  have old : ∀ (e m : Nat) (v : Value) (xs : List Value), w1.ownsRow (B + 1) e 1 v m xs → (w1.setCell ⟨B, k, none⟩ (.slice A row.length c)).ownsRow (B + 1) e 1 v m xs := fun e m v xs hx =>
    owns_keep hx hkeep (fun g hgv he => by have := (hx.lt g hgv).1; simp at he; omega)
  refine ⟨⟨hs, by simp [h2], fun r row' hlt hr' => ?_, fun r s u u' hrs hu hu' => ?_⟩, hg⟩
  · by_cases e : r = k
    · subst e
      rw [hr] at hr'
      obtain rfl := Option.some.inj hr'
      exact ⟨A, c, by rw [List.getElem?_append_right (by omega)]; simp [h2], old _ _ _ _ (owns_mono hI (by omega))⟩
    · obtain ⟨A', c', g1, g2⟩ := h3 r row' (by omega) hr'
      exact ⟨A', c', by rw [List.getElem?_append_left (by omega)]; exact g1, old _ _ _ _ (owns_below g2 hbel)⟩
  · by_cases e : s = k
    · rw [List.getElem?_append_right (by omega), e] at hu'
      simp [h2] at hu'
      subst hu'
      rw [List.getElem?_append_left (by omega)] at hu
      rcases ho' : u.ownBlock with _ | g
      · exact .inl ho'
      · right
        rw [ho']
        intro e2
        rcases hI.adr with ⟨rfl, _, _⟩ | ⟨g', rfl, hg', _⟩
        · simp [Value.ownBlock] at e2
        · simp only [Value.ownBlock, Option.some.injEq] at e2
          have hr1 : M[r]? = some (M[r]'(by omega)) := List.getElem?_eq_getElem (by omega)
          obtain ⟨A', c', g1, g2⟩ := h3 r _ (by omega) hr1
          rw [g1] at hu
          obtain rfl := Option.some.inj hu
          have := (g2.lt g ho').2
          omega
    · have hs' : s < k := by
        have := (List.getElem?_eq_some_iff.1 hu').1
        simp [h2] at this; omega
      rw [List.getElem?_append_left (by omega)] at hu hu'
      exact h4 r s u u' hrs hu hu'
end Go.Proofs.YtecmclaockmgeaaDoor

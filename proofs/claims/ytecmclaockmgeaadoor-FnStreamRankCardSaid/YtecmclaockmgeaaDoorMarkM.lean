/-
  The same for slices of slices.
-/
import Derived.Test.YtecmclaockmgeaaDoorMark
namespace Go.Proofs.YtecmclaockmgeaaDoor
open Go.RowKit
/-- the rows' blocks lie from B on, below hi -/
def Foot (vs : List Value) (B hi : Nat) : Prop := ∀ (r : Nat) (u : Value) (g : Nat), vs[r]? = some u → u.ownBlock = some g → B ≤ g ∧ g < hi
theorem OM.foot {w : World} {B n c : Nat} {A : Option Addr} {M : List (List Int)} {vs : List Value} (h : OM w B A n c M vs) : Foot vs B w.heap.size := by
  intro r u g hu hg
  have hr : r < M.length := by have := (List.getElem?_eq_some_iff.1 hu).1; rw [h.vlen] at this; rw [h.len]; exact this
  obtain ⟨A', c', h1, h2⟩ := h.row r _ (List.getElem?_eq_getElem hr)
  rw [hu] at h1
  obtain rfl := Option.some.inj h1
  exact h2.lt g hg
theorem OM.keep {w w' : World} {B n c : Nat} {A : Option Addr} {M : List (List Int)} {vs : List Value} {S : Nat → Prop} (h : OM w B A n c M vs) (k : Keep S w w') (hs : ∀ g, B ≤ g → g < w.heap.size → ¬ S g) : OM w' B A n c M vs :=
  ⟨owns_keep h.out k (fun g hg => let ⟨a, b⟩ := h.out.lt g hg; hs g a b), h.len, fun r row hr => let ⟨A', c', h1, h2⟩ := h.row r row hr; ⟨A', c', h1, owns_keep h2 k (fun g hg => let ⟨a, b⟩ := h2.lt g hg; hs g a b)⟩, h.apart⟩
theorem block_elem {w : World} {B e e' n n' : Nat} {v v' : Value} {xs xs' : List Value} (h : w.ownsRow B e 1 v n xs) (h' : w.ownsRow B e' 1 v' n' xs') (hne : e ≠ e') (g : Nat) (hg : v.ownBlock = some g) : v'.ownBlock ≠ some g := by
  intro hg'
  rcases h.2 with ⟨h1, _⟩ | ⟨g1, cap1, cur1, hv1, _, hh1, _⟩
  · rw [h1] at hg; simp [Value.ownBlock] at hg
  rcases h'.2 with ⟨h1, _⟩ | ⟨g2, cap2, cur2, hv2, _, hh2, _⟩
  · rw [h1] at hg'; simp [Value.ownBlock] at hg'
  rw [hv1] at hg; rw [hv2] at hg'
  simp only [Value.ownBlock, Option.some.injEq] at hg hg'
  subst hg; subst hg'
  rw [hh1] at hh2
  simp at hh2
  exact hne hh2.2
theorem OM.setRow {w w' : World} {B n c : Nat} {A : Option Addr} {M : List (List Int)} {vs : List Value} (h : OM w B A n c M vs) {r : Nat} {row new : List Int} {A' : Option Addr} {c' : Nat} (hr : M[r]? = some row) (hv : vs[r]? = some (Value.slice A' row.length c'))
    (hl : new.length = row.length) (hI : OI w' B A' row.length c' new) (k : Keep (fun g => (Value.slice A' row.length c').ownBlock = some g) w w') : OM w' B A n c (M.set r new) vs := by
  have hlt : r < M.length := (List.getElem?_eq_some_iff.1 hr).1
  obtain ⟨A1, c1, hv1, hI1⟩ := h.row r row hr
  rw [hv] at hv1
  simp only [Option.some.injEq, Value.slice.injEq, true_and] at hv1
  obtain ⟨rfl, rfl⟩ := hv1
  refine ⟨owns_keep h.out k (fun g hg hs => ?_), by simp [h.len], fun s row' hs => ?_, h.apart⟩
  · exact block_elem hI1 h.out (by decide) g hs hg
  · by_cases e : s = r
    · subst e
      rw [List.getElem?_set_self hlt] at hs
      obtain rfl := Option.some.inj hs
      exact ⟨A', c', by rw [hl]; exact hv, by rw [hl]; exact hI⟩
    · rw [List.getElem?_set_ne (fun e' => e e'.symm)] at hs
      obtain ⟨A2, c2, h1, h2⟩ := h.row s row' hs
      refine ⟨A2, c2, h1, owns_keep h2 k (fun g hg hs' => ?_)⟩
      rcases Nat.lt_or_gt_of_ne e with hlt' | hlt'
      · rcases h.apart s r _ _ hlt' h1 hv with h3 | h3
        · rw [h3] at hg; simp at hg
        · exact h3 (hg.trans hs'.symm)
      · rcases h.apart r s _ _ hlt' hv h1 with h3 | h3
        · rw [h3] at hs'; simp at hs'
        · exact h3 (hs'.trans hg.symm)
def MarkM (B n c hi : Nat) (A : Option Addr) (k : Int) (M : List (List Int)) (vs : List Value) (w : World) (e : Ending) (w' : World) : Prop :=
  e = .returned (.int .i64 (k + (tot M : Int))) ∧ OM w' B A n c (seqM k M) vs ∧ Keep (fun g => B ≤ g ∧ g < hi) w w'
end Go.Proofs.YtecmclaockmgeaaDoor

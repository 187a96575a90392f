/-
  Recurrences as values: what they hold; the exact laws' helpers over them.
-/
import Derived.Test.YtecmclaockmgeaaDoorEx
namespace Go.Proofs.YtecmclaockmgeaaDoor
open Go.RowKit
/-- a recurrence that is read -/
def RV (w : World) (v : Value) (p : Int) (T F : List Int) : Prop :=
  ∃ (A : Option Addr) (n c b o : Nat) (A' : Option Addr) (n' c' b' o' : Nat), v = .agg #[.int .i64 p, .slice A n c, .slice A' n' c'] ∧ IA w A n b o T ∧ IA w A' n' b' o' F
/-- a recurrence of the call's own -/
def RO (w : World) (B : Nat) (v : Value) (p : Int) (T F : List Int) : Prop :=
  ∃ (A : Option Addr) (c : Nat) (A' : Option Addr) (c' : Nat), v = .agg #[.int .i64 p, .slice A T.length c, .slice A' F.length c'] ∧ OI w B A T.length c T ∧ OI w B A' F.length c' F ∧ Apart (.slice A T.length c) (.slice A' F.length c')
/-- the blocks of such a value -/
def recBlk (v : Value) (g : Nat) : Prop := ∃ (p : Value) (u u' : Value), v = .agg #[p, u, u'] ∧ (u.ownBlock = some g ∨ u'.ownBlock = some g)
theorem RV.keep {w w' : World} {v : Value} {p : Int} {T F : List Int} {S : Nat → Prop} (h : RV w v p T F) (k : Keep S w w') (hs : ∀ j, j < w.heap.size → ¬ S j) : RV w' v p T F := by
  obtain ⟨A, n, c, b, o, A', n', c', b', o', rfl, h1, h2⟩ := h
  exact ⟨A, n, c, b, o, A', n', c', b', o', rfl, h1.keep k hs, h2.keep k hs⟩
theorem RV.below {w w' : World} {v : Value} {p : Int} {T F : List Int} (h : RV w v p T F) (k : Below w.heap.size w w') : RV w' v p T F := h.keep (keep_of_below k) (fun _ _ h => h)
theorem RO.rv {w : World} {B : Nat} {v : Value} {p : Int} {T F : List Int} (h : RO w B v p T F) : RV w v p T F := by
  obtain ⟨A, c, A', c', rfl, h1, h2, _⟩ := h
  obtain ⟨b, g1⟩ := h1.ia
  obtain ⟨b', g2⟩ := h2.ia
  exact ⟨_, _, _, b, 0, _, _, _, b', 0, rfl, g1, g2⟩
theorem RO.lt {w : World} {B : Nat} {v : Value} {p : Int} {T F : List Int} (h : RO w B v p T F) : ∀ g, recBlk v g → B ≤ g ∧ g < w.heap.size := by
  obtain ⟨A, c, A', c', rfl, h1, h2, _⟩ := h
  rintro g ⟨p', u, u', e, hg⟩
  simp only [Value.agg.injEq, Array.mk.injEq, List.cons.injEq, and_true] at e
  obtain ⟨_, rfl, rfl⟩ := e
  rcases hg with hg | hg
  · exact h1.lt g hg
  · exact h2.lt g hg
theorem RO.mono {w : World} {B B' : Nat} {v : Value} {p : Int} {T F : List Int} (h : RO w B v p T F) (hB : B' ≤ B) : RO w B' v p T F := by
  obtain ⟨A, c, A', c', rfl, h1, h2, h3⟩ := h
  exact ⟨A, c, A', c', rfl, owns_mono h1 hB, owns_mono h2 hB, h3⟩
theorem RO.keep {w w' : World} {B : Nat} {v : Value} {p : Int} {T F : List Int} {S : Nat → Prop} (h : RO w B v p T F) (k : Keep S w w') (hs : ∀ g, recBlk v g → ¬ S g) : RO w' B v p T F := by
  obtain ⟨A, c, A', c', rfl, h1, h2, h3⟩ := h
  exact ⟨A, c, A', c', rfl, OIk h1 k (fun g hg => hs g ⟨_, _, _, rfl, .inl hg⟩), OIk h2 k (fun g hg => hs g ⟨_, _, _, rfl, .inr hg⟩), h3⟩
theorem RO.below {w w' : World} {B : Nat} {v : Value} {p : Int} {T F : List Int} (h : RO w B v p T F) (k : Below w.heap.size w w') : RO w' B v p T F := h.keep (keep_of_below k) (fun _ _ h => h)
/-- a recurrence comes back -/
def MadeR (p : Int) (T F : List Int) (w : World) (e : Ending) (w' : World) : Prop := ∃ v, e = .returned v ∧ RO w' w.heap.size v p T F ∧ Below w.heap.size w w'
theorem box3 (w : World) (a b c : Value) (t : TypeId) : (w.alloc (.cells #[a, b, c] t)).cell? ⟨w.heap.size, 0, none⟩ = some a ∧ (w.alloc (.cells #[a, b, c] t)).cell? ⟨w.heap.size, 1, none⟩ = some b ∧ (w.alloc (.cells #[a, b, c] t)).cell? ⟨w.heap.size, 2, none⟩ = some c := by
  refine ⟨?_, ?_, ?_⟩ <;> simp [go_sem]
/-- what the marks leave -/
def MarkR (B : Nat) (v : Value) (p k : Int) (n n' : Nat) (w : World) (e : Ending) (w' : World) : Prop :=
  e = .returned (.int .i64 (k + n + n')) ∧ RO w' B v p (seqI k n) (seqI (k + n) n') ∧ Keep (recBlk v) w w'
end Go.Proofs.YtecmclaockmgeaaDoor

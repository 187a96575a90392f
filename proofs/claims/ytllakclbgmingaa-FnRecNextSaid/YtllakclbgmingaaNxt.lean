/-
  RecNext: what it answers, rows of the call's own that begin anywhere, and the program's contract.
-/
import Derived.Deep.RegionHeld3
import Derived.Test.YtllakclbgmingaaTms
namespace Go.Proofs.Ytllakclbgmingaa
open Go.RowKit
/-- a row of the call's own, wherever in its block it begins -/
def OW (w : World) (B : Nat) (A : Option Addr) (n c : Nat) (xs : List Int) : Prop :=
  ∃ (b o : Nat), IA w A n b o xs ∧ (∀ g, (Value.slice A n c).ownBlock = some g → B ≤ g ∧ g < w.heap.size) ∧ (∀ i, i < n → w.frozen? ⟨b, o + i, none⟩ = false)
theorem OW.ia {w : World} {B n c : Nat} {A : Option Addr} {xs : List Int} (h : OW w B A n c xs) : ∃ b o, IA w A n b o xs := by
  obtain ⟨b, o, h1, _, _⟩ := h
  exact ⟨b, o, h1⟩
theorem OW.keep {w w' : World} {B n c : Nat} {A : Option Addr} {xs : List Int} {S : Nat → Prop} (h : OW w B A n c xs) (k : Keep S w w') (hs : ∀ g, (Value.slice A n c).ownBlock = some g → ¬ S g) : OW w' B A n c xs := by
  obtain ⟨b, o, h1, h2, h3⟩ := h
  have hb : 0 < n → (Value.slice A n c).ownBlock = some b := fun hn => by rw [h1.adr hn]; rfl
  refine ⟨b, o, ⟨h1.len, h1.adr, h1.big, fun i hi => ?_⟩, fun g hg => ⟨(h2 g hg).1, Nat.lt_of_lt_of_le (h2 g hg).2 k.size⟩, fun i hi => ?_⟩
  · obtain ⟨x, hx, hc⟩ := h1.cell i hi
    exact ⟨x, hx, k.cell hc (hs b (hb (by omega)))⟩
  · obtain ⟨x, hx, hc⟩ := h1.cell i hi
    exact (k.frozen (p := ⟨b, o + i, none⟩) (cell_lt hc) (hs b (hb (by omega)))).trans (h3 i hi)
theorem OW.mono {w : World} {B B' n c : Nat} {A : Option Addr} {xs : List Int} (h : OW w B A n c xs) (hB : B' ≤ B) : OW w B' A n c xs := by
  obtain ⟨b, o, h1, h2, h3⟩ := h
  exact ⟨b, o, h1, fun g hg => ⟨Nat.le_trans hB (h2 g hg).1, (h2 g hg).2⟩, h3⟩
theorem OI.ow {w : World} {B n c : Nat} {A : Option Addr} {xs : List Int} (h : OI w B A n c xs) : OW w B A n c xs := by
  obtain ⟨b, hI, hA⟩ := OI.iaA h
  refine ⟨b, 0, hI, fun g hg => h.lt g hg, fun i hi => ?_⟩
  rcases hA with ⟨rfl, _⟩ | rfl
  · have := hI.adr (by omega); cases this
  · rw [Nat.zero_add]; exact World.ownsRow.frozenAt h i
/-- such a row without its first number -/
theorem OI.tail {w : World} {B q n c c' : Nat} {x : Int} {xs : List Int} (h : OI w B (some ⟨q, 0, none⟩) (n + 1) c (x :: xs)) : OW w B (some ⟨q, 1, none⟩) n c' xs := by
  obtain ⟨b, hI, hA⟩ := OI.iaA h
  obtain rfl : q = b := by
    rcases hA with ⟨h1, _⟩ | h1
    · cases h1
    · cases h1; rfl
  refine ⟨q, 1, ⟨by have := hI.len; simpa using this, fun _ => rfl, by have := hI.big; omega, fun i hi => ?_⟩, fun g hg => h.lt g (by simpa [Value.ownBlock] using hg), fun i hi => ?_⟩
  · obtain ⟨y, hy, hc⟩ := hI.cell (i + 1) (by omega)
    refine ⟨y, by simpa using hy, ?_⟩
    rw [Nat.zero_add] at hc
    rw [Nat.add_comm 1 i]; exact hc
  · rw [Nat.add_comm 1 i]; exact World.ownsRow.frozenAt h (i + 1)
/-- a recurrence of the call's own, its rows wherever they begin -/
def RW (w : World) (B : Nat) (v : Value) (p : Int) (T F : List Int) : Prop :=
  ∃ (A : Option Addr) (c : Nat) (A' : Option Addr) (c' : Nat), v = .agg #[.int .i64 p, .slice A T.length c, .slice A' F.length c'] ∧ OW w B A T.length c T ∧ OW w B A' F.length c' F ∧ Apart (.slice A T.length c) (.slice A' F.length c')
theorem RW.rv {w : World} {B : Nat} {v : Value} {p : Int} {T F : List Int} (h : RW w B v p T F) : RV w v p T F := by
  obtain ⟨A, c, A', c', rfl, h1, h2, _⟩ := h
  obtain ⟨b, o, g1⟩ := h1.ia
  obtain ⟨b', o', g2⟩ := h2.ia
  exact ⟨_, _, _, b, o, _, _, _, b', o', rfl, g1, g2⟩
theorem RO.rw {w : World} {B : Nat} {v : Value} {p : Int} {T F : List Int} (h : RO w B v p T F) : RW w B v p T F := by
  obtain ⟨A, c, A', c', rfl, h1, h2, h3⟩ := h
  exact ⟨A, c, A', c', rfl, h1.ow, h2.ow, h3⟩
def MadeW (p : Int) (T F : List Int) (w : World) (e : Ending) (w' : World) : Prop := ∃ v, e = .returned v ∧ RW w' w.heap.size v p T F ∧ Below w.heap.size w w'
def nextO (p : Int) (T F : List Int) : Int × List Int × List Int := if recB p T F = true then (p, T, (trm p T F (F.length + 1)).drop 1) else (0, [], [])
theorem nextO_len (p : Int) (T F : List Int) : (nextO p T F).2.1.length ≤ 1048576 ∧ (nextO p T F).2.2.length ≤ 1048576 := by
  unfold nextO
  split
  · rename_i h
    obtain ⟨_, h6, hl, _, _⟩ := recB_true h
    simp only [List.length_drop, trm_len]
    omega
  · simp
end Go.Proofs.Ytllakclbgmingaa

/-
  Memory that a call has made: a slice of integers of its own, a slice of such slices of its own, each in a block of its own.
-/
import Derived.Test.YtegkmolffemkpaaMem
import Derived.Deep.OwnRows
namespace Go.Proofs.Ytegkmolffemkpaa
open Go.RowKit
theorem infoInt : (Try.prog.info? 3).map (fun i => (i.zero, i.size, i.bytes)) = some (some (.int .i64 0), 1, 8) := by kernel_rfl
theorem infoInts : (Try.prog.info? 23).map (fun i => (i.zero, i.size, i.bytes)) = some (some (.slice none 0 0), 1, 24) := by kernel_rfl
def ints (xs : List Int) : List Value := xs.map (Value.int .i64)
/-- the slice '.slice A n c' is of the call's own, in a block from B on, and holds xs -/
def OI (w : World) (B : Nat) (A : Option Addr) (n c : Nat) (xs : List Int) : Prop := w.ownsRow B 3 1 (.slice A n c) n (ints xs)
theorem OI.len {w : World} {B n c : Nat} {A : Option Addr} {xs : List Int} (h : OI w B A n c xs) : xs.length = n := by have := h.1; simpa [ints] using this
theorem OI.big {w : World} {B n c : Nat} {A : Option Addr} {xs : List Int} (h : OI w B A n c xs) : n ≤ 9223372036854775807 := by
  rcases h.2 with ⟨_, h⟩ | ⟨g, cap, cur, hv, _, _, h1, h2, _⟩
  · omega
  · unfold maxLen at h2; omega
theorem OI.adr {w : World} {B n c : Nat} {A : Option Addr} {xs : List Int} (h : OI w B A n c xs) : (A = none ∧ n = 0 ∧ c = 0) ∨ ∃ g, A = some ⟨g, 0, none⟩ ∧ B ≤ g ∧ g < w.heap.size := by
  rcases h.2 with ⟨h1, h2⟩ | ⟨g, cap, cur, hv, hb, hg, _⟩
  · simp only [Value.slice.injEq] at h1
    exact .inl ⟨h1.1, h2, h1.2.2⟩
  · simp only [Value.slice.injEq] at hv
    exact .inr ⟨g, hv.1, hb, by rcases Nat.lt_or_ge g w.heap.size with h | h; exact h; rw [Array.getElem?_eq_none h] at hg; simp at hg⟩
theorem OI.ia {w : World} {B n c : Nat} {A : Option Addr} {xs : List Int} (h : OI w B A n c xs) : ∃ b, IA w A n b 0 xs := by
  have hl := h.len
  rcases h.adr with ⟨rfl, rfl, rfl⟩ | ⟨g, rfl, hb, hg⟩
  · exact ⟨0, hl, by omega, by omega, by omega⟩
  · refine ⟨g, hl, fun _ => rfl, h.big, fun i hi => ⟨xs[i]'(by omega), by simp [hl, hi], ?_⟩⟩
    have := World.ownsRow.cellAt (h : w.ownsRow B 3 1 (.slice (some ⟨g, 0, none⟩) n c) n (ints xs)) i (by omega)
    rw [Nat.zero_add, this]
    simp [ints, hl, hi]
theorem owns_keep {w w' : World} {B e size n : Nat} {v : Value} {xs : List Value} {S : Nat → Prop} (h : w.ownsRow B e size v n xs) (k : Keep S w w') (hs : ∀ g, v.ownBlock = some g → ¬ S g) : w'.ownsRow B e size v n xs := by
  have hlt := h.lt
  obtain ⟨h1, h2⟩ := h
  refine ⟨h1, ?_⟩
  rcases h2 with h2 | ⟨g, cap, cur, hv, hb, hg, r⟩
  · exact .inl h2
  · have ho : v.ownBlock = some g := by rw [hv]; rfl
    exact .inr ⟨g, cap, cur, hv, hb, by rw [k.block g (hlt g ho).2 (hs g ho)]; exact hg, r⟩
theorem owns_below {w w' : World} {B e size n : Nat} {v : Value} {xs : List Value} (h : w.ownsRow B e size v n xs) (k : Below w.heap.size w w') : w'.ownsRow B e size v n xs := owns_keep h (keep_of_below k) (fun _ _ h => h)
theorem owns_mono {w : World} {B B' e size n : Nat} {v : Value} {xs : List Value} (h : w.ownsRow B e size v n xs) (hB : B' ≤ B) : w.ownsRow B' e size v n xs := by
  obtain ⟨h1, h2⟩ := h
  refine ⟨h1, ?_⟩
  rcases h2 with h2 | ⟨g, cap, cur, hv, hb, hg, r⟩
  · exact .inl h2
  · exact .inr ⟨g, cap, cur, hv, by omega, hg, r⟩
theorem keep_grown {w w' : World} {row : Option Nat} (h : w.grownBy w' row) : Keep (fun k => row = some k) w w' :=
  ⟨h.os, h.tape, h.output, h.size, fun k hk hs => h.block k hk (fun e => hs e.symm)⟩
/-- two values lie in different blocks, or one of them in none -/
def Apart (u v : Value) : Prop := u.ownBlock = none ∨ u.ownBlock ≠ v.ownBlock
/-- the slice of slices '.slice A n c' is of the call's own, in blocks from B on, each row in a block of its own, and holds M; vs: its rows as values -/
structure OM (w : World) (B : Nat) (A : Option Addr) (n c : Nat) (M : List (List Int)) (vs : List Value) : Prop where
  out : w.ownsRow B 23 1 (.slice A n c) n vs
  len : M.length = n
  row : ∀ (r : Nat) (row : List Int), M[r]? = some row → ∃ (A' : Option Addr) (c' : Nat), vs[r]? = some (Value.slice A' row.length c') ∧ OI w B A' row.length c' row
  apart : ∀ (r s : Nat) (u u' : Value), r < s → vs[r]? = some u → vs[s]? = some u' → Apart u u'
theorem OM.vlen {w : World} {B n c : Nat} {A : Option Addr} {M : List (List Int)} {vs : List Value} (h : OM w B A n c M vs) : vs.length = n := by have := h.out.1; simpa using this
theorem OM.adr {w : World} {B n c : Nat} {A : Option Addr} {M : List (List Int)} {vs : List Value} (h : OM w B A n c M vs) : (A = none ∧ n = 0 ∧ c = 0) ∨ ∃ g, A = some ⟨g, 0, none⟩ ∧ B ≤ g ∧ g < w.heap.size := by
  rcases h.out.2 with ⟨h1, h2⟩ | ⟨g, cap, cur, hv, hb, hg, _⟩
  · simp only [Value.slice.injEq] at h1
    exact .inl ⟨h1.1, h2, h1.2.2⟩
  · simp only [Value.slice.injEq] at hv
    exact .inr ⟨g, hv.1, hb, by rcases Nat.lt_or_ge g w.heap.size with h | h; exact h; rw [Array.getElem?_eq_none h] at hg; simp at hg⟩
theorem OM.big {w : World} {B n c : Nat} {A : Option Addr} {M : List (List Int)} {vs : List Value} (h : OM w B A n c M vs) : n ≤ 9223372036854775807 := by
  rcases h.out.2 with ⟨_, h⟩ | ⟨g, cap, cur, hv, _, _, h1, h2, _⟩
  · omega
  · unfold maxLen at h2; omega
theorem OM.ra {w : World} {B n c : Nat} {A : Option Addr} {M : List (List Int)} {vs : List Value} (h : OM w B A n c M vs) : ∃ b, RA w A n b 0 M := by
  have hl := h.len
  rcases h.adr with ⟨rfl, rfl, rfl⟩ | ⟨g, rfl, hb, hg⟩
  · exact ⟨0, hl, by omega, by omega, by omega⟩
  · refine ⟨g, hl, fun _ => rfl, h.big, fun r hr => ?_⟩
    have hr' : M[r]? = some (M[r]'(by omega)) := List.getElem?_eq_getElem (by omega)
    obtain ⟨A', c', hv, hI⟩ := h.row r _ hr'
    obtain ⟨b', hia⟩ := hI.ia
    refine ⟨_, A', c', b', 0, hr', ?_, hia⟩
    rw [Nat.zero_add, World.ownsRow.cellAt h.out r (by omega), hv]
theorem OM.below {w w' : World} {B n c : Nat} {A : Option Addr} {M : List (List Int)} {vs : List Value} (h : OM w B A n c M vs) (k : Below w.heap.size w w') : OM w' B A n c M vs :=
  ⟨owns_below h.out k, h.len, fun r row hr => let ⟨A', c', h1, h2⟩ := h.row r row hr; ⟨A', c', h1, owns_below h2 k⟩, h.apart⟩
theorem madeCells_one (z : Value) (n : Nat) : (madeCells #[z] n).toList = List.replicate n z := by
  apply List.ext_getElem
  · simp [madeCells]
  · intro i h1 h2
    simp [madeCells, Nat.mod_one]
theorem made_ints (w : World) (n : Nat) (hn : n ≤ 9223372036854775807) : OI (w.alloc (.cells (madeCells #[.int .i64 0] n) 3)) w.heap.size (some ⟨w.heap.size, 0, none⟩) n n (List.replicate n 0) := by
  have h := World.ownsRow_lit (e := 3) (base := w.heap.size) (size := 1) w (madeCells #[.int .i64 0] n) n (Nat.le_refl _) (by unfold maxLen; omega) (by simp [madeCells])
  rw [madeCells_one] at h
  unfold OI ints
  rw [List.map_replicate]
  exact h
end Go.Proofs.Ytegkmolffemkpaa

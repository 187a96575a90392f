/-
  What lies in memory: a slice of numbers, a slice of such slices, the reader of the drawn inputs; and what a call leaves as it was.
-/
import Derived.Test.YtegkmolffemkpaaRows
import Derived.WalkKit
import Derived.ProofKit
import Derived.Lib.Hide
import Derived.Deep.QuietTactic
namespace Go.Proofs.Ytegkmolffemkpaa
open Go.RowKit
/-- Outside the blocks of S, what was there is as it was. -/
structure Keep (S : Nat → Prop) (w w' : World) : Prop where
  os : w'.os = w.os
  tape : w'.tape = w.tape
  output : w'.output = w.output
  size : w.heap.size ≤ w'.heap.size
  block : ∀ k, k < w.heap.size → ¬ S k → w'.heap[k]? = w.heap[k]?
theorem Keep.refl (S : Nat → Prop) (w : World) : Keep S w w := ⟨rfl, rfl, rfl, Nat.le_refl _, fun _ _ _ => rfl⟩
theorem Keep.trans {S : Nat → Prop} {a b c : World} (h : Keep S a b) (k : Keep S b c) : Keep S a c :=
  ⟨k.os.trans h.os, k.tape.trans h.tape, k.output.trans h.output, Nat.le_trans h.size k.size, fun i hi hs => (k.block i (Nat.lt_of_lt_of_le hi h.size) hs).trans (h.block i hi hs)⟩
theorem Keep.mono {S T : Nat → Prop} {a b : World} (h : Keep S a b) (hst : ∀ k, k < a.heap.size → S k → T k) : Keep T a b :=
  ⟨h.os, h.tape, h.output, h.size, fun i hi hs => h.block i hi (fun hx => hs (hst i hi hx))⟩
theorem Keep.drewN {S : Nat → Prop} {a b : World} (h : Keep S a b) (n : Nat) : Keep S a (b.drewN n) := ⟨h.os, h.tape, h.output, h.size, h.block⟩
theorem Keep.drew {S : Nat → Prop} {a b : World} (h : Keep S a b) : Keep S a b.drew := ⟨h.os, h.tape, h.output, h.size, h.block⟩
theorem Keep.alloc {S : Nat → Prop} {a b : World} (h : Keep S a b) (o : Obj) : Keep S a (b.alloc o) :=
  h.trans ⟨rfl, rfl, rfl, by simp, fun k hk _ => Below.heap_alloc _ _ _ (by omega)⟩
theorem Keep.setCell {S : Nat → Prop} {a b : World} (h : Keep S a b) {p : Addr} (hp : p.block < a.heap.size → S p.block) (u : Value) : Keep S a (b.setCell p u) :=
  ⟨h.os, h.tape, h.output, by simp [World.setCell]; exact h.size, fun k hk hs => (Below.heap_setCell _ _ _ _ (by rintro rfl; exact hs (hp hk))).trans (h.block k hk hs)⟩
theorem Keep.cell {S : Nat → Prop} {w w' : World} (h : Keep S w w') {p : Addr} {v : Value} (hc : w.cell? p = some v) (hs : ¬ S p.block) : w'.cell? p = some v := by
  have hb : p.block < w.heap.size := by
    unfold World.cell? at hc
    rcases Nat.lt_or_ge p.block w.heap.size with hlt | hge
    · exact hlt
    · rw [Array.getElem?_eq_none hge] at hc; simp at hc
  exact (World.cell?_of_block (w := w) (h.block p.block hb hs)).trans hc
theorem cell_lt {w : World} {p : Addr} {v : Value} (hc : w.cell? p = some v) : p.block < w.heap.size := by
  unfold World.cell? at hc
  rcases Nat.lt_or_ge p.block w.heap.size with hlt | hge
  · exact hlt
  · rw [Array.getElem?_eq_none hge] at hc; simp at hc
theorem Keep.frozen {S : Nat → Prop} {w w' : World} (h : Keep S w w') {p : Addr} (hb : p.block < w.heap.size) (hs : ¬ S p.block) : w'.frozen? p = w.frozen? p := World.frozen?_of_block (w := w) (h.block p.block hb hs)
theorem Keep.below {S : Nat → Prop} {w w' : World} (h : Keep S w w') {B : Nat} (hB : B ≤ w.heap.size) (hS : ∀ k, S k → B ≤ k) : Below B w w' :=
  ⟨h.os, h.tape, h.output, h.size, fun k hk => h.block k (by omega) (fun hs => by have := hS k hs; omega)⟩
theorem Keep.of_below {B : Nat} {w w' : World} (h : Below B w w') (S : Nat → Prop) (hS : ∀ k, k < w.heap.size → ¬ S k → k < B) : Keep S w w' :=
  ⟨h.os, h.tape, h.output, h.size, fun k hk hs => h.block k (hS k hk hs)⟩
/-- The reader of drawn inputs at block rb: its text (n bytes at block cb from co on) and how many bytes it has read: at most N. -/
structure Rd (w : World) (rb : Nat) (A : Option Addr) (n c cb co N : Nat) : Prop where
  c0 : w.cell? ⟨rb, 0, none⟩ = some (.slice A n c)
  c1 : ∃ k : Nat, k ≤ N ∧ w.cell? ⟨rb, 1, none⟩ = some (.int .i64 k)
  f1 : w.frozen? ⟨rb, 1, none⟩ = false
  adr : 0 < n → A = some ⟨cb, co, none⟩
  cell : ∀ i, i < n → ∃ x : Nat, x < 256 ∧ w.cell? ⟨cb, co + i, none⟩ = some (.int .u8 x)
  ne : 0 < n → cb ≠ rb
  small : n ≤ 2000
theorem Rd.keep {w w' : World} {rb n c cb co N : Nat} {A : Option Addr} {S : Nat → Prop} (h : Rd w rb A n c cb co N) (k : Keep S w w') (h1 : ¬ S rb) (h2 : 0 < n → ¬ S cb) : Rd w' rb A n c cb co N :=
  ⟨k.cell h.c0 h1, let ⟨j, hj, hc⟩ := h.c1; ⟨j, hj, k.cell hc h1⟩, (k.frozen (p := ⟨rb, 1, none⟩) (cell_lt h.c0 : (⟨rb, 0, none⟩ : Addr).block < _) h1).trans h.f1, h.adr, fun i hi => let ⟨x, hx, hc⟩ := h.cell i hi; ⟨x, hx, k.cell hc (h2 (by omega))⟩, h.ne, h.small⟩
theorem Rd.mono {w : World} {rb n c cb co N M : Nat} {A : Option Addr} (h : Rd w rb A n c cb co N) (hM : N ≤ M) : Rd w rb A n c cb co M :=
  ⟨h.c0, let ⟨j, hj, hc⟩ := h.c1; ⟨j, by omega, hc⟩, h.f1, h.adr, h.cell, h.ne, h.small⟩
theorem Rd.step {w : World} {rb n c cb co N : Nat} {A : Option Addr} (h : Rd w rb A n c cb co N) {k : Nat} (hk : k ≤ N) :
    Rd (w.setCell ⟨rb, 1, none⟩ (.int .i64 ((k : Int) + 1))) rb A n c cb co (N + 1) ∧ Keep (· = rb) w (w.setCell ⟨rb, 1, none⟩ (.int .i64 ((k : Int) + 1))) := by
  obtain ⟨j, hj, hc⟩ := h.c1
  refine ⟨⟨?_, ⟨k + 1, by omega, ?_⟩, ?_, h.adr, fun i hi => ?_, h.ne, h.small⟩, Keep.setCell (S := (· = rb)) (Keep.refl _ _) (fun _ => rfl) _⟩
  · rw [World.cell?_setCell_other _ _ _ _ (by simp)]; exact h.c0
  · rw [World.cell?_setCell_same _ _ _ hc]; simp
  · rw [World.frozen?_setCell]; exact h.f1
  · obtain ⟨x, hx, hxc⟩ := h.cell i hi
    have := h.ne (by omega)
    exact ⟨x, hx, by rw [World.cell?_setCell_other _ _ _ _ (fun e => this (congrArg Addr.block e).symm)]; exact hxc⟩
theorem Rd.drewN {w : World} {rb n c cb co N : Nat} {A : Option Addr} (h : Rd w rb A n c cb co N) (m : Nat) : Rd (w.drewN m) rb A n c cb co N := ⟨h.c0, h.c1, h.f1, h.adr, h.cell, h.ne, h.small⟩
/-- What a law is told of a slice of integers that came in: it is nil; or it leads to a row of 'cap' cells, the numbers 'zs' (the first 'len' are its elements). -/
def IsRow (k : IntKind) (w : World) (a : Option Addr) (len cap : Nat) (zs : List Int) : Prop :=
  (a = none ∧ len = 0 ∧ cap = 0 ∧ zs = []) ∨
  ∃ x : Addr, a = some x ∧ len ≤ cap ∧ cap ≤ maxLen ∧ zs.length = cap ∧ (∀ i, i < zs.length → w.cell? (x.add i) = some (.int k (zs.getD i 0))) ∧ ∀ n ∈ zs, (Lit.int k n).wf = true
theorem rowAddr {w : World} {x : Addr} {v : Value} (h : w.cell? (x.add 0) = some v) : x = ⟨x.block, x.off, none⟩ := by
  cases x with
  | mk b o s =>
    cases s with
    | none => rfl
    | some s =>
      unfold World.cell? at h
      simp [Addr.add] at h
      split at h <;> simp_all
/-- the text that came in, as the reader of drawn inputs takes it -/
theorem rowBytes {w : World} {a : Option Addr} {len cap : Nat} {zs : List Int} (h : IsRow .u8 w a len cap zs) :
    len ≤ cap ∧ cap ≤ maxLen ∧ ∃ cb co, (0 < len → a = some ⟨cb, co, none⟩ ∧ cb < w.heap.size) ∧ ∀ i, i < len → ∃ x : Nat, x < 256 ∧ w.cell? ⟨cb, co + i, none⟩ = some (.int .u8 x) := by
  rcases h with ⟨_, rfl, rfl, _⟩ | ⟨x, rfl, hl, hm, hz, hc, hw⟩
  · exact ⟨Nat.le_refl _, Nat.zero_le _, 0, 0, by omega, by omega⟩
  · refine ⟨hl, hm, x.block, x.off, fun h0 => ?_, fun i hi => ?_⟩
    · have := hc 0 (by omega)
      exact ⟨by rw [← rowAddr this], cell_lt (p := x) (by simpa [Addr.add] using this)⟩
    · have e := rowAddr (hc 0 (by omega))
      have h1 := hc i (by omega)
      have hr : 0 ≤ zs.getD i 0 ∧ zs.getD i 0 ≤ 255 := by
        have hmem : zs.getD i 0 ∈ zs := by
          rw [List.getD_eq_getElem?_getD, List.getElem?_eq_getElem (show i < zs.length by omega)]; exact List.getElem_mem _
        have := hw _ hmem
        simpa [Lit.wf, IntKind.min, IntKind.max, IntKind.signed, IntKind.bits] using this
      refine ⟨(zs.getD i 0).toNat, by omega, ?_⟩
      rw [Int.toNat_of_nonneg hr.1, ← h1, e]
      by_cases hz : i = 0 <;> simp [Addr.add, hz]
theorem drewN_keep {S : Nat → Prop} (w : World) (n : Nat) : Keep S w (w.drewN n) := ⟨rfl, rfl, rfl, Nat.le_refl _, fun _ _ _ => rfl⟩
end Go.Proofs.Ytegkmolffemkpaa

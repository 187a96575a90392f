/-
  What lies in memory: a slice of integers, a slice of such slices, read; and the plain words on lists that go with them.
-/
import Derived.Test.YtegkmolffemkpaaBase
namespace Go.Proofs.Ytegkmolffemkpaa
open Go.RowKit
/-- the slice '.slice A n cap' reads as the integers xs -/
structure IA (w : World) (A : Option Addr) (n b o : Nat) (xs : List Int) : Prop where
  len : xs.length = n
  adr : 0 < n → A = some ⟨b, o, none⟩
  big : n ≤ 9223372036854775807
  cell : ∀ i, i < n → ∃ x, xs[i]? = some x ∧ w.cell? ⟨b, o + i, none⟩ = some (.int .i64 x)
/-- the slice '.slice A n cap' reads as the rows M -/
structure RA (w : World) (A : Option Addr) (n b o : Nat) (M : List (List Int)) : Prop where
  len : M.length = n
  adr : 0 < n → A = some ⟨b, o, none⟩
  big : n ≤ 9223372036854775807
  row : ∀ r, r < n → ∃ row A' c' b' o', M[r]? = some row ∧ w.cell? ⟨b, o + r, none⟩ = some (.slice A' row.length c') ∧ IA w A' row.length b' o' row
theorem IA.keep {w w' : World} {A : Option Addr} {n b o : Nat} {xs : List Int} {S : Nat → Prop} (h : IA w A n b o xs) (k : Keep S w w') (hs : ∀ j, j < w.heap.size → ¬ S j) : IA w' A n b o xs :=
  ⟨h.len, h.adr, h.big, fun i hi => let ⟨x, h1, h2⟩ := h.cell i hi; ⟨x, h1, k.cell h2 (hs _ (cell_lt h2))⟩⟩
theorem RA.keep {w w' : World} {A : Option Addr} {n b o : Nat} {M : List (List Int)} {S : Nat → Prop} (h : RA w A n b o M) (k : Keep S w w') (hs : ∀ j, j < w.heap.size → ¬ S j) : RA w' A n b o M :=
  ⟨h.len, h.adr, h.big, fun r hr => let ⟨row, A', c', b', o', h1, h2, h3⟩ := h.row r hr; ⟨row, A', c', b', o', h1, k.cell h2 (hs _ (cell_lt h2)), h3.keep k hs⟩⟩
theorem keep_of_below {w w' : World} (h : Below w.heap.size w w') : Keep (fun _ => False) w w' := Keep.of_below h _ (fun _ hk _ => hk)
theorem IA.below {w w' : World} {A : Option Addr} {n b o : Nat} {xs : List Int} (h : IA w A n b o xs) (k : Below w.heap.size w w') : IA w' A n b o xs := h.keep (keep_of_below k) (fun _ _ h => h)
theorem RA.below {w w' : World} {A : Option Addr} {n b o : Nat} {M : List (List Int)} (h : RA w A n b o M) (k : Below w.heap.size w w') : RA w' A n b o M := h.keep (keep_of_below k) (fun _ _ h => h)
/-- what a law is told of a slice of slices of integers that came in -/
def IsRows (w : World) (a : Option Addr) (len cap : Nat) : Prop :=
  (a = none ∧ len = 0 ∧ cap = 0) ∨
  ∃ x : Addr, a = some x ∧ len ≤ cap ∧ cap ≤ maxLen ∧ ∃ (A : Nat → Option Addr) (L C : Nat → Nat) (Z : Nat → List Int), ∀ r, r < cap → w.cell? (x.add r) = some (.slice (A r) (L r) (C r)) ∧ L r ≤ C r ∧ C r ≤ maxLen ∧ (Z r).length = C r ∧ (∀ n ∈ Z r, (Lit.int .i64 n).wf = true) ∧ (A r = none → C r = 0) ∧
    ∀ a', A r = some a' → ∀ c, c < C r → w.cell? (a'.add c) = some (.int .i64 ((Z r).getD c 0))
theorem addrAdd (x : Addr) (i : Nat) (h : x.spot = none) : x.add i = ⟨x.block, x.off + i, none⟩ := by
  cases x with
  | mk b o s => simp only at h; subst h; by_cases hz : i = 0 <;> simp [Addr.add, hz]
theorem spotNone {w : World} {x : Addr} {v : Value} (h : w.cell? (x.add 0) = some v) : x.spot = none := by rw [rowAddr h]
theorem IsRow.ia {w : World} {a : Option Addr} {len cap : Nat} {zs : List Int} (h : IsRow .i64 w a len cap zs) : ∃ b o, IA w a len b o (zs.take len) := by
  rcases h with ⟨rfl, rfl, rfl, rfl⟩ | ⟨x, rfl, hl, hm, hz, hc, hw⟩
  · exact ⟨0, 0, rfl, by omega, by omega, by omega⟩
  · unfold maxLen at hm
    refine ⟨x.block, x.off, by simp; omega, fun h0 => by rw [← rowAddr (hc 0 (by omega))], by omega, fun i hi => ⟨zs.getD i 0, ?_, ?_⟩⟩
    · rw [List.getElem?_take, if_pos hi, List.getD_eq_getElem?_getD, List.getElem?_eq_getElem (by omega)]; rfl
    · rw [← addrAdd x i (spotNone (hc 0 (by omega)))]; exact hc i (by omega)
theorem IsRows.ra {w : World} {a : Option Addr} {len cap : Nat} (h : IsRows w a len cap) : ∃ b o M, RA w a len b o M := by
  rcases h with ⟨rfl, rfl, rfl⟩ | ⟨x, rfl, hl, hm, A, L, C, Z, hr⟩
  · exact ⟨0, 0, [], rfl, by omega, by omega, by omega⟩
  · unfold maxLen at hm
    refine ⟨x.block, x.off, (List.range len).map fun r => (Z r).take (L r), by simp, fun h0 => by rw [← rowAddr (hr 0 (by omega)).1], by omega, fun r hrl => ?_⟩
    obtain ⟨g1, g2, g3, g4, g5, g6, g7⟩ := hr r (by omega)
    have hlen : ((Z r).take (L r)).length = L r := by simp; omega
    have hI : ∃ b o, IA w (A r) (L r) b o ((Z r).take (L r)) := by
      apply IsRow.ia (cap := C r)
      rcases hA : A r with _ | a'
      · have h0 := g6 hA
        exact .inl ⟨rfl, by omega, h0, List.eq_nil_of_length_eq_zero (by omega)⟩
      · exact .inr ⟨a', rfl, g2, g3, g4, fun i hi => g7 a' hA i (by omega), g5⟩
    obtain ⟨b', o', hI⟩ := hI
    refine ⟨(Z r).take (L r), A r, C r, b', o', ?_, ?_, ?_⟩
    · rw [List.getElem?_map, List.getElem?_range hrl]; rfl
    · rw [← addrAdd x r (spotNone (hr 0 (by omega)).1), hlen]; exact g1
    · rw [hlen]; exact hI
theorem all_take {α : Type} (f : α → Bool) (l : List α) (k : Nat) (x : α) (h : l[k]? = some x) : (l.take (k + 1)).all f = ((l.take k).all f && f x) := by
  rw [List.take_add_one, h]; simp
theorem all_done {α : Type} (f : α → Bool) (l : List α) (k : Nat) (hk : l.length ≤ k) (h : (l.take k).all f = true) : l.all f = true := by rwa [List.take_of_length_le hk] at h
theorem all_fail {α : Type} (f : α → Bool) (l : List α) (k : Nat) (x : α) (h : l[k]? = some x) (hf : f x = false) : l.all f = false := by
  rw [List.all_eq_false]
  exact ⟨x, List.mem_of_getElem? h, by simp [hf]⟩
end Go.Proofs.Ytegkmolffemkpaa

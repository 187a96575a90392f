/-
  append of one element to a slice of the call's own: of integers, and of such slices.
-/
import Derived.Test.YtegkmolffemkpaaMarkM
namespace Go.Proofs.Ytegkmolffemkpaa
open Go.RowKit
theorem owns_shape {w : World} {B e size n : Nat} {v : Value} {xs : List Value} (h : w.ownsRow B e size v n xs) : ∃ A c, v = .slice A n c := by
  rcases h.2 with ⟨rfl, rfl⟩ | ⟨g, cap, cur, rfl, _⟩
  · exact ⟨_, _, rfl⟩
  · exact ⟨_, _, rfl⟩
theorem wpList_app_int {ops : Array Oper} {rest : List Oper} {o : Oper} {a : Act} {Q : Exit → Act → World → Prop} {w : World} (hgd : o.guard = none) (s x : Operand)
    (ho : o.op = .call { callee := .builtin .append, args := #[s, x], argTypes := #[23, 23] })
    (B : Nat) (A : Option Addr) (n c : Nat) (xs : List Int) (hs : a.eval s = .slice A n c) (hown : OI w B A n c xs) (z : Int) (g c1 : Nat) (hx : a.eval x = .slice (some ⟨g, 0, none⟩) 1 c1) (hcell : w.cell? ⟨g, 0, none⟩ = some (.int .i64 z))
    (hn : n ≤ 1000000000) (hB : B ≤ w.heap.size)
    (h : ∀ (A' : Option Addr) (c' : Nat) (w' : World), OI w' B A' (n + 1) c' (xs ++ [z]) → Keep (fun k => (Value.slice A n c).ownBlock = some k) w w' → wpList Try.prog ops Q rest (a.put o.dst (.slice A' (n + 1) c')) w') :
    wpList Try.prog ops Q (o :: rest) a w := by
  obtain ⟨i0, hi, hz0, hz1, hz2⟩ := info_parts infoInt
  refine wpList_append_own w hgd s x 23 ho B 3 i0 (.int .i64 0) 1 8 Try.underlying23 hi hz0 hz1 hz2 rfl (by decide) _ n (ints xs) hs hown ⟨g, 0, none⟩ 1 c1 [.int .i64 z] hx rfl ?_ ?_ ?_ ?_ hB ?_
  · intro j u hj
    match j, hj with
    | 0, hj => simp at hj; subst hj; simpa [Addr.add] using hcell
  · intro u hu; simp at hu; subst hu; rfl
  · unfold maxLen; omega
  · omega
  · intro v' w' h2 h3 _
    obtain ⟨A', c', rfl⟩ := owns_shape h2
    exact h A' c' w' (by unfold OI; simpa [ints] using h2) (keep_grown h3)
theorem wpList_app_row {ops : Array Oper} {rest : List Oper} {o : Oper} {a : Act} {Q : Exit → Act → World → Prop} {w : World} (hgd : o.guard = none) (s x : Operand)
    (ho : o.op = .call { callee := .builtin .append, args := #[s, x], argTypes := #[24, 24] })
    (B : Nat) (A : Option Addr) (n c : Nat) (vs : List Value) (hs : a.eval s = .slice A n c) (hown : w.ownsRow B 23 1 (.slice A n c) n vs) (A1 : Option Addr) (n1 c1 : Nat) (g c2 : Nat) (hx : a.eval x = .slice (some ⟨g, 0, none⟩) 1 c2) (hcell : w.cell? ⟨g, 0, none⟩ = some (.slice A1 n1 c1))
    (hn : n ≤ 1000000000) (hB : B ≤ w.heap.size)
    (h : ∀ (A' : Option Addr) (c' : Nat) (w' : World), w'.ownsRow B 23 1 (.slice A' (n + 1) c') (n + 1) (vs ++ [.slice A1 n1 c1]) → Keep (fun k => (Value.slice A n c).ownBlock = some k) w w' → wpList Try.prog ops Q rest (a.put o.dst (.slice A' (n + 1) c')) w') :
    wpList Try.prog ops Q (o :: rest) a w := by
  obtain ⟨i0, hi, hz0, hz1, hz2⟩ := info_parts infoInts
  refine wpList_append_own w hgd s x 24 ho B 23 i0 (.slice none 0 0) 1 24 Try.underlying24 hi hz0 hz1 hz2 rfl (by decide) _ n vs hs hown ⟨g, 0, none⟩ 1 c2 [.slice A1 n1 c1] hx rfl ?_ ?_ ?_ ?_ hB ?_
  · intro j u hj
    match j, hj with
    | 0, hj => simp at hj; subst hj; simpa [Addr.add] using hcell
  · intro u hu; simp at hu; subst hu; rfl
  · unfold maxLen; omega
  · omega
  · intro v' w' h2 h3 _
    obtain ⟨A', c', rfl⟩ := owns_shape h2
    exact h A' c' w' h2 (keep_grown h3)
/-- one row more: the row was made behind the slice of slices (its block is from the heap's size at that time on) -/
theorem OM.push {w w1 w2 : World} {B n c : Nat} {A : Option Addr} {M : List (List Int)} {vs : List Value} (h : OM w B A n c M vs) (hb : Below w.heap.size w w1) {row : List Int} {A1 : Option Addr} {c1 : Nat}
    (hI : OI w1 w.heap.size A1 row.length c1 row) {A' : Option Addr} {c' : Nat} (ho : w2.ownsRow B 23 1 (.slice A' (n + 1) c') (n + 1) (vs ++ [.slice A1 row.length c1])) (hk : Keep (fun k => (Value.slice A n c).ownBlock = some k) w1 w2) (hB : B ≤ w.heap.size) :
    OM w2 B A' (n + 1) c' (M ++ [row]) (vs ++ [.slice A1 row.length c1]) := by
  have h1 := h.below hb
  have hvl := h.vlen
  have hM := h.len
  have keepI : ∀ (A2 : Option Addr) (m c2 : Nat) (xs : List Int), OI w1 B A2 m c2 xs → OI w2 B A2 m c2 xs := fun A2 m c2 xs hx => owns_keep hx hk (fun g hg hs => block_elem hx h1.out (by decide) g hg hs)
  refine ⟨ho, by simp [hM], fun r row' hr => ?_, fun r s u u' hrs hu hu' => ?_⟩
  · by_cases e : r = n
    · subst e
      rw [List.getElem?_append_right (by omega)] at hr
      simp [hM] at hr
      subst hr
      exact ⟨A1, c1, by rw [List.getElem?_append_right (by omega)]; simp [hvl], keepI _ _ _ _ (owns_mono hI hB)⟩
    · have hlt : r < n := by
        have := (List.getElem?_eq_some_iff.1 hr).1
        simp [hM] at this; omega
      rw [List.getElem?_append_left (by omega)] at hr
      obtain ⟨A2, c2, g1, g2⟩ := h1.row r row' hr
      exact ⟨A2, c2, by rw [List.getElem?_append_left (by omega)]; exact g1, keepI _ _ _ _ g2⟩
  · by_cases e : s = n
    · subst e
      rw [List.getElem?_append_right (by omega)] at hu'
      simp [hvl] at hu'
      subst hu'
      rw [List.getElem?_append_left (by omega)] at hu
      rcases ho' : u.ownBlock with _ | g
      · exact .inl ho'
      · right
        rw [ho']
        intro e2
        have hf := (h.foot r u g hu ho').2
        rcases hI.adr with ⟨rfl, _, _⟩ | ⟨g', rfl, hg', _⟩
        · simp [Value.ownBlock] at e2
        · simp only [Value.ownBlock, Option.some.injEq] at e2
          omega
    · have hs' : s < n := by
        have := (List.getElem?_eq_some_iff.1 hu').1
        simp [hvl] at this; omega
      rw [List.getElem?_append_left (by omega)] at hu hu'
      exact h.apart r s u u' hrs hu hu'
end Go.Proofs.Ytegkmolffemkpaa

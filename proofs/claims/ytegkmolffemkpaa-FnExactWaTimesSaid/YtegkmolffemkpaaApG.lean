/-
  append in a guarded operation ('a || f(append(..))').
-/
import Derived.Test.YtegkmolffemkpaaApA
namespace Go.Proofs.Ytegkmolffemkpaa
open Go.RowKit
theorem IA.src' {w : World} {n b o : Nat} {A : Option Addr} {xs : List Int} (h : IA w A n b o xs) (_ : A = some ⟨b, o, none⟩) : ∀ j v, (ints xs)[j]? = some v → w.cell? ((⟨b, o, none⟩ : Addr).add j) = some v := h.src
theorem wpList_wanted {P : Program} {ops : Array Oper} {rest : List Oper} {o : Oper} {a : Act} {Q : Exit → Act → World → Prop} {w : World} (hw : Region.wanted o (yielded ops a.tmps) = true)
    (h : ∀ K : Act → World → Prop, (∀ a w, wpList P ops Q rest a w → K a w) → o.wp P a w K Q) : wpList P ops Q (o :: rest) a w :=
  wpList_step fun K hK => by simp only [hw, if_true]; exact h K hK
theorem wpList_app_intG {ops : Array Oper} {rest : List Oper} {o : Oper} {a : Act} {Q : Exit → Act → World → Prop} {w : World} (hw : Region.wanted o (yielded ops a.tmps) = true) (s x : Operand)
    (ho : o.op = .call { callee := .builtin .append, args := #[s, x], argTypes := #[23, 23] })
    (B : Nat) (A : Option Addr) (n c : Nat) (xs : List Int) (hs : a.eval s = .slice A n c) (hown : OI w B A n c xs) (z : Int) (g c1 : Nat) (hx : a.eval x = .slice (some ⟨g, 0, none⟩) 1 c1) (hcell : w.cell? ⟨g, 0, none⟩ = some (.int .i64 z))
    (hn : n ≤ 1000000000) (hB : B ≤ w.heap.size)
    (h : ∀ (A' : Option Addr) (c' : Nat) (w' : World), OI w' B A' (n + 1) c' (xs ++ [z]) → Keep (fun k => (Value.slice A n c).ownBlock = some k) w w' → wpList Try.prog ops Q rest (a.put o.dst (.slice A' (n + 1) c')) w') :
    wpList Try.prog ops Q (o :: rest) a w := by
  obtain ⟨i0, hi, hz0, hz1, hz2⟩ := info_parts infoInt
  refine wpList_wanted hw fun K hK => wp_append_own w s x 23 ho B 3 i0 (.int .i64 0) 1 8 Try.underlying23 hi hz0 hz1 hz2 rfl (by decide) _ n (ints xs) hs hown ⟨g, 0, none⟩ 1 c1 [.int .i64 z] hx rfl ?_ ?_ ?_ ?_ hB ?_
  · intro j u hj
    match j, hj with
    | 0, hj => simp at hj; subst hj; simpa [Addr.add] using hcell
  · intro u hu; simp at hu; subst hu; rfl
  · unfold maxLen; omega
  · omega
  · intro v' w' h2 h3 _
    obtain ⟨A', c', rfl⟩ := owns_shape h2
    exact hK _ _ (h A' c' w' (by unfold OI; simpa [ints] using h2) (keep_grown h3))
/-- behind an empty row of the call's own, whatever address the other one has that is not nil, or of some numbers -/
theorem wpList_app_anyG {ops : Array Oper} {rest : List Oper} {o : Oper} {a : Act} {Q : Exit → Act → World → Prop} {w : World} (hw : Region.wanted o (yielded ops a.tmps) = true) (s x : Operand)
    (ho : o.op = .call { callee := .builtin .append, args := #[s, x], argTypes := #[23, 23] })
    (hs : a.eval s = .slice (some ⟨w.heap.size, 0, none⟩) 0 0) (A : Option Addr) (m c1 b1 o1 : Nat) (ys : List Int) (hx : a.eval x = .slice A m c1) (hsrc : IA w A m b1 o1 ys)
    (hn : m ≤ 1000000000)
    (h : ∀ (A' : Option Addr) (c' : Nat) (w' : World), OI w' w.heap.size A' m c' ys → Below w.heap.size w w' → wpList Try.prog ops Q rest (a.put o.dst (.slice A' m c')) w') :
    wpList Try.prog ops Q (o :: rest) a (w.alloc (.cells #[] 3)) := by
  have hys := hsrc.len
  have hB0 : Below w.heap.size w (w.alloc (.cells #[] 3)) := (Below.refl _ _).alloc (Nat.le_refl _) _
  obtain ⟨i0, hi, hz0, hz1, hz2⟩ := info_parts infoInt
  have fin : ∀ ad : Addr, A = some ad → (∀ j v, (ints ys)[j]? = some v → (w.alloc (.cells #[] 3)).cell? (ad.add j) = some v) → wpList Try.prog ops Q (o :: rest) a (w.alloc (.cells #[] 3)) := by
    intro ad hA hc
    subst hA
    refine wpList_wanted hw fun K hK => wp_append_own _ s x 23 ho w.heap.size 3 i0 (.int .i64 0) 1 8 Try.underlying23 hi hz0 hz1 hz2 rfl (by decide) _ 0 [] hs (OI.empty w) ad m c1 (ints ys) hx (by rw [ints_len, hys]; omega) hc (ints_one ys) (by unfold maxLen; omega) (by omega) (by simp) ?_
    intro v' w' h2 h3 _
    obtain ⟨A', c', rfl⟩ := owns_shape h2
    have e : 0 + m = m := by omega
    rw [e, List.nil_append] at h2
    rw [e]
    exact hK _ _ (h A' c' w' h2 (hB0.trans ((keep_grown h3).below (by simp) (fun q hq => by simp [Value.ownBlock] at hq; omega))))
  by_cases h0 : 0 < m
  · exact fin _ (hsrc.adr h0) ((hsrc.below hB0).src' (hsrc.adr h0))
  · obtain rfl : m = 0 := by omega
    have hys0 : ys = [] := List.eq_nil_of_length_eq_zero hys
    subst hys0
    rcases A with _ | ad
    · refine wpList_wanted hw fun K hK => ?_
      have hrun := run_append_none 23 o.type 3 i0 Try.underlying23 hi c1 w.heap.size (w.alloc (.cells #[] 3))
      unfold Oper.wp
      simp [execOp, ho, resolve, invoke, builtin, hs, hx, hrun, Result.andThen]
      exact hK _ _ (h _ _ _ (OI.empty w) hB0)
    · exact fin ad rfl (fun j v hj => by simp [ints] at hj)
end Go.Proofs.Ytegkmolffemkpaa

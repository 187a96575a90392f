/-
  append of a row that is read, whatever address an empty one has, behind an empty row of the call's own.
-/
import Derived.Test.YtegkmolffemkpaaRules
import Derived.Test.YtegkmolffemkpaaApp
import Derived.Test.YtegkmolffemkpaaTurnS
import Derived.Laws.AppendOwnNone
namespace Go.Proofs.Ytegkmolffemkpaa
open Go.RowKit
theorem run_append_none (t ty e : TypeId) (i : TypeInfo) (ht : Try.prog.underlying t = some (.slice e)) (hi : Try.prog.info? e = some i) (c g : Nat) (w : World) :
    (Builtin.append_ #[t, t] ty #[.slice (some ⟨g, 0, none⟩) 0 0, .slice none 0 c]).run Try.prog w = .ok (.slice (some ⟨g, 0, none⟩) 0 0) w := by
  simp [Builtin.append_, run_underlying ht, sizeOf, typeInfo, hi, Builtin.lenOf, Builtin.firstCells, storeCells]
theorem wpList_app_any {ops : Array Oper} {rest : List Oper} {o : Oper} {a : Act} {Q : Exit → Act → World → Prop} {w : World} (hgd : o.guard = none) (s x : Operand)
    (ho : o.op = .call { callee := .builtin .append, args := #[s, x], argTypes := #[23, 23] })
    (hs : a.eval s = .slice (some ⟨w.heap.size, 0, none⟩) 0 0) (A : Option Addr) (m c1 b1 o1 : Nat) (ys : List Int) (hx : a.eval x = .slice A m c1) (hsrc : IA w A m b1 o1 ys)
    (hn : m ≤ 1000000000)
    (h : ∀ (A' : Option Addr) (c' : Nat) (w' : World), OI w' w.heap.size A' m c' ys → Below w.heap.size w w' → wpList Try.prog ops Q rest (a.put o.dst (.slice A' m c')) w') :
    wpList Try.prog ops Q (o :: rest) a (w.alloc (.cells #[] 3)) := by
  have hys := hsrc.len
  have hB0 : Below w.heap.size w (w.alloc (.cells #[] 3)) := (Below.refl _ _).alloc (Nat.le_refl _) _
  obtain ⟨i0, hi, hz0, hz1, hz2⟩ := info_parts infoInt
  by_cases h0 : 0 < m
  · have hA := hsrc.adr h0
    subst hA
    refine wpList_app_ints hgd s x ho w.heap.size _ 0 0 [] hs (OI.empty w) m c1 b1 o1 ys hx (hsrc.below hB0) (by omega) (by simp) ?_
    intro A2 c2 w2 hI2 hK2
    refine ?_
    have e : 0 + m = m := by omega
    rw [e, List.nil_append] at hI2
    rw [e]
    exact h A2 c2 w2 hI2 (hB0.trans (hK2.below (by simp) (fun q hq => by simp [Value.ownBlock] at hq; omega)))
  · obtain rfl : m = 0 := by omega
    have hys0 : ys = [] := List.eq_nil_of_length_eq_zero hys
    subst hys0
    rcases A with _ | ad
    · refine wpList_plain hgd fun K hK => ?_
      have hrun := run_append_none 23 o.type 3 i0 Try.underlying23 hi c1 w.heap.size (w.alloc (.cells #[] 3))
      unfold Oper.wp
      simp [execOp, ho, resolve, invoke, builtin, hs, hx, hrun, Result.andThen]
      exact hK _ _ (h _ _ _ (OI.empty w) hB0)
    · refine wpList_append_own _ hgd s x 23 ho w.heap.size 3 i0 (.int .i64 0) 1 8 Try.underlying23 hi hz0 hz1 hz2 rfl (by decide) _ 0 [] hs (OI.empty w) ad 0 c1 [] hx (by simp) (by intro j u hj; simp at hj) (by intro u hu; simp at hu) (by unfold maxLen; omega) (by omega) (by simp) ?_
      intro v' w' h2 h3 _
      obtain ⟨A', c', rfl⟩ := owns_shape h2
      exact h A' c' w' (by simpa [OI, ints] using h2) (hB0.trans ((keep_grown h3).below (by simp) (fun q hq => by simp [Value.ownBlock] at hq; omega)))
end Go.Proofs.Ytegkmolffemkpaa

/-
  append of a row that is read, of whatever length, to a slice of integers of the call's own, at a step of a region that draws its order.
-/
import Derived.Deep.RegionHeld3
import Derived.Deep.AppendSrc
import Derived.Test.YtjpmncpbghlkaaaRules
import Derived.Test.YtjpmncpbghlkaaaTrim
namespace Go.Proofs.Ytjpmncpbghlkaaa
open Go.RowKit
theorem run_app_any (w : World) (B : Nat) (g n c : Nat) (xs : List Int) (hown : OI w B (some ⟨g, 0, none⟩) n c xs) (A2 : Option Addr) (m c2 b2 o2 : Nat) (ys : List Int) (h2 : IA w A2 m b2 o2 ys) (hA : A2 = none → m = 0) (hn : n + m ≤ 1000000000) (hB : B ≤ w.heap.size) :
    ∃ (A' : Option Addr) (c' : Nat) (w' : World), (Builtin.append_ #[23, 23] 23 #[.slice (some ⟨g, 0, none⟩) n c, .slice A2 m c2]).run Try.prog w = .ok (.slice A' (n + m) c') w' ∧ OI w' B A' (n + m) c' (xs ++ ys) ∧ w.grownBy w' (some g) := by
  obtain ⟨i0, hi, hz0, hz1, hz2⟩ := info_parts infoInt
  by_cases hm : m = 0
  · subst hm
    obtain rfl : ys = [] := List.eq_nil_of_length_eq_zero h2.len
    have hcap : n ≤ c := OI.capLe hown
    have hsrc : Src Try.prog i0.size 23 (.slice A2 0 c2) 0 [] w := by
      cases A2 with
      | none => exact Src.ofNil w Try.underlying23 c2
      | some a => exact Src.ofSlice w Try.underlying23 a 0 c2 [] (by simp) (fun j u h => by simp at h) (fun u h => by cases h)
    have hr := run_append_room_src (P := Try.prog) w 23 23 23 3 i0 Try.underlying23 hi g 0 n c (.slice A2 0 c2) 0 [] hsrc (by omega) (fun j h => by simp at h) (fun j h => by simp at h)
    refine ⟨_, _, _, hr, ?_, World.grownBy.refl _ _⟩
    rw [List.append_nil]; exact hown
  · obtain rfl := h2.adr (by omega)
    obtain ⟨v', w', hr, h3, h4, _⟩ := run_append_own (P := Try.prog) w B 23 23 3 i0 (.int .i64 0) 1 8 Try.underlying23 hi hz0 hz1 hz2 rfl (by decide) _ n (ints xs) hown ⟨b2, o2, none⟩ m c2 (ints ys) (by rw [ints_len, h2.len]; omega) h2.src (ints_one ys) (by unfold maxLen; omega) (by omega) hB
    obtain ⟨A', c', rfl⟩ := owns_shape h3
    refine ⟨A', c', w', hr, ?_, h4⟩
    unfold OI
    simpa [ints] using h3
theorem step_app_any {ops : Array Oper} {o : Oper} {a : Act} {w : World} {K : Act → World → Prop} {Q : Exit → Act → World → Prop} {E : Prop} (hg : o.guard = none) (s x : Operand)
    (ho : o.op = .call { callee := .builtin .append, args := #[s, x], argTypes := #[23, 23] }) (hty : o.type = 23)
    (B g n c : Nat) (xs : List Int) (hs : a.eval s = .slice (some ⟨g, 0, none⟩) n c) (hown : OI w B (some ⟨g, 0, none⟩) n c xs) (A2 : Option Addr) (m c2 b2 o2 : Nat) (ys : List Int) (hx : a.eval x = .slice A2 m c2) (h2 : IA w A2 m b2 o2 ys) (hA : A2 = none → m = 0)
    (hn : n + m ≤ 1000000000) (hB : B ≤ w.heap.size)
    (h : ∀ (A' : Option Addr) (c' : Nat) (w' : World), OI w' B A' (n + m) c' (xs ++ ys) → w.grownBy w' (some g) → K (a.put o.dst (.slice A' (n + m) c')) w') :
    if Region.wanted o (yielded ops a.tmps) = true then Oper.wp Try.prog o a w K Q else E := by
  have hw : Region.wanted o (yielded ops a.tmps) = true := by simp [Region.wanted, hg]
  rw [if_pos hw]
  obtain ⟨A', c', w', hr, h3, h4⟩ := run_app_any w B g n c xs hown A2 m c2 b2 o2 ys h2 hA hn hB
  unfold Oper.wp execOp
  simp only [ho, hty, resolve, invoke, builtin, Sem.run_bind, Sem.run_pure, Result.andThen_ok, List.map_toArray, List.map_cons, List.map_nil, hs, hx, hr]
  exact h A' c' w' h3 h4
theorem wpList_app_any {ops : Array Oper} {rest : List Oper} {o : Oper} {a : Act} {Q : Exit → Act → World → Prop} {w : World} (hgd : o.guard = none) (s x : Operand)
    (ho : o.op = .call { callee := .builtin .append, args := #[s, x], argTypes := #[23, 23] }) (hty : o.type = 23)
    (B g n c : Nat) (xs : List Int) (hs : a.eval s = .slice (some ⟨g, 0, none⟩) n c) (hown : OI w B (some ⟨g, 0, none⟩) n c xs) (A2 : Option Addr) (m c2 b2 o2 : Nat) (ys : List Int) (hx : a.eval x = .slice A2 m c2) (h2 : IA w A2 m b2 o2 ys) (hA : A2 = none → m = 0)
    (hn : n + m ≤ 1000000000) (hB : B ≤ w.heap.size)
    (h : ∀ (A' : Option Addr) (c' : Nat) (w' : World), OI w' B A' (n + m) c' (xs ++ ys) → w.grownBy w' (some g) → wpList Try.prog ops Q rest (a.put o.dst (.slice A' (n + m) c')) w') :
    wpList Try.prog ops Q (o :: rest) a w := by
  refine wpList_plain hgd fun K hK => ?_
  obtain ⟨A', c', w', hr, h3, h4⟩ := run_app_any w B g n c xs hown A2 m c2 b2 o2 ys h2 hA hn hB
  unfold Oper.wp execOp
  simp only [ho, hty, resolve, invoke, builtin, Sem.run_bind, Sem.run_pure, Result.andThen_ok, List.map_toArray, List.map_cons, List.map_nil, hs, hx, hr]
  exact hK _ _ (h A' c' w' h3 h4)
end Go.Proofs.Ytjpmncpbghlkaaa

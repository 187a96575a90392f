/-
  For every automaton the program's WaBack answers as its model does, writes into no argument, and its answer owns its memory.
-/
import Derived.Test.YtegkmolffemkpaaRows
import Derived.WalkKit
import Derived.ProofKit
import Derived.OpenShut
import Derived.ShutString
import Derived.ChangeOld
import Derived.Below
import Derived.Deep.Matrix
import Derived.Test.YtegkmolffemkpaaAg5
import Derived.Test.YtegkmolffemkpaaWExactWaBack
namespace Go.Proofs.Ytegkmolffemkpaa.fnExactWaBack
open Go.ChangeShapes Go.WideShapes Go.ChangeAt Go.RowKit
open Go.ChangeMaps (open_string shut_string)
open Go.Joins Go.Deep
set_option linter.unusedVariables false

theorem own : ownKnob Try.prog.godebug = none := by kernel_rfl
theorem laidOut : laidOutB Try.prog = true := by kernel_rfl

set_option maxRecDepth 100000 in
theorem lifted (os : Os) (started : os.Started) (H : Type) (enc : TypeId × Value → H) :
    ReturnsInHanded {} Try.checked os 10 .any (Rows.fnExactWaBackSpec.pre6 enc Try.prog Try.f10 Rows.fnExactWaBackRow.domain false) (Rows.fnExactWaBackSpec.post enc Try.prog Try.f10 false true false false) := by
  refine returnsInHanded_of_change (C := Try.checked) own started (by kernel_rfl) Try.func10
    (ChangeSpec.witness6 (enc := enc) (C := Try.checked) false ⟨#[], #[.agg #[.int .i64 0, .slice none 0 0, .slice none 0 0, .slice none 0 0, .slice none 0 0]], []⟩ 8 (by kernel_rfl) (by kernel_rfl) (by kernel_rfl) (by kernel_rfl)) ?_
  intro W base args ds gs before hval0 hW hcnd _
  have hval : ∀ (j : Nat) t v, Try.f10.params[j]? = some t → args[j]? = some v → Value.okWide Try.prog W .any base t v := hval0
  have hW' := hW
  obtain ⟨p, q, hA0, hV, rfl, hfz, hnd⟩ := hW
  have hA : DataW.TrodAll enc Try.prog W 0 (fun _ => true) true Try.f10.params.toList args.toList ds p := hA0
  rw [Try.params10] at hA hval
  obtain ⟨v0, vs0, d0, ds0, p0, q0, hargs, rfl, rfl, h0, r0⟩ := trodAll_cons hA
  obtain ⟨rfl, rfl, rfl⟩ := trodAll_nil r0
  obtain rfl : args = #[v0] := by cases args; simp_all
  obtain ⟨rfl, rfl⟩ := trodVars_none hV
  have k0 := h0
  have lt0 : ∀ x ∈ p0, x.block < W.heap.size := by obtain ⟨m, hm⟩ := k0; exact DataW.trod_lt m _ _ _ hm
  obtain ⟨e0_0, e0_1, e0_2, e0_3, e0_4, y0_0, y0_1, y0_2, y0_3, y0_4, m0, rfl, t0_0, t0_1, t0_2, t0_3, t0_4⟩ := open_five Try.underlying32 (by kernel_rfl) (by kernel_rfl) (hval 0 32 v0 rfl rfl) h0
  obtain ⟨pr0, hpr0, _, _⟩ := DataW.trod_int Try.underlying3 t0_0
  simp only [List.cons.injEq, and_true] at hpr0
  subst hpr0
  obtain ⟨a0_1, len0_1, cap0_1, z0_1, hcs0_1, w0_1⟩ : ∃ a len cap zs, e0_1 = .slice a len cap ∧ IsRow .i64 W a len cap zs := by
    rcases open_ints Try.underlying23 Try.underlying3 (by kernel_rfl) t0_1 with ⟨hcs, _⟩ | ⟨x, l, c, zs, hcs, _, hl, hm, hz, _, hcell, hwz⟩
    · simp only [List.cons.injEq, and_true] at hcs
      exact ⟨none, 0, 0, [], hcs, .inl ⟨rfl, rfl, rfl, rfl⟩⟩
    · simp only [List.cons.injEq, and_true] at hcs
      exact ⟨some x, l, c, zs, hcs, .inr ⟨_, rfl, hl, hm, by simpa using hz, hcell, hwz⟩⟩
  subst hcs0_1
  obtain ⟨b0_1, o0_1, i0_1⟩ := w0_1.ia
  obtain ⟨a0_4, len0_4, cap0_4, z0_4, hcs0_4, w0_4⟩ : ∃ a len cap zs, e0_4 = .slice a len cap ∧ IsRow .i64 W a len cap zs := by
    rcases open_ints Try.underlying23 Try.underlying3 (by kernel_rfl) t0_4 with ⟨hcs, _⟩ | ⟨x, l, c, zs, hcs, _, hl, hm, hz, _, hcell, hwz⟩
    · simp only [List.cons.injEq, and_true] at hcs
      exact ⟨none, 0, 0, [], hcs, .inl ⟨rfl, rfl, rfl, rfl⟩⟩
    · simp only [List.cons.injEq, and_true] at hcs
      exact ⟨some x, l, c, zs, hcs, .inr ⟨_, rfl, hl, hm, by simpa using hz, hcell, hwz⟩⟩
  subst hcs0_4
  obtain ⟨b0_4, o0_4, i0_4⟩ := w0_4.ia
  obtain ⟨a0_2, len0_2, cap0_2, hcs0_2, w0_2⟩ : ∃ a len cap, e0_2 = .slice a len cap ∧ IsRows W a len cap := by
    rcases open_int_rows Try.underlying24 Try.underlying23 Try.underlying3 (by kernel_rfl) (by kernel_rfl) t0_2 with ⟨hcs, _⟩ | ⟨x, l, c, A, L, C, Z, hcs, _, hl, hm, _, hr⟩
    · simp only [List.cons.injEq, and_true] at hcs
      exact ⟨none, 0, 0, hcs, .inl ⟨rfl, rfl, rfl⟩⟩
    · simp only [List.cons.injEq, and_true] at hcs
      exact ⟨some x, l, c, hcs, .inr ⟨x, rfl, hl, hm, A, L, C, Z, fun r hrl => by obtain ⟨g1, g2, g3, g4, g5, g6, g7⟩ := hr r hrl; exact ⟨g1, g2, g3, g4, g5, g6, fun a' ha => (g7 a' ha).2⟩⟩⟩
  subst hcs0_2
  obtain ⟨b0_2, o0_2, M0_2, i0_2⟩ := w0_2.ra
  obtain ⟨a0_3, len0_3, cap0_3, hcs0_3, w0_3⟩ : ∃ a len cap, e0_3 = .slice a len cap ∧ IsRows W a len cap := by
    rcases open_int_rows Try.underlying24 Try.underlying23 Try.underlying3 (by kernel_rfl) (by kernel_rfl) t0_3 with ⟨hcs, _⟩ | ⟨x, l, c, A, L, C, Z, hcs, _, hl, hm, _, hr⟩
    · simp only [List.cons.injEq, and_true] at hcs
      exact ⟨none, 0, 0, hcs, .inl ⟨rfl, rfl, rfl⟩⟩
    · simp only [List.cons.injEq, and_true] at hcs
      exact ⟨some x, l, c, hcs, .inr ⟨x, rfl, hl, hm, A, L, C, Z, fun r hrl => by obtain ⟨g1, g2, g3, g4, g5, g6, g7⟩ := hr r hrl; exact ⟨g1, g2, g3, g4, g5, g6, fun a' ha => (g7 a' ha).2⟩⟩⟩
  subst hcs0_3
  obtain ⟨b0_3, o0_3, M0_3, i0_3⟩ := w0_3.ra
  have w0 : WV W (.agg #[.int .i64 pr0, .slice a0_1 len0_1 cap0_1, .slice a0_2 len0_2 cap0_2, .slice a0_3 len0_3 cap0_3, .slice a0_4 len0_4 cap0_4]) pr0 (z0_1.take len0_1) M0_2 M0_3 (z0_4.take len0_4) := ⟨_, _, _, _, _, _, _, _, _, _, _, _, _, _, _, _, _, _, _, _, rfl, i0_1, i0_2, i0_3, i0_4⟩
  clear hA0 hval0
  simp only [List.append_nil] at hW'
  refine (walkFnExactWaBack pr0 a0_1 len0_1 cap0_1 a0_2 len0_2 cap0_2 a0_3 len0_3 cap0_3 a0_4 len0_4 cap0_4 _ _ _ _ W w0).mono fun e W' ⟨he, bel⟩ => ?_
  subst he
  exact ⟨_, rfl, _, _, _, [], _, [], hW', trodAll_mk1 (shut_bool Try.underlying4 _), (trodAll_cons_mk (Below.trod laidOut (by kernel_rfl) (of_decide_eq_true (by kernel_rfl)) k0 bel lt0) trodAll_mk0), rfl, bel.frame _, fun h => by cases h⟩

theorem over : Rows.fnExactWaBackRow.holds Try.pinned (OpenSpec.ofChange Rows.fnExactWaBackSpec) :=
  OpenClaim.holds_of_wide 10 Try.f10 rfl rfl rfl rfl rfl rfl rfl ⟨rfl, rfl, rfl, rfl, rfl⟩ rfl rfl rfl rfl rfl (by kernel_rfl) Try.func10 (by kernel_rfl)
    (of_decide_eq_true (by kernel_rfl)) (by unfold Func.isWrapper; first | (rw [if_pos (by decide +kernel)]; kernel_rfl) | (rw [if_neg (by decide +kernel)]; exact ⟨rfl, rfl⟩))
    (fun os started H enc _ => lifted os started H enc)

theorem proved : Rows.FnExactWaBackSaid := over
end Go.Proofs.Ytegkmolffemkpaa.fnExactWaBack

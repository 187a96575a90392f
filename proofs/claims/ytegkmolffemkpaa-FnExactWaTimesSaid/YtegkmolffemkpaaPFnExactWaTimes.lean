/-
  For every two automata the program's WaTimes answers as its model does, writes into no argument, and its answer owns its memory.
-/
import Derived.Test.YtegkmolffemkpaaRows
import Derived.WalkKit
import Derived.ProofKit
import Derived.OpenShut
import Derived.ShutString
import Derived.ChangeOld
import Derived.Below
import Derived.Deep.Matrix
import Derived.Test.YtegkmolffemkpaaAg5
import Derived.Test.YtegkmolffemkpaaWExactWaTimes
namespace Go.Proofs.Ytegkmolffemkpaa.fnExactWaTimes
open Go.ChangeShapes Go.WideShapes Go.ChangeAt Go.RowKit
open Go.ChangeMaps (open_string shut_string)
open Go.Joins Go.Deep
set_option linter.unusedVariables false

theorem own : ownKnob Try.prog.godebug = none := by kernel_rfl
theorem laidOut : laidOutB Try.prog = true := by kernel_rfl

set_option maxRecDepth 100000 in
theorem lifted (os : Os) (started : os.Started) (H : Type) (enc : TypeId × Value → H) :
    ReturnsInHanded {} Try.checked os 14 .any (Rows.fnExactWaTimesSpec.pre6 enc Try.prog Try.f14 Rows.fnExactWaTimesRow.domain false) (Rows.fnExactWaTimesSpec.post enc Try.prog Try.f14 false true false false) := by
  refine returnsInHanded_of_change (C := Try.checked) own started (by kernel_rfl) Try.func14
    (ChangeSpec.witness6 (enc := enc) (C := Try.checked) false ⟨#[], #[.agg #[.int .i64 0, .slice none 0 0, .slice none 0 0, .slice none 0 0, .slice none 0 0], .agg #[.int .i64 0, .slice none 0 0, .slice none 0 0, .slice none 0 0, .slice none 0 0]], []⟩ 8 (by kernel_rfl) (by kernel_rfl) (by kernel_rfl) (by kernel_rfl)) ?_
  intro W base args ds gs before hval0 hW hcnd _
  have hval : ∀ (j : Nat) t v, Try.f14.params[j]? = some t → args[j]? = some v → Value.okWide Try.prog W .any base t v := hval0
  have hW' := hW
  obtain ⟨p, q, hA0, hV, rfl, hfz, hnd⟩ := hW
  have hA : DataW.TrodAll enc Try.prog W 0 (fun _ => true) true Try.f14.params.toList args.toList ds p := hA0
  rw [Try.params14] at hA hval
  obtain ⟨v0, vs0, d0, ds0, p0, q0, hargs, rfl, rfl, h0, r0⟩ := trodAll_cons hA
  obtain ⟨v1, vs1, d1, ds1, p1, q1, rfl, rfl, rfl, h1, r1⟩ := trodAll_cons r0
  obtain ⟨rfl, rfl, rfl⟩ := trodAll_nil r1
  obtain rfl : args = #[v0, v1] := by cases args; simp_all
  obtain ⟨rfl, rfl⟩ := trodVars_none hV
  have k0 := h0
  have lt0 : ∀ x ∈ p0, x.block < W.heap.size := by obtain ⟨m, hm⟩ := k0; exact DataW.trod_lt m _ _ _ hm
  obtain ⟨e0_0, e0_1, e0_2, e0_3, e0_4, y0_0, y0_1, y0_2, y0_3, y0_4, m0, rfl, t0_0, t0_1, t0_2, t0_3, t0_4⟩ := open_five Try.underlying32 (by kernel_rfl) (by kernel_rfl) (hval 0 32 v0 rfl rfl) h0
  obtain ⟨pr0, hpr0, _, _⟩ := DataW.trod_int Try.underlying3 t0_0
  simp only [List.cons.injEq, and_true] at hpr0
  subst hpr0
  obtain ⟨a0_1, len0_1, cap0_1, z0_1, hcs0_1, w0_1⟩ : ∃ a len cap zs, e0_1 = .slice a len cap ∧ IsRow .i64 W a len cap zs := by
    rcases open_ints Try.underlying23 Try.underlying3 (by kernel_rfl) t0_1 with ⟨hcs, _⟩ | ⟨x, l, c, zs, hcs, _, hl, hm, hz, _, hcell, hwz⟩
    · simp only [List.cons.injEq, and_true] at hcs
      exact ⟨none, 0, 0, [], hcs, .inl ⟨rfl, rfl, rfl, rfl⟩⟩
    · simp only [List.cons.injEq, and_true] at hcs
      exact ⟨some x, l, c, zs, hcs, .inr ⟨_, rfl, hl, hm, by simpa using hz, hcell, hwz⟩⟩
  subst hcs0_1
  obtain ⟨b0_1, o0_1, i0_1⟩ := w0_1.ia
  obtain ⟨a0_4, len0_4, cap0_4, z0_4, hcs0_4, w0_4⟩ : ∃ a len cap zs, e0_4 = .slice a len cap ∧ IsRow .i64 W a len cap zs := by
    rcases open_ints Try.underlying23 Try.underlying3 (by kernel_rfl) t0_4 with ⟨hcs, _⟩ | ⟨x, l, c, zs, hcs, _, hl, hm, hz, _, hcell, hwz⟩
    · simp only [List.cons.injEq, and_true] at hcs
      exact ⟨none, 0, 0, [], hcs, .inl ⟨rfl, rfl, rfl, rfl⟩⟩
    · simp only [List.cons.injEq, and_true] at hcs
      exact ⟨some x, l, c, zs, hcs, .inr ⟨_, rfl, hl, hm, by simpa using hz, hcell, hwz⟩⟩
  subst hcs0_4
  obtain ⟨b0_4, o0_4, i0_4⟩ := w0_4.ia
  obtain ⟨a0_2, len0_2, cap0_2, hcs0_2, w0_2⟩ : ∃ a len cap, e0_2 = .slice a len cap ∧ IsRows W a len cap := by
    rcases open_int_rows Try.underlying24 Try.underlying23 Try.underlying3 (by kernel_rfl) (by kernel_rfl) t0_2 with ⟨hcs, _⟩ | ⟨x, l, c, A, L, C, Z, hcs, _, hl, hm, _, hr⟩
    · simp only [List.cons.injEq, and_true] at hcs
      exact ⟨none, 0, 0, hcs, .inl ⟨rfl, rfl, rfl⟩⟩
    · simp only [List.cons.injEq, and_true] at hcs
      exact ⟨some x, l, c, hcs, .inr ⟨x, rfl, hl, hm, A, L, C, Z, fun r hrl => by obtain ⟨g1, g2, g3, g4, g5, g6, g7⟩ := hr r hrl; exact ⟨g1, g2, g3, g4, g5, g6, fun a' ha => (g7 a' ha).2⟩⟩⟩
  subst hcs0_2
  obtain ⟨b0_2, o0_2, M0_2, i0_2⟩ := w0_2.ra
  obtain ⟨a0_3, len0_3, cap0_3, hcs0_3, w0_3⟩ : ∃ a len cap, e0_3 = .slice a len cap ∧ IsRows W a len cap := by
    rcases open_int_rows Try.underlying24 Try.underlying23 Try.underlying3 (by kernel_rfl) (by kernel_rfl) t0_3 with ⟨hcs, _⟩ | ⟨x, l, c, A, L, C, Z, hcs, _, hl, hm, _, hr⟩
    · simp only [List.cons.injEq, and_true] at hcs
      exact ⟨none, 0, 0, hcs, .inl ⟨rfl, rfl, rfl⟩⟩
    · simp only [List.cons.injEq, and_true] at hcs
      exact ⟨some x, l, c, hcs, .inr ⟨x, rfl, hl, hm, A, L, C, Z, fun r hrl => by obtain ⟨g1, g2, g3, g4, g5, g6, g7⟩ := hr r hrl; exact ⟨g1, g2, g3, g4, g5, g6, fun a' ha => (g7 a' ha).2⟩⟩⟩
  subst hcs0_3
  obtain ⟨b0_3, o0_3, M0_3, i0_3⟩ := w0_3.ra
  have w0 : WV W (.agg #[.int .i64 pr0, .slice a0_1 len0_1 cap0_1, .slice a0_2 len0_2 cap0_2, .slice a0_3 len0_3 cap0_3, .slice a0_4 len0_4 cap0_4]) pr0 (z0_1.take len0_1) M0_2 M0_3 (z0_4.take len0_4) := ⟨_, _, _, _, _, _, _, _, _, _, _, _, _, _, _, _, _, _, _, _, rfl, i0_1, i0_2, i0_3, i0_4⟩
  have k1 := h1
  have lt1 : ∀ x ∈ p1, x.block < W.heap.size := by obtain ⟨m, hm⟩ := k1; exact DataW.trod_lt m _ _ _ hm
  obtain ⟨e1_0, e1_1, e1_2, e1_3, e1_4, y1_0, y1_1, y1_2, y1_3, y1_4, m1, rfl, t1_0, t1_1, t1_2, t1_3, t1_4⟩ := open_five Try.underlying32 (by kernel_rfl) (by kernel_rfl) (hval 1 32 v1 rfl rfl) h1
  obtain ⟨pr1, hpr1, _, _⟩ := DataW.trod_int Try.underlying3 t1_0
  simp only [List.cons.injEq, and_true] at hpr1
  subst hpr1
  obtain ⟨a1_1, len1_1, cap1_1, z1_1, hcs1_1, w1_1⟩ : ∃ a len cap zs, e1_1 = .slice a len cap ∧ IsRow .i64 W a len cap zs := by
    rcases open_ints Try.underlying23 Try.underlying3 (by kernel_rfl) t1_1 with ⟨hcs, _⟩ | ⟨x, l, c, zs, hcs, _, hl, hm, hz, _, hcell, hwz⟩
    · simp only [List.cons.injEq, and_true] at hcs
      exact ⟨none, 0, 0, [], hcs, .inl ⟨rfl, rfl, rfl, rfl⟩⟩
    · simp only [List.cons.injEq, and_true] at hcs
      exact ⟨some x, l, c, zs, hcs, .inr ⟨_, rfl, hl, hm, by simpa using hz, hcell, hwz⟩⟩
  subst hcs1_1
  obtain ⟨b1_1, o1_1, i1_1⟩ := w1_1.ia
  obtain ⟨a1_4, len1_4, cap1_4, z1_4, hcs1_4, w1_4⟩ : ∃ a len cap zs, e1_4 = .slice a len cap ∧ IsRow .i64 W a len cap zs := by
    rcases open_ints Try.underlying23 Try.underlying3 (by kernel_rfl) t1_4 with ⟨hcs, _⟩ | ⟨x, l, c, zs, hcs, _, hl, hm, hz, _, hcell, hwz⟩
    · simp only [List.cons.injEq, and_true] at hcs
      exact ⟨none, 0, 0, [], hcs, .inl ⟨rfl, rfl, rfl, rfl⟩⟩
    · simp only [List.cons.injEq, and_true] at hcs
      exact ⟨some x, l, c, zs, hcs, .inr ⟨_, rfl, hl, hm, by simpa using hz, hcell, hwz⟩⟩
  subst hcs1_4
  obtain ⟨b1_4, o1_4, i1_4⟩ := w1_4.ia
  obtain ⟨a1_2, len1_2, cap1_2, hcs1_2, w1_2⟩ : ∃ a len cap, e1_2 = .slice a len cap ∧ IsRows W a len cap := by
    rcases open_int_rows Try.underlying24 Try.underlying23 Try.underlying3 (by kernel_rfl) (by kernel_rfl) t1_2 with ⟨hcs, _⟩ | ⟨x, l, c, A, L, C, Z, hcs, _, hl, hm, _, hr⟩
    · simp only [List.cons.injEq, and_true] at hcs
      exact ⟨none, 0, 0, hcs, .inl ⟨rfl, rfl, rfl⟩⟩
    · simp only [List.cons.injEq, and_true] at hcs
      exact ⟨some x, l, c, hcs, .inr ⟨x, rfl, hl, hm, A, L, C, Z, fun r hrl => by obtain ⟨g1, g2, g3, g4, g5, g6, g7⟩ := hr r hrl; exact ⟨g1, g2, g3, g4, g5, g6, fun a' ha => (g7 a' ha).2⟩⟩⟩
  subst hcs1_2
  obtain ⟨b1_2, o1_2, M1_2, i1_2⟩ := w1_2.ra
  obtain ⟨a1_3, len1_3, cap1_3, hcs1_3, w1_3⟩ : ∃ a len cap, e1_3 = .slice a len cap ∧ IsRows W a len cap := by
    rcases open_int_rows Try.underlying24 Try.underlying23 Try.underlying3 (by kernel_rfl) (by kernel_rfl) t1_3 with ⟨hcs, _⟩ | ⟨x, l, c, A, L, C, Z, hcs, _, hl, hm, _, hr⟩
    · simp only [List.cons.injEq, and_true] at hcs
      exact ⟨none, 0, 0, hcs, .inl ⟨rfl, rfl, rfl⟩⟩
    · simp only [List.cons.injEq, and_true] at hcs
      exact ⟨some x, l, c, hcs, .inr ⟨x, rfl, hl, hm, A, L, C, Z, fun r hrl => by obtain ⟨g1, g2, g3, g4, g5, g6, g7⟩ := hr r hrl; exact ⟨g1, g2, g3, g4, g5, g6, fun a' ha => (g7 a' ha).2⟩⟩⟩
  subst hcs1_3
  obtain ⟨b1_3, o1_3, M1_3, i1_3⟩ := w1_3.ra
  have w1 : WV W (.agg #[.int .i64 pr1, .slice a1_1 len1_1 cap1_1, .slice a1_2 len1_2 cap1_2, .slice a1_3 len1_3 cap1_3, .slice a1_4 len1_4 cap1_4]) pr1 (z1_1.take len1_1) M1_2 M1_3 (z1_4.take len1_4) := ⟨_, _, _, _, _, _, _, _, _, _, _, _, _, _, _, _, _, _, _, _, rfl, i1_1, i1_2, i1_3, i1_4⟩
  clear hA0 hval0
  simp only [List.append_nil] at hW'
  refine (walkFnExactWaTimes pr0 a0_1 len0_1 cap0_1 a0_2 len0_2 cap0_2 a0_3 len0_3 cap0_3 a0_4 len0_4 cap0_4 _ _ _ _ pr1 a1_1 len1_1 cap1_1 a1_2 len1_2 cap1_2 a1_3 len1_3 cap1_3 a1_4 len1_4 cap1_4 _ _ _ _ W w0 w1).mono fun e W' ⟨he, bel⟩ => ?_
  subst he
  exact ⟨_, rfl, _, _, _, [], _, [], hW', trodAll_mk1 (shut_bool Try.underlying4 _), (trodAll_cons_mk (Below.trod laidOut (by kernel_rfl) (of_decide_eq_true (by kernel_rfl)) k0 bel lt0) (trodAll_cons_mk (Below.trod laidOut (by kernel_rfl) (of_decide_eq_true (by kernel_rfl)) k1 bel lt1) trodAll_mk0)), rfl, bel.frame _, fun h => by cases h⟩

theorem over : Rows.fnExactWaTimesRow.holds Try.pinned (OpenSpec.ofChange Rows.fnExactWaTimesSpec) :=
  OpenClaim.holds_of_wide 14 Try.f14 rfl rfl rfl rfl rfl rfl rfl ⟨rfl, rfl, rfl, rfl, rfl⟩ rfl rfl rfl rfl rfl (by kernel_rfl) Try.func14 (by kernel_rfl)
    (of_decide_eq_true (by kernel_rfl)) (by unfold Func.isWrapper; first | (rw [if_pos (by decide +kernel)]; kernel_rfl) | (rw [if_neg (by decide +kernel)]; exact ⟨rfl, rfl⟩))
    (fun os started H enc _ => lifted os started H enc)

theorem proved : Rows.FnExactWaTimesSaid := over
end Go.Proofs.Ytegkmolffemkpaa.fnExactWaTimes

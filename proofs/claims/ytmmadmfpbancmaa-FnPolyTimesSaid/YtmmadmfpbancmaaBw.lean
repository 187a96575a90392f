/-
  slices.Backward over a row of numbers: its iterator's contract.
-/
import Derived.RangeFuncNested
import Derived.RangeFuncBound
import Derived.RangeFuncCalls
import Derived.RangeFuncLeaves
import Derived.Shelf.Abstract
import Derived.Shelf.RegionOpen
import Derived.WalkKit
import Derived.OwnWalkIn
import Derived.TacticsInMore
import Derived.LoopNIn
import Derived.LoopIn
import Derived.Test.YtmmadmfpbancmaaVal
namespace Go.Proofs.Ytmmadmfpbancmaa
open Go.RowKit Go.Shelf
attribute [local go_sem] Oper.semAt_some
/-- what a round keeps: what lies below n₀, and the box of the row -/
def KpB (n₀ Bs : Nat) (W W' : World) : Prop := Below n₀ W W' ∧ W'.heap[Bs]? = W.heap[Bs]?
theorem kpB_t {n₀ Bs : Nat} {A B C : World} (h : KpB n₀ Bs A B) (k : KpB n₀ Bs B C) : KpB n₀ Bs A C := ⟨h.1.trans k.1, k.2.trans h.2⟩
theorem kpB_b {n₀ Bs : Nat} {w : World} (hn : n₀ ≤ w.heap.size) (hBs : Bs < w.heap.size) (W : World) (l : Nat) (o o' : Obj) (hl : w.heap.size ≤ l) (h : W.heap[l]? = some o) (h1 : o.isCells = false) (h2 : o.isWalk = false) : KpB n₀ Bs W (W.putObj l o') :=
  ⟨belowK_b hn W l o o' hl h h1 h2, by unfold World.putObj; exact Array.getElem?_setIfInBounds_ne (by omega)⟩
theorem kpB_cell {n₀ Bs : Nat} {W W' : World} (h : KpB n₀ Bs W W') {v : Value} (hc : W.cell? ⟨Bs, 0, none⟩ = some v) : W'.cell? ⟨Bs, 0, none⟩ = some v := (World.cell?_of_block (a := ⟨Bs, 0, none⟩) h.2).trans hc
theorem rev_take {α : Type} (ys : List α) {k m : Nat} {y : α} (hy : ys[m]? = some y) (hk : k + (m + 1) = ys.length) : ys.reverse.take (k + 1) = ys.reverse.take k ++ [y] := by
  have h : ys.reverse[k]? = some y := by
    rw [List.getElem?_reverse (by omega), show ys.length - 1 - k = m by omega]; exact hy
  rw [List.take_add_one, h]; rfl
set_option maxRecDepth 100000 in
set_option maxHeartbeats 2000000 in
theorem backward1_in (F : Fence) (n : Nat) (hf : F.fn 73) (hro : F.round = none) (hn : 1 ≤ n) {Q : Int → Prop} (l Bs n₀ N c b o : Nat) (A : Option Addr) (ys : List { y : Int // Q y }) (J Jx : List (Int × { y : Int // Q y }) → World → Prop)
    (hY : ∀ pre x W, J pre W → pre.length < N → YieldAt F (n - 1) Try.prog l #[.int .i64 x.1, .int .i64 x.2.1] W fun e W' =>
      (e = .returned (.bool true) ∧ J (pre ++ [x]) W' ∧ KpB n₀ Bs W W') ∨ (e = .returned (.bool false) ∧ Jx (pre ++ [x]) W'))
    (W : World) (hBs : W.cell? ⟨Bs, 0, none⟩ = some (.slice A N c)) (hI : IA W A N b o (ys.map (·.1))) (hb : 0 < N → b < n₀) (h0 : J [] W) :
    CallsIn F n Try.prog 73 #[.func (.yield l) #[] #[], .pointer (some ⟨Bs, 0, none⟩)] W fun e W' => (∃ v, e = .returned v) ∧
      ((∃ zs : List (Int × { y : Int // Q y }), zs.map (·.2) = ys.reverse ∧ J zs W') ∨ (∃ pre, True ∧ Jx pre W')) := by
  have hbig := hI.big
  have hlen : ys.length = N := by have := hI.len; simpa using this
  refine callsIn_of_wp Try.func73 rfl hf ?_ hro
  simp only [Try.ntmps73, List.size_toArray, List.length_cons, List.length_nil, Nat.reduceAdd, Nat.reduceSub, Array.replicate_succ, Array.replicate_zero, List.push_toArray, List.append_toArray, List.nil_append, List.cons_append]
  have HL := Lib.hid hlen
  have HI := Lib.hid hI
  have hw1 : IntKind.i64.wrap ((N : Int) - 1) = (N : Int) - 1 := IntWalk.i64_in _ ⟨by omega, by omega⟩
  clear hlen hI
  gi_wp2
  gi_loopw [3] (fun i wr => ∃ (m k : Nat) (pre : List (Int × { y : Int // Q y })), k + m = N ∧ i = .int .i64 ((m : Int) - 1) ∧ pre.map (·.2) = ys.reverse.take k ∧ pre.length = k ∧ J pre wr ∧ Below n₀ W wr ∧ wr.cell? ⟨Bs, 0, none⟩ = some (.slice A N c))
    (fun i _ => (intOf i + 1).toNat)
  case atStart => exact ⟨N, 0, [], by omega, rfl, rfl, rfl, h0, Below.refl _ _, hBs⟩
  case round =>
    obtain ⟨m, k, pre, hkm, rfl, hpre, hpl, hJs, hnx, hBs'⟩ := hrel
    have HP := Lib.hid hpre
    clear hpre
    cases m with
    | zero =>
      gi_wp2
      go_end0
      refine ⟨⟨_, rfl⟩, .inl ⟨pre, ?_, hJs⟩⟩
      rw [HP.out, List.take_of_length_le (by rw [List.length_reverse, HL.out]; omega)]
    | succ m =>
      have hgi : ((m + 1 : Nat) : Int) - 1 = (m : Int) := by omega
      rw [hgi]
      have hw2 : IntKind.i64.wrap ((m : Int) - 1) = (m : Int) - 1 := IntWalk.i64_in _ ⟨by omega, by omega⟩
      obtain ⟨x0, hx0, hc0⟩ := HI.out.cell m (by omega)
      obtain ⟨y, hy, rfl⟩ : ∃ y, ys[m]? = some y ∧ y.1 = x0 := by
        rw [List.getElem?_map] at hx0
        cases hq : ys[m]? with
        | none => rw [hq] at hx0; cases hx0
        | some y => rw [hq] at hx0; cases hx0; exact ⟨y, rfl, rfl⟩
      have hA := HI.out.adr (by omega)
      subst hA
      have hcx : wr.cell? ⟨b, o + m, none⟩ = some (.int .i64 y.1) := (hnx.cell (p := ⟨b, o + m, none⟩) (hb (by omega))).trans hc0
      obtain ⟨fn, tmps, assign, body, hyy, hR⟩ := hY _ ((m : Int), y) wr hJs (by omega)
      dsimp only at hyy
      have hmN : m < N := by omega
      gi_wp2
      refine hR.mono ?_
      rintro e W3 (⟨rfl, hJ3, hk3⟩ | ⟨rfl, hJx3⟩)
      · gi_wp2
        go_roundw
        case rel => exact ⟨m, k + 1, pre ++ [((m : Int), y)], by omega, rfl, by rw [List.map_append, HP.out, rev_take ys hy (by have := HL.out; omega)]; rfl, by simp [hpl], hJ3, hnx.trans hk3.1, kpB_cell hk3 hBs'⟩
        case measure => simp [intOf]
      · gi_wp2
        refine bodyPost_ret (results_none rfl _ _ _) rfl ?_
        exact ⟨⟨_, rfl⟩, .inr ⟨_, trivial, hJx3⟩⟩
set_option maxHeartbeats 1000000 in
theorem backward_in (F : Fence) (n : Nat) (hf : F.fn 56) (hro : F.round = none) (a : Option Addr) (len cap : Nat) (w : World) :
    CallsIn F n Try.prog 56 #[.slice a len cap] w fun e w' => e = .returned (.func (.func 73) #[] #[.pointer (some ⟨w.heap.size, 0, none⟩)]) ∧ w' = w.alloc (.cells #[.slice a len cap] 23) := by
  refine callsIn_of_wp Try.func56 rfl hf ?_ hro
  simp only [Try.ntmps56, List.size_toArray, List.length_cons, List.length_nil, Nat.reduceAdd, Nat.reduceSub, Array.replicate_succ, Array.replicate_zero, List.push_toArray, List.append_toArray, List.nil_append, List.cons_append]
  gi_wp2
  go_ret
  exact ⟨rfl, rfl⟩
theorem backward_stops (F : Fence) (n : Nat) (hf : F.fn 73) (hro : F.round = none) (hn : 1 ≤ n) {Q : Int → Prop} (Bs n₀ N c b o : Nat) (A : Option Addr) (ys : List { y : Int // Q y }) (w : World)
    (hBs : w.cell? ⟨Bs, 0, none⟩ = some (.slice A N c)) (hI : IA w A N b o (ys.map (·.1))) (hb : 0 < N → b < n₀) (hBn : Bs < w.heap.size) :
    SeqStopsK F n Try.prog 73 #[.pointer (some ⟨Bs, 0, none⟩)] (fun x : Int × { y : Int // Q y } => #[Value.int .i64 x.1, Value.int .i64 x.2.1]) (KpB n₀ Bs) (fun zs => zs.map (·.2) = ys.reverse)
      (fun _ => True) N w := fun l J Jx W hW _ _ hY h0 => by
  refine (backward1_in F n hf hro hn l Bs n₀ N c b o A ys J Jx hY W ((hW.cell (p := ⟨Bs, 0, none⟩) hBn).trans hBs) (hI.below hW) hb h0).mono ?_
  rintro e W' ⟨he, ⟨zs, h1, h2⟩ | ⟨pre, _, h2⟩⟩
  · exact ⟨he, .inl ⟨zs, h1, h2⟩⟩
  · exact ⟨he, .inr ⟨pre, trivial, h2⟩⟩
end Go.Proofs.Ytmmadmfpbancmaa

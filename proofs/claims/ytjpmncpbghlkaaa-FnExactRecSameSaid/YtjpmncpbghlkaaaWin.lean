/-
  The windows of a stream, and its numbers: iterators without end.
-/
import Derived.Test.YtjpmncpbghlkaaaSld
import Derived.Test.YtjpmncpbghlkaaaRf
namespace Go.Proofs.Ytjpmncpbghlkaaa
open Go.RowKit Go.Shelf
attribute [local go_sem] Oper.semAt_some
theorem below_grown {w w' : World} (h : Below w.heap.size w w') : w.grownBy w' none := ⟨h.os, h.tape, h.output, h.size, fun k hk _ => h.block k hk⟩
theorem grown_but {w w' : World} (h : w.grownBy w' none) (row : Option Nat) : w.grownBy w' row := ⟨h.os, h.tape, h.output, h.size, fun k hk _ => h.block k hk (by simp)⟩
theorem grown_below {w w' : World} (h : w.grownBy w' none) : Below w.heap.size w w' := ⟨h.os, h.tape, h.output, h.size, fun k hk => h.block k hk (by simp)⟩
/-- a recurrence in a box, that is read: the box lies in block Br, all that is read ahead of n₀ or there -/
structure BoxR (W : World) (Br n₀ : Nat) (p : Int) (T F : List Int) (A : Option Addr) (n c b o : Nat) (A' : Option Addr) (c' b' o' : Nat) : Prop where
  c0 : W.cell? ⟨Br, 0, none⟩ = some (.int .i64 p)
  c1 : W.cell? ⟨Br, 1, none⟩ = some (.slice A n c)
  c2 : W.cell? ⟨Br, 2, none⟩ = some (.slice A' n c')
  rt : IA W A n b o T
  rf : IA W A' n b' o' F
  bt : 0 < n → b < n₀
  bf : 0 < n → b' < n₀
  ok : recB p T F = true
/-- what a round keeps -/
def KpW (n₀ Br b : Nat) (W W' : World) : Prop := Below n₀ W W' ∧ W'.heap[Br]? = W.heap[Br]? ∧ W'.heap[b]? = W.heap[b]?
theorem IA.at {w w' : World} {A : Option Addr} {n b o : Nat} {xs : List Int} (h : IA w A n b o xs) (hb : 0 < n → w'.heap[b]? = w.heap[b]?) : IA w' A n b o xs :=
  ⟨h.len, h.adr, h.big, fun i hi => let ⟨x, h1, h2⟩ := h.cell i hi; ⟨x, h1, (World.cell?_of_block (a := ⟨b, o + i, none⟩) (hb (by omega))).trans h2⟩⟩
theorem BoxR.kept {W W' : World} {Br n₀ : Nat} {p : Int} {T F : List Int} {A : Option Addr} {n c b o : Nat} {A' : Option Addr} {c' b' o' : Nat} (h : BoxR W Br n₀ p T F A n c b o A' c' b' o') (hB : Below n₀ W W') (hr : W'.heap[Br]? = W.heap[Br]?) : BoxR W' Br n₀ p T F A n c b o A' c' b' o' :=
  ⟨(World.cell?_of_block (a := ⟨Br, 0, none⟩) hr).trans h.c0, (World.cell?_of_block (a := ⟨Br, 1, none⟩) hr).trans h.c1, (World.cell?_of_block (a := ⟨Br, 2, none⟩) hr).trans h.c2,
    h.rt.at (fun hn => hB.block _ (h.bt hn)), h.rf.at (fun hn => hB.block _ (h.bf hn)), h.bt, h.bf, h.ok⟩
theorem wf_start {p : Int} {T F : List Int} (h : recB p T F = true) (j : Nat) : wf p T F 0 j = co F j := by
  obtain ⟨_, _, hl, _, _⟩ := recB_true h
  unfold wf
  split
  · rw [Nat.zero_add, stm_low p T F (by omega)]
  · rw [co_far (by omega)]
theorem setCells_grown (w : World) (b : Nat) : ∀ (vs : List Value) (o : Nat), w.grownBy (w.setCells b o vs) (some b)
  | [], o => World.grownBy.refl _ _
  | v :: vs, o => by
    have h1 : w.grownBy (w.setCell ⟨b, o, none⟩ v) (some b) := ⟨rfl, rfl, rfl, by simp [World.setCell], fun k _ hk => Below.heap_setCell _ _ _ _ (fun e => hk (by rw [e]))⟩
    have h2 := setCells_grown (w.setCell ⟨b, o, none⟩ v) b vs (o + 1)
    exact h1.andThen h2 (fun j hj => .inr hj)
set_option maxRecDepth 100000 in
set_option maxHeartbeats 2000000 in
theorem windows1_in (m : Nat) (hm : 1 ≤ m) (l Br n₀ : Nat) (p : Int) (T F : List Int) (A : Option Addr) (n c b o : Nat) (A' : Option Addr) (c' b' o' : Nat) (M : Nat) (hM6 : M ≤ 1000000) (J : Nat → Nat → World → Prop) (Jx : Nat → World → Prop) (W : World)
    (hR : BoxR W Br n₀ p T F A n c b o A' c' b' o') (hn₀ : n₀ ≤ W.heap.size) (hBr : Br < W.heap.size)
    (hM : ∀ q k W1, J q k W1 → k ≤ M)
    (hY : ∀ q k W1, W.heap.size ≤ q → J q k W1 → YieldAt Fence.wide (m - 1) Try.prog l #[.int .i64 k, wval (wf p T F k)] W1 fun e W' =>
      (e = .returned (.bool true) ∧ (∀ W'', W'.grownBy W'' (some q) → J q (k + 1) W'') ∧ KpW n₀ Br q W1 W') ∨ (e = .returned (.bool false) ∧ Jx k W'))
    (h0 : ∀ q W1, W.grownBy W1 none → W.heap.size ≤ q → q < W1.heap.size → J q 0 W1) :
    CallsIn Fence.wide m Try.prog 86 #[.func (.yield l) #[] #[], .pointer (some ⟨Br, 0, none⟩)] W fun e W' => (∃ v, e = .returned v) ∧ ∃ k, Jx k W' := by
  have hpb := prime_ge (recB_true hR.ok).1
  have h6 : n ≤ 6 := by rw [← hR.rt.len]; exact (recB_true hR.ok).2.1
  have HR := Lib.hid hR
  obtain ⟨c0, c1, c2, _, _, _, _, _⟩ := hR
  refine callsIn_of_wp Try.func86 rfl trivial ?_ rfl
  simp only [Try.ntmps86, List.size_toArray, List.length_cons, List.length_nil, Nat.reduceAdd, Nat.reduceSub, Array.replicate_succ, Array.replicate_zero, List.push_toArray, List.append_toArray, List.nil_append, List.cons_append]
  obtain ⟨Wa, hWa⟩ : ∃ Wa, W.alloc (.cells #[.int .i64 0, .int .i64 0, .int .i64 0, .int .i64 0, .int .i64 0, .int .i64 0] 80) = Wa := ⟨_, rfl⟩
  have hBa : Below W.heap.size W Wa := by rw [← hWa]; exact (Below.refl _ W).alloc (Nat.le_refl _) _
  have hsa : Wa.heap.size = W.heap.size + 1 := by rw [← hWa]; simp
  have za : ∀ j, j < 6 → Wa.cell? ⟨W.heap.size, j, none⟩ = some (.int .i64 0) := by
    intro j hj
    rw [← hWa]
    have : j = 0 ∨ j = 1 ∨ j = 2 ∨ j = 3 ∨ j = 4 ∨ j = 5 := by omega
    rcases this with rfl | rfl | rfl | rfl | rfl | rfl <;> simp [go_sem]
  have fa : ∀ j, Wa.frozen? ⟨W.heap.size, j, none⟩ = false := by intro j; rw [← hWa]; simp [go_sem]
  have HBA := Lib.hid hBa
  have HRA := Lib.hid (HR.out.kept (hBa.mono hn₀) (hBa.block Br hBr))
  -- what the copy leaves
  obtain ⟨W1, hcp, hg1, z1, f1⟩ : ∃ W1, (Builtin.copy_ #[23, 23] 3 #[.slice (some ⟨W.heap.size, 0, none⟩) 6 6, .slice A' n c']).run Try.prog Wa.drew = .ok (goInt (n : Int)) W1 ∧ W.grownBy W1 none ∧
      (∀ j, j < 6 → W1.cell? ⟨W.heap.size, j, none⟩ = some (.int .i64 (wf p T F 0 j))) ∧ ∀ j, W1.frozen? ⟨W.heap.size, j, none⟩ = false := by
    by_cases hn : n = 0
    · subst hn
      refine ⟨Wa.drew, ?_, ⟨hBa.os, hBa.tape, hBa.output, hBa.size, fun k hk _ => hBa.block k hk⟩, fun j hj => ?_, fa⟩
      · have := run_copy_none (P := Try.prog) Wa.drew 23 23 3 3 (some ⟨W.heap.size, 0, none⟩) A' 6 6 0 c' Try.underlying23 (by kernel_rfl) (by simp)
        exact this
      · rw [wf_start HR.out.ok, co_far (by rw [HR.out.rf.len]; omega)]
        exact za j hj
    · have hf := HRA.out.rf
      have hadr := hf.adr (by omega)
      subst hadr
      have hlen : (ints F).length = Nat.min n 6 := by rw [show Nat.min n 6 = n from Nat.min_eq_left h6]; simp [ints, hf.len]
      have hiso : ∀ j, j < (ints F).length → (Wa.drew.cell? ⟨W.heap.size, 0 + j, none⟩).isSome = true := fun j hj => by
        rw [Nat.zero_add]
        show (Wa.cell? _).isSome = true
        rw [za j (by have : (ints F).length = n := by simp [ints, hf.len]
                     omega)]; rfl
      have hsrc : ∀ j v, (ints F)[j]? = some v → Wa.drew.cell? ((⟨b', o', none⟩ : Addr).add j) = some v := fun j v hv => by
        have hj : j < n := by have := (List.getElem?_eq_some_iff.1 hv).1; simpa [ints, hf.len] using this
        obtain ⟨x, hx, hc⟩ := hf.cell j hj
        rw [addrAdd _ _ rfl]
        show Wa.cell? ⟨b', o' + j, none⟩ = _
        rw [hc, ← hv]; simp [ints, hx]
      have hcp := run_copy_cells (P := Try.prog) Wa.drew 23 23 3 3 W.heap.size 0 6 6 ⟨b', o', none⟩ n c' (ints F) Try.underlying23 (by kernel_rfl) hlen hsrc hiso (fun j _ => fa _) (ints_one F)
      have hln : (ints F).length = n := by simp [ints, hf.len]
      rw [hln] at hcp
      refine ⟨_, hcp, ?_, fun j hj => ?_, fun j => ?_⟩
      · have h1 : Wa.drew.grownBy _ (some W.heap.size) := setCells_grown Wa.drew W.heap.size (ints F) 0
        exact ⟨h1.os.trans hBa.os, h1.tape.trans hBa.tape, h1.output.trans hBa.output, Nat.le_trans hBa.size h1.size, fun k hk _ => (h1.block k (by show k < Wa.heap.size; omega) (by simp; omega)).trans (hBa.block k hk)⟩
      · rw [wf_start HR.out.ok]
        by_cases hjn : j < n
        · have := World.cell?_setCells_in W.heap.size (ints F) 0 Wa.drew hiso j (by omega)
          rw [Nat.zero_add] at this
          obtain ⟨x, hx, _⟩ := hf.cell j hjn
          rw [this, show co F j = x from getD_at hx]
          simp [ints, List.getElem?_eq_some_iff.1 hx |>.2]
        · rw [World.cell?_setCells_out _ _ _ _ _ (fun _ _ => .inr (by show 0 + (ints F).length ≤ j; omega)), co_far (by rw [hf.len]; omega)]
          exact za j hj
      · rw [World.frozen?_setCells]; exact fa j
  have HB1 := Lib.hid (grown_below hg1)
  have HR1 := Lib.hid (HR.out.kept ((grown_below hg1).mono hn₀) ((grown_below hg1).block Br hBr))
  have HJ0 := Lib.hid (h0 W.heap.size W1 hg1 (Nat.le_refl _) (cell_lt (z1 0 (by omega))))
  have Z1 := Lib.hid z1
  have F1 := Lib.hid f1
  have a2 := HRA.out.c2
  clear za fa z1 f1 hg1 h0 hBa
  gi_wp2
  clear hWa
  gi_region
  gi_wp2
  gi_loopw [4] (fun i wr => ∃ k : Nat, i = .int .i64 k ∧ J W.heap.size k wr ∧ Hid (∀ j, j < 6 → wr.cell? ⟨W.heap.size, j, none⟩ = some (.int .i64 (wf p T F k j))) ∧ Hid (∀ j, wr.frozen? ⟨W.heap.size, j, none⟩ = false) ∧ Hid (BoxR wr Br n₀ p T F A n c b o A' c' b' o') ∧ Hid (W.heap.size < wr.heap.size) ∧ n₀ ≤ wr.heap.size ∧ Br < wr.heap.size)
    (fun i _ => M + 1 - (intOf i).toNat)
  case atStart => exact ⟨0, rfl, HJ0.out, Z1.out, F1.out, HR1.out, cell_lt (Z1.out 0 (by omega)), Nat.le_trans hn₀ HB1.out.size, Nat.lt_of_lt_of_le hBr HB1.out.size⟩
  case round =>
    obtain ⟨k, rfl, hJ, hz, hfz, hr, hsz, hn₁, hBr'⟩ := hrel
    have hkM := hM _ _ _ hJ
    obtain ⟨f, hf⟩ : ∃ f, wf p T F k = f := ⟨_, rfl⟩
    have hyk := hY W.heap.size k wr (Nat.le_refl _) hJ
    rw [hf] at hz hyk
    unfold wval at hyk
    obtain ⟨fn, tmps, assign, body, hyy, hRd⟩ := hyk
    have y0 := hz.out 0 (by omega)
    have y1 := hz.out 1 (by omega)
    have y2 := hz.out 2 (by omega)
    have y3 := hz.out 3 (by omega)
    have y4 := hz.out 4 (by omega)
    have y5 := hz.out 5 (by omega)
    have hw1 : IntKind.i64.wrap ((k : Int) + 1) = (k : Int) + 1 := IntWalk.i64_in _ ⟨by omega, by omega⟩
    have HF := Lib.hid hf
    have HJ := Lib.hid hJ
    clear hf hJ
    gi_wp2
    refine hRd.mono ?_
    rintro e W3 (⟨rfl, hJ3, hk3⟩ | ⟨rfl, hJx3⟩)
    · obtain ⟨g, hg⟩ : ∃ g, wf p T F (k + 1) = g := ⟨_, rfl⟩
      have hr3 := hr.out.kept hk3.1 hk3.2.1
      have hsl := slide_any p T F A n c b o A' n c' k W3 hr3.rt rfl hr3.ok
      rw [HF.out, hg] at hsl
      unfold wval at hsl
      have hbl := fun j => World.cell?_of_block (w := wr) (w' := W3) (a := ⟨W.heap.size, j, none⟩) hk3.2.2
      have x0 := (hbl 0).trans y0
      have x1 := (hbl 1).trans y1
      have x2 := (hbl 2).trans y2
      have x3 := (hbl 3).trans y3
      have x4 := (hbl 4).trans y4
      have x5 := (hbl 5).trans y5
      have d0 := hr3.c0
      have d1 := hr3.c1
      have d2 := hr3.c2
      have HSL := Lib.hid hsl
      have HG := Lib.hid hg
      have HJ3 := Lib.hid hJ3
      have HR3 := Lib.hid hr3
      have hs3 := hk3.1.size
      have HF3 := Lib.hid (show ∀ j, W3.frozen? ⟨W.heap.size, j, none⟩ = false from fun j => (World.frozen?_of_block (a := ⟨W.heap.size, j, none⟩) hk3.2.2).trans (hfz.out j))
      clear hJ3 hk3 hr3 hsl hg hbl y0 y1 y2 y3 y4 y5
      gi_wp2
      refine ⟨trivial, (callsIn_wide.2 HSL.out).mono ?_⟩
      rintro e w4 ⟨rfl, hB4⟩
      have k4 := keep_of_below hB4
      have x0 := k4.cell x0 (fun h => h)
      have x1 := k4.cell x1 (fun h => h)
      have x2 := k4.cell x2 (fun h => h)
      have x3 := k4.cell x3 (fun h => h)
      have x4 := k4.cell x4 (fun h => h)
      have x5 := k4.cell x5 (fun h => h)
      have hsW : W.heap.size < W3.heap.size := Nat.lt_of_lt_of_le hsz.out hs3
      have fz4 : ∀ j, w4.frozen? ⟨W.heap.size, j, none⟩ = false := fun j => (k4.frozen (p := ⟨W.heap.size, j, none⟩) hsW (fun h => h)).trans (HF3.out j)
      have HB4 := Lib.hid hB4
      clear k4 hB4
      gi_wp2
      have hg5 := setCells_grown w4 W.heap.size (ints [g 0, g 1, g 2, g 3, g 4, g 5]) 0
      have hg3 : W3.grownBy (w4.setCells W.heap.size 0 (ints [g 0, g 1, g 2, g 3, g 4, g 5])) (some W.heap.size) := (grown_but (below_grown HB4.out) (some W.heap.size)).andThen hg5 (fun j hj => .inr hj)
      have hiso : ∀ j, j < (ints [g 0, g 1, g 2, g 3, g 4, g 5]).length → (w4.cell? ⟨W.heap.size, 0 + j, none⟩).isSome = true := fun j hj => by
        have h6 : j < 6 := hj
        rw [Nat.zero_add]
        have : j = 0 ∨ j = 1 ∨ j = 2 ∨ j = 3 ∨ j = 4 ∨ j = 5 := by omega
        rcases this with rfl | rfl | rfl | rfl | rfl | rfl
        · rw [x0]; rfl
        · rw [x1]; rfl
        · rw [x2]; rfl
        · rw [x3]; rfl
        · rw [x4]; rfl
        · rw [x5]; rfl
      have hz5 : ∀ j, j < 6 → (w4.setCells W.heap.size 0 (ints [g 0, g 1, g 2, g 3, g 4, g 5])).cell? ⟨W.heap.size, j, none⟩ = some (.int .i64 (wf p T F (k + 1) j)) := fun j h6 => by
        have := World.cell?_setCells_in W.heap.size (ints [g 0, g 1, g 2, g 3, g 4, g 5]) 0 w4 hiso j h6
        rw [Nat.zero_add] at this
        rw [this, HG.out]
        have : j = 0 ∨ j = 1 ∨ j = 2 ∨ j = 3 ∨ j = 4 ∨ j = 5 := by omega
        rcases this with rfl | rfl | rfl | rfl | rfl | rfl <;> rfl
      have hf5 : ∀ j, (w4.setCells W.heap.size 0 (ints [g 0, g 1, g 2, g 3, g 4, g 5])).frozen? ⟨W.heap.size, j, none⟩ = false := fun j => by rw [World.frozen?_setCells]; exact fz4 j
      have hr5 := HR3.out.kept (W' := w4.setCells W.heap.size 0 (ints [g 0, g 1, g 2, g 3, g 4, g 5])) ⟨hg3.os, hg3.tape, hg3.output, hg3.size, fun q hq => hg3.block q (by omega) (by simp; omega)⟩ (hg3.block Br (by omega) (by simp; omega))
      have hJ5 := HJ3.out _ hg3
      have hs5 := hg3.size
      go_roundw
      case rel => exact ⟨k + 1, by go_num, hJ5, hz5, hf5, hr5, Nat.lt_of_lt_of_le hsW hs5, Nat.le_trans (by omega) hs5, Nat.le_trans (by omega) hs5⟩
      case measure => simp [intOf]; omega
    · gi_wp2
      go_end0
      exact ⟨⟨_, rfl⟩, _, hJx3⟩
end Go.Proofs.Ytjpmncpbghlkaaa

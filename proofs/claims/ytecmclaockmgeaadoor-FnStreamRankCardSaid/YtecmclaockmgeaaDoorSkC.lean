/-
  A loop over an iterator, said by what each round and the iterator do to the whole of memory: nothing is asked of what the caller says.
  The contract of slide: the window one place later.
  Iterators without end, and the loops over them.
  The windows of a stream, and its numbers: iterators without end.
  The contracts of windows and stream: iterators without end.
  The contracts of RecTerms of the program.
  The contract of the model's RecTerms.
  The contracts of negativeBackwards, RecPoly.
  append of a row that is read, of whatever length, to a slice of integers of the call's own, at a step of a region that draws its order.
  The contract of the model's RecPoly.
  The contracts of slices.Clone over numbers, RecTimes of the program.
  The contracts of TableOf of the program and of the model.
  The contracts of squareTable, StreamRank of the program and of the model.
-/
import Derived.RangeFuncNested
import Derived.RangeFuncBound
import Derived.RangeFuncCalls
import Derived.RangeFuncLeaves
import Derived.Shelf.Abstract
import Derived.Shelf.RegionOpen
import Derived.WalkKit
import Derived.OwnWalkIn
import Derived.TacticsInMore
import Derived.LoopNIn
import Derived.LoopIn
import Derived.Test.YtecmclaockmgeaaDoorSig
import Derived.Test.YtecmclaockmgeaaDoorStm
import Derived.Test.YtecmclaockmgeaaDoorRc
import Derived.Laws.IdiomCopy
import Derived.Test.YtecmclaockmgeaaDoorOwn
import Derived.Maps.OwnIn
import Derived.Test.YtecmclaockmgeaaDoorRecV
import Derived.Test.YtecmclaockmgeaaDoorRules
import Derived.Test.YtecmclaockmgeaaDoorSTerms
import Derived.Test.YtecmclaockmgeaaDoorRes
import Derived.Deep.RegionHeld3
import Derived.Deep.AppendSrc
import Derived.Test.YtecmclaockmgeaaDoorTrim
import Derived.Test.YtecmclaockmgeaaDoorMod
import Derived.Test.YtecmclaockmgeaaDoorBxs
import Derived.Test.YtecmclaockmgeaaDoorElim
import Derived.Test.YtecmclaockmgeaaDoorSkA
import Derived.Test.YtecmclaockmgeaaDoorVal
namespace Go.Proofs.YtecmclaockmgeaaDoor
open Go.RowKit Go.Shelf
/-- how a round of loop l may be left -/
def roundTo (l : Nat) (rec : LoopState → Option Code → Loop) (R : Ending → World → Prop) : Exit → Act → World → Prop
  | .normal, _, W => W.heap[l]? = some (.loop (rec .busy none)) ∧ R (.returned (.bool true)) (W.putObj l (.loop (rec .ready none)))
  | .ret, _, W => W.heap[l]? = some (.loop (rec .busy none)) ∧ R (.returned (.bool false)) (W.putObj l (.loop (rec .done (some .ret))))
  | .exit id, _, W => W.heap[l]? = some (.loop (rec .busy none)) ∧ R (.returned (.bool false)) (W.putObj l (.loop (rec .done (some (.exit id)))))
  | .goto t, _, W => W.heap[l]? = some (.loop (rec .busy none)) ∧ R (.returned (.bool false)) (W.putObj l (.loop (rec .done (some (.goto t)))))
  | .panic _, _, _ => False
  | .outgrown, _, _ => False
/-- the word of a loop's record: a call of yield is a round -/
def Yields (F : Fence) (m : Nat) (P : Program) (l : Nat) (rec : LoopState → Option Code → Loop) (tmps : Array Value) (ps : Array Tmp) (assign body : Code) : Prop :=
  ∀ (W : World) (args : Array Value) (R : Ending → World → Prop), args.size = ps.size → W.heap[l]? = some (.loop (rec .ready none)) →
    assign.wpIn (F.inRound l) m P (Exit.then (fun a1 Wa => Wa.heap[l]? = some (.loop (rec .ready none)) ∧ body.wpIn (F.inRound l) m P (roundTo l rec R) a1 (Wa.putObj l (.loop (rec .busy none)))) (fun _ _ _ => False))
      { tmps := (ps.zip args).foldl (fun t (p, v) => t.setIfInBounds p v) tmps, defers := [] } W →
    YieldAt F m P l args W R
variable {F : Fence} {n : Nat} {P : Program}
theorem wpIn_rangeFunc_run {g : Operand} {ps : Array Tmp} {assign body : Code} {Q : Exit → Act → World → Prop} {a : Act} {w : World}
    (hro : F.round = none) (h1 : 1 ≤ n) {gf : Nat} {lb : Array Value} (hg : a.eval g = .func (.func gf) #[] lb) (hFg : F.fn gf) (eg : ∀ args w, (callFunc gf args).run P w = .ok (.enter gf args) w)
    (h : ∀ (rec : LoopState → Option Code → Loop) (W1 : World), w.grownBy W1 none → W1.heap.size = w.heap.size + 2 → W1.heap[w.heap.size]? = some (.deferred (some [])) → W1.heap[w.heap.size + 1]? = some (.loop (rec .ready none)) →
      Yields F (n - 1 - 1) P (w.heap.size + 1) rec a.tmps ps assign body →
      CallsIn F (n - 1) P gf (#[.func (.yield (w.heap.size + 1)) #[] #[]] ++ lb) W1 (fun e W' => (∃ v, e = .returned v) ∧
        ((W'.heap[w.heap.size + 1]? = some (.loop (rec .ready none)) ∧ Q .normal { a with defers := { target := .collected w.heap.size, args := #[] } :: a.defers } (W'.putObj (w.heap.size + 1) (.loop (rec .exhausted none)))) ∨
        (∃ c, W'.heap[w.heap.size + 1]? = some (.loop (rec .done (some c))) ∧ c.wpIn F n P Q { a with defers := { target := .collected w.heap.size, args := #[] } :: a.defers } (W'.putObj (w.heap.size + 1) (.loop (rec .exhausted (some c)))))))) :
    (Code.rangeFunc g ps assign body).wpIn F n P Q a w := by
  refine wpIn_rangeFunc ?_
  intro fn hfn
  rw [hro]
  obtain ⟨rec, hrec⟩ : ∃ rec : LoopState → Option Code → Loop, rec = fun st pe => { state := st, pending := pe, fn, tmps := a.tmps, params := ps, assign, body, defers := w.heap.size } := ⟨_, rfl⟩
  obtain ⟨W1, hW1⟩ : ∃ W1, (w.alloc (.deferred (some []))).alloc (.loop (rec .ready none)) = W1 := ⟨_, rfl⟩
  have hL1 : W1.heap[w.heap.size + 1]? = some (.loop (rec .ready none)) := by
    rw [← hW1]; have := World.alloc_heap_new (w.alloc (.deferred (some []))) (.loop (rec .ready none)); rwa [World.size_alloc] at this
  have hK1 : W1.heap[w.heap.size]? = some (.deferred (some [])) := by
    rw [← hW1]; exact (Below.heap_alloc _ _ _ (by simp)).trans (World.alloc_heap_new w _)
  have hG : w.grownBy W1 none := by rw [← hW1]; exact (World.grownBy_alloc w _ none).andThen (World.grownBy_alloc _ _ none) (fun j h => by cases h)
  have hs : W1.heap.size = w.heap.size + 2 := by rw [← hW1]; simp
  refine ⟨w.heap.size + 1, [{ target := .collected w.heap.size, args := #[] }], W1, { target := .fn (.func gf) lb, args := #[.func (.yield (w.heap.size + 1)) #[] #[]] }, W1, gf,
    #[.func (.yield (w.heap.size + 1)) #[] #[]] ++ lb, W1, ?_, ?_, ?_, ?_, fun _ => h1, ?_⟩
  · rw [← hW1, hrec]; exact run_enterLoop_outer _ _ _ _ _
  · simp only [resolve, hg]
    simp [go_sem]
  · intro f' hf'; simp [Target.leads] at hf'; subst hf'; exact hFg
  · simp [invoke, go_sem, eg]
  · refine (h rec W1 hG hs hK1 hL1 ?_).mono ?_
    · intro W args R hsz hl ha
      have hy := run_yield (P := P) (args := args) hl (by rw [hrec]; exact hsz)
      refine ⟨fn, (ps.zip args).foldl (fun t (p, v) => t.setIfInBounds p v) a.tmps, assign, body, by rw [hrec] at hy; exact hy, roundIn_of_wpIn hfn (wpIn_mono ha ?_)⟩
      rintro e a1 Wa hp
      cases e with
      | normal =>
        obtain ⟨hl2, hb⟩ := hp
        refine ⟨_, run_beginRound hl2 (by rw [hrec]), ?_⟩
        have e2 : ({ rec .ready none with state := .busy } : Loop) = rec .busy none := by rw [hrec]
        rw [e2]
        refine wpIn_mono hb ?_
        rintro e a3 W3 hp3
        have fin : ∀ (jump : Option Code), W3.heap[w.heap.size + 1]? = some (.loop (rec .busy none)) → (Instr.endRound (w.heap.size + 1) jump).run P W3 = .ok (.bool jump.isNone) (W3.putObj (w.heap.size + 1) (.loop (rec (if jump.isNone then .ready else .done) jump))) := fun jump hl3 => by
          have := run_endRound (P := P) jump hl3
          rw [this, hrec]
        cases e with
        | normal => exact ⟨_, _, fin none hp3.1, hp3.2⟩
        | ret => exact ⟨_, _, fin (some .ret) hp3.1, hp3.2⟩
        | exit id => exact ⟨_, _, fin (some (.exit id)) hp3.1, hp3.2⟩
        | goto t => exact ⟨_, _, fin (some (.goto t)) hp3.1, hp3.2⟩
        | panic ch => exact hp3.elim
        | outgrown => exact hp3.elim
      | exit id => exact hp.elim
      | goto t => exact hp.elim
      | ret => exact hp.elim
      | panic ch => exact hp.elim
      | outgrown => exact hp.elim
    · rintro e W2 ⟨⟨v, rfl⟩, ⟨hl, hq⟩ | ⟨c, hl, hq⟩⟩
      · refine ⟨none, W2.putObj (w.heap.size + 1) (.loop (rec .exhausted none)), ?_, hq⟩
        have := run_endLoop (P := P) hl (by rw [hrec]; simp); rw [hrec] at this ⊢; exact this
      · refine ⟨some c, W2.putObj (w.heap.size + 1) (.loop (rec .exhausted (some c))), ?_, hq⟩
        have := run_endLoop (P := P) hl (by rw [hrec]; simp); rw [hrec] at this ⊢; exact this
end Go.Proofs.YtecmclaockmgeaaDoor
namespace Go.Proofs.YtecmclaockmgeaaDoor
open Go.RowKit
/-- a window's value -/
def wval (f : Nat → Int) : Value := .agg #[.int .i64 (f 0), .int .i64 (f 1), .int .i64 (f 2), .int .i64 (f 3), .int .i64 (f 4), .int .i64 (f 5)]
/-- the window at place k -/
def wf (p : Int) (T F : List Int) (k i : Nat) : Int := if i < T.length then stm p T F (k + i) else 0
/-- the sum of so many products, the last number first -/
def slS (T : List Int) (f : Nat → Int) (d m : Nat) : Int := sigN m (fun j => co T j * f (d - 1 - j))
theorem slS_bd {p : Int} {T F : List Int} (h : recB p T F = true) (k m : Nat) (hm : m ≤ T.length) : 0 ≤ slS T (wf p T F k) T.length m ∧ slS T (wf p T F k) T.length m ≤ 169 * (m : Int) := by
  obtain ⟨hp, h6, hl, hT, hF⟩ := recB_true h
  refine sigN_bd fun j hj => ?_
  have h1 := numB_bd (co_num hT (show j < T.length by omega))
  have h2 := numB_bd (stm_num h (k + (T.length - 1 - j)))
  unfold wf
  rw [if_pos (by omega)]
  exact mul_bd h1.1 (by omega) h2.1 (by omega)
theorem slS_end {p : Int} {T F : List Int} (h : recB p T F = true) (k : Nat) : slS T (wf p T F k) T.length T.length % p = stm p T F (k + T.length) := by
  obtain ⟨hp, h6, hl, hT, hF⟩ := recB_true h
  rw [stm_next p T F hl (by omega)]
  congr 1
  refine sigN_congr fun j hj => ?_
  unfold wf
  rw [if_pos (by omega), show k + (T.length - 1 - j) = k + T.length - 1 - j by omega]
set_option maxRecDepth 100000 in
set_option maxHeartbeats 2000000 in
theorem slide_any (p : Int) (T F : List Int) (A : Option Addr) (n c b o : Nat) (A' : Option Addr) (n' c' : Nat) (k : Nat) (w : World) (h : IA w A n b o T) (hn' : n' = n) (hv : recB p T F = true) :
    Calls Tryd.prog 81 #[.agg #[.int .i64 p, .slice A n c, .slice A' n' c'], wval (wf p T F k)] w fun e w' => e = .returned (wval (wf p T F (k + 1))) ∧ Below w.heap.size w w' := by
  subst hn'
  obtain ⟨hp, h6, hl, hT, hF⟩ := recB_true hv
  have hpb := prime_ge hp
  have hbig := h.big
  have hlen := h.len
  obtain ⟨f, hf⟩ : ∃ f, wf p T F k = f := ⟨_, rfl⟩
  obtain ⟨g, hg⟩ : ∃ g, wf p T F (k + 1) = g := ⟨_, rfl⟩
  rw [hf, hg]
  unfold wval
  have HG := Lib.hid hg
  have HFF := Lib.hid hf
  have HV := Lib.hid hv
  have HT := Lib.hid hT
  have HL := Lib.hid hlen
  have H := Lib.hid h
  rw [hlen] at h6
  clear hg hf hv hT hF hl h hlen hp
  by_cases h0 : n' = 0
  · subst h0
    go_enter Tryd.func81, Tryd.ntmps81
    go_wp2_with (fail)
    have HB := Lib.hid (show Below w.heap.size w (((w.alloc (.cells #[.int .i64 p, .slice A 0 c, .slice A' 0 c'] 25)).alloc (.cells #[.int .i64 (f 0), .int .i64 (f 1), .int .i64 (f 2), .int .i64 (f 3), .int .i64 (f 4), .int .i64 (f 5)] 94)).alloc (.cells #[.int .i64 (f 0), .int .i64 (f 1), .int .i64 (f 2), .int .i64 (f 3), .int .i64 (f 4), .int .i64 (f 5)] 94)) from (((Below.refl _ w).alloc (Nat.le_refl _) _).alloc (by simp) _).alloc (by simp; omega) _)
    have hfg : f = g := by
      rw [← HFF.out, ← HG.out]
      funext i
      unfold wf
      rw [if_neg (by rw [HL.out]; omega), if_neg (by rw [HL.out]; omega)]
    subst hfg
    refine bodyPost_ret (v := .agg #[.int .i64 (f 0), .int .i64 (f 1), .int .i64 (f 2), .int .i64 (f 3), .int .i64 (f 4), .int .i64 (f 5)]) (by simp [results, Tryd.f81, go_sem]) rfl ⟨rfl, HB.out⟩
  · go_enter Tryd.func81, Tryd.ntmps81
    have hw1 : IntKind.i64.wrap ((n' : Int) - 1) = (n' : Int) - 1 := IntWalk.i64_in _ ⟨by omega, by omega⟩
    go_wp2_with (fail)
    obtain ⟨W0, hW0⟩ : ∃ W0, (((w.alloc (.cells #[.int .i64 p, .slice A n' c, .slice A' n' c'] 25)).alloc (.cells #[.int .i64 (f 0), .int .i64 (f 1), .int .i64 (f 2), .int .i64 (f 3), .int .i64 (f 4), .int .i64 (f 5)] 94)).alloc (.cells #[.int .i64 0, .int .i64 0, .int .i64 0, .int .i64 0, .int .i64 0, .int .i64 0] 94)) = W0 := ⟨_, rfl⟩
    have hB0 : Below w.heap.size w W0 := by rw [← hW0]; exact (((Below.refl _ w).alloc (Nat.le_refl _) _).alloc (by simp) _).alloc (by simp; omega) _
    have hs0 : W0.heap.size = w.heap.size + 3 := by rw [← hW0]; simp [go_sem]
    have zp : W0.cell? ⟨w.heap.size, 0, none⟩ = some (.int .i64 p) := by rw [← hW0]; simp [go_sem]
    have zf : ∀ j, j < 6 → W0.cell? ⟨w.heap.size + 1, j, none⟩ = some (.int .i64 (f j)) := by
      intro j hj
      rw [← hW0]
      have : j = 0 ∨ j = 1 ∨ j = 2 ∨ j = 3 ∨ j = 4 ∨ j = 5 := by omega
      rcases this with rfl | rfl | rfl | rfl | rfl | rfl <;> simp [go_sem]
    have zg : ∀ j, j < 6 → W0.cell? ⟨w.heap.size + 1 + 1, j, none⟩ = some (.int .i64 0) := by
      intro j hj
      rw [← hW0]
      have : j = 0 ∨ j = 1 ∨ j = 2 ∨ j = 3 ∨ j = 4 ∨ j = 5 := by omega
      rcases this with rfl | rfl | rfl | rfl | rfl | rfl <;> simp [go_sem]
    have zz : ∀ j, W0.frozen? ⟨w.heap.size + 1, j, none⟩ = false := by intro j; rw [← hW0]; simp [go_sem]
    have zy : ∀ j, W0.frozen? ⟨w.heap.size + 1 + 1, j, none⟩ = false := by intro j; rw [← hW0]; simp [go_sem]
    have H0 := Lib.hid (H.out.below hB0)
    have HB0 := Lib.hid hB0
    have ZF := Lib.hid zf
    rw [hW0]
    clear hW0 hB0 zf
    have hbd := fun m => slS_bd HV.out k m
    rw [HFF.out, HL.out] at hbd
    go_loop [6, 19] (fun s i => ∃ m : Nat, m ≤ n' ∧ i = .int .i64 m ∧ s = .int .i64 (slS T f n' m)) (fun _ i => n' - (intOf i).toNat)
    case atStart => exact ⟨0, by omega, rfl, rfl⟩
    case round =>
      obtain ⟨m, hm, rfl, rfl⟩ := hrel
      obtain ⟨S, hS⟩ : ∃ S, slS T f n' m = S := ⟨_, rfl⟩
      have hSb := hbd m hm
      rw [hS] at hSb ⊢
      by_cases hlt : m < n'
      · obtain ⟨q, hq⟩ : ∃ q : Nat, q + m + 1 = n' := ⟨n' - m - 1, by omega⟩
        obtain rfl := H0.out.adr (by omega)
        obtain ⟨t, ht, hc⟩ := H0.out.cell m hlt
        have htb := numB_bd (HT.out t (List.mem_of_getElem? ht))
        have hfq := ZF.out q (by omega)
        have hqb := numB_bd (stm_num HV.out (k + q))
        have hfe : f q = stm p T F (k + q) := by rw [← HFF.out]; unfold wf; rw [if_pos (by rw [HL.out]; omega)]
        rw [← hfe] at hqb
        obtain ⟨y, hy⟩ : ∃ y, f q = y := ⟨_, rfl⟩
        rw [hy] at hfq hqb
        have hmb := mul_bd htb.1 (by omega) hqb.1 (by omega)
        have hw2 : IntKind.i64.wrap ((n' : Int) - 1 - (m : Int)) = (q : Int) := by rw [show (n' : Int) - 1 - (m : Int) = (q : Int) by omega]; exact IntWalk.i64_in _ ⟨by omega, by omega⟩
        have hw3 : IntKind.i64.wrap (t * y) = t * y := IntWalk.i64_in _ ⟨by omega, by omega⟩
        have hw4 : IntKind.i64.wrap (S + t * y) = S + t * y := IntWalk.i64_in _ ⟨by omega, by omega⟩
        have HST := Lib.hid (show slS T f n' (m + 1) = S + t * y by
          show sigN m _ + co T m * f (n' - 1 - m) = _
          rw [show n' - 1 - m = q by omega, hy, show co T m = t from getD_at ht, ← hS]; rfl)
        have hq6 : q < 6 := by omega
        clear ht hfe hy hS
        go_wp2_with (fail)
        go_round
        case rel => exact ⟨m + 1, by omega, by go_num, by rw [HST.out]⟩
        case measure => simp [intOf]; omega
      · obtain rfl : m = n' := by omega
        have hcs : (ints [f 1, f 2, f 3, f 4, f 5]).length = Nat.min 5 6 := rfl
        have zs : ∀ j v, (ints [f 1, f 2, f 3, f 4, f 5])[j]? = some v → W0.cell? ((⟨w.heap.size + 1, 1, none⟩ : Addr).add j) = some v := by
          intro j v hv
          have hj : j < 5 := by have := (List.getElem?_eq_some_iff.1 hv).1; simpa [ints] using this
          rw [addrAdd _ _ rfl]
          show W0.cell? ⟨w.heap.size + 1, 1 + j, none⟩ = _
          rw [ZF.out (1 + j) (by omega)]
          have : j = 0 ∨ j = 1 ∨ j = 2 ∨ j = 3 ∨ j = 4 := by omega
          rcases this with rfl | rfl | rfl | rfl | rfl <;> simpa [ints] using hv
        obtain ⟨W1, hW1⟩ : ∃ W1, W0.drew.setCells (w.heap.size + 1) 0 (ints [f 1, f 2, f 3, f 4, f 5]) = W1 := ⟨_, rfl⟩
        have hiso : ∀ j, j < (ints [f 1, f 2, f 3, f 4, f 5]).length → (W0.drew.cell? ⟨w.heap.size + 1, 0 + j, none⟩).isSome = true := fun j hj => by
          rw [Nat.zero_add]
          show (W0.cell? _).isSome = true
          rw [ZF.out j (by have : j < 5 := hj; omega)]; rfl
        have hcp := run_copy_cells (P := Tryd.prog) W0.drew 23 23 3 3 (w.heap.size + 1) 0 6 6 ⟨w.heap.size + 1, 1, none⟩ 5 5 (ints [f 1, f 2, f 3, f 4, f 5]) Tryd.underlying23 (by kernel_rfl) hcs zs hiso (fun j hj => zz _) (by intro v hv; simp [ints] at hv; rcases hv with rfl | rfl | rfl | rfl | rfl <;> rfl)
        rw [hW1] at hcp
        have yp : W1.cell? ⟨w.heap.size, 0, none⟩ = some (.int .i64 p) := by rw [← hW1, World.cell?_setCells_out _ _ _ _ _ (fun h => absurd h (by simp))]; exact zp
        have yf : ∀ j, j < 6 → W1.cell? ⟨w.heap.size + 1, j, none⟩ = some (.int .i64 (if j < 5 then f (j + 1) else f j)) := by
          intro j hj
          rw [← hW1]
          by_cases h5 : j < 5
          · rw [if_pos h5]
            have := World.cell?_setCells_in (w.heap.size + 1) (ints [f 1, f 2, f 3, f 4, f 5]) 0 W0.drew hiso j h5
            rw [Nat.zero_add] at this
            rw [this]
            have : j = 0 ∨ j = 1 ∨ j = 2 ∨ j = 3 ∨ j = 4 := by omega
            rcases this with rfl | rfl | rfl | rfl | rfl <;> rfl
          · rw [if_neg h5, World.cell?_setCells_out _ _ _ _ _ (fun _ _ => .inr (by show 0 + 5 ≤ j; omega))]
            exact ZF.out j hj
        have yg : ∀ j, j < 6 → W1.cell? ⟨w.heap.size + 1 + 1, j, none⟩ = some (.int .i64 0) := by
          intro j hj
          rw [← hW1, World.cell?_setCells_out _ _ _ _ _ (fun h => absurd h (by simp))]; exact zg j hj
        have fz : ∀ a, W1.frozen? a = W0.frozen? a := fun a => by rw [← hW1, World.frozen?_setCells]; rfl
        have yz : ∀ j, W1.frozen? ⟨w.heap.size + 1, j, none⟩ = false := fun j => (fz _).trans (zz j)
        have yy : ∀ j, W1.frozen? ⟨w.heap.size + 1 + 1, j, none⟩ = false := fun j => (fz _).trans (zy j)
        have hB1 : Below w.heap.size w W1 := by
          rw [← hW1]
          exact (((((HB0.out.drew.setCell (p := ⟨w.heap.size + 1, 0, none⟩) (show w.heap.size ≤ w.heap.size + 1 by omega) _).setCell (p := ⟨w.heap.size + 1, 1, none⟩) (show w.heap.size ≤ w.heap.size + 1 by omega) _).setCell (p := ⟨w.heap.size + 1, 2, none⟩) (show w.heap.size ≤ w.heap.size + 1 by omega) _).setCell (p := ⟨w.heap.size + 1, 3, none⟩) (show w.heap.size ≤ w.heap.size + 1 by omega) _).setCell (p := ⟨w.heap.size + 1, 4, none⟩) (show w.heap.size ≤ w.heap.size + 1 by omega) _)
        have HB1 := Lib.hid hB1
        have hSm := slS_end HV.out k
        rw [HFF.out, HL.out, hS] at hSm
        have HSM := Lib.hid hSm
        clear zs hW1 hiso fz hB1 hSm
        go_wp2_with (fail)
        go_region
        obtain ⟨q, hq⟩ : ∃ q : Nat, q + 1 = m := ⟨m - 1, by omega⟩
        have hqi : (m : Int) - 1 = (q : Int) := by omega
        have hq6 : q < 6 := by omega
        have hp0 : p ≠ 0 := by omega
        have yq := yf q hq6
        have yzq := yz q
        obtain ⟨W2, hW2⟩ : ∃ W2, W1.setCell ⟨w.heap.size + 1, q, none⟩ (.int .i64 (S % p)) = W2 := ⟨_, rfl⟩
        have xf : ∀ j, j < 6 → W2.cell? ⟨w.heap.size + 1, j, none⟩ = some (.int .i64 (g j)) := by
          intro j hj
          rw [← hW2]
          by_cases e : j = q
          · subst e
            rw [World.cell?_setCell_same' _ _ _ (by rw [yq]; rfl)]
            have : g j = S % p := by
              rw [← HG.out, HSM.out]
              unfold wf
              rw [if_pos (by rw [HL.out]; omega), show k + 1 + j = k + m by omega]
            rw [this]
          · rw [World.cell?_setCell_other _ _ _ _ (by intro h; cases h; exact e rfl), yf j hj]
            have : g j = if j < 5 then f (j + 1) else f j := by
              rw [← HG.out, ← HFF.out]
              unfold wf
              by_cases h1 : j < q
              · rw [if_pos (show j < T.length by rw [HL.out]; omega), if_pos (show j < 5 by omega), if_pos (show j + 1 < T.length by rw [HL.out]; omega), show k + 1 + j = k + (j + 1) by omega]
              · rw [if_neg (show ¬ j < T.length by rw [HL.out]; omega)]
                split
                · rw [if_neg (by rw [HL.out]; omega)]
                · rw [if_neg (by rw [HL.out]; omega)]
            rw [this]
        have xg : ∀ j, j < 6 → W2.cell? ⟨w.heap.size + 1 + 1, j, none⟩ = some (.int .i64 0) := by
          intro j hj
          rw [← hW2, World.cell?_setCell_other _ _ _ _ (by intro h; simp at h)]; exact yg j hj
        have xz : ∀ j, W2.frozen? ⟨w.heap.size + 1 + 1, j, none⟩ = false := by intro j; rw [← hW2, World.frozen?_setCell]; exact yy j
        have HB2 := Lib.hid (show Below w.heap.size w W2 by rw [← hW2]; exact HB1.out.setCell (p := ⟨w.heap.size + 1, q, none⟩) (show w.heap.size ≤ w.heap.size + 1 by omega) _)
        have x0 := xf 0 (by omega)
        have x1 := xf 1 (by omega)
        have x2 := xf 2 (by omega)
        have x3 := xf 3 (by omega)
        have x4 := xf 4 (by omega)
        have x5 := xf 5 (by omega)
        have u0 := xg 0 (by omega)
        have u1 := xg 1 (by omega)
        have u2 := xg 2 (by omega)
        have u3 := xg 3 (by omega)
        have u4 := xg 4 (by omega)
        have u5 := xg 5 (by omega)
        clear xf xg yf yg yz yy zg zz zy zp hq
        go_wp2_with (fail)
        have HB3 := Lib.hid ((((((HB2.out.setCell (p := ⟨w.heap.size + 1 + 1, 0, none⟩) (show w.heap.size ≤ w.heap.size + 1 + 1 by omega) (.int .i64 (g 0))).setCell (p := ⟨w.heap.size + 1 + 1, 1, none⟩) (show w.heap.size ≤ w.heap.size + 1 + 1 by omega) (.int .i64 (g 1))).setCell (p := ⟨w.heap.size + 1 + 1, 2, none⟩) (show w.heap.size ≤ w.heap.size + 1 + 1 by omega) (.int .i64 (g 2))).setCell (p := ⟨w.heap.size + 1 + 1, 3, none⟩) (show w.heap.size ≤ w.heap.size + 1 + 1 by omega) (.int .i64 (g 3))).setCell (p := ⟨w.heap.size + 1 + 1, 4, none⟩) (show w.heap.size ≤ w.heap.size + 1 + 1 by omega) (.int .i64 (g 4))).setCell (p := ⟨w.heap.size + 1 + 1, 5, none⟩) (show w.heap.size ≤ w.heap.size + 1 + 1 by omega) (.int .i64 (g 5)))
        refine bodyPost_ret (v := .agg #[.int .i64 (g 0), .int .i64 (g 1), .int .i64 (g 2), .int .i64 (g 3), .int .i64 (g 4), .int .i64 (g 5)]) (by simp [results, Tryd.f81, go_sem, u0, u1, u2, u3, u4, u5]) rfl ⟨rfl, HB3.out⟩
end Go.Proofs.YtecmclaockmgeaaDoor
namespace Go.Proofs.YtecmclaockmgeaaDoor
open Go.RowKit Go.Shelf
theorem roundIn_any {m m' : Nat} {P : Program} {l : Nat} {f : FuncId} {tmps : Array Value} {assign body : Code} {w : World} {R : Ending → World → Prop}
    (h : RoundIn Fence.wide m P l f tmps assign body w R) : RoundIn Fence.wide m' P l f tmps assign body w R := ⟨h.1, fun c cs _ => h.2 c cs (fun d hd => by cases hd)⟩
theorem roundIn_in {m m' : Nat} {P : Program} {l l2 : Nat} {f : FuncId} {tmps : Array Value} {assign body : Code} {w : World} {R : Ending → World → Prop}
    (h : RoundIn Fence.wide m P l f tmps assign body w R) : RoundIn (Fence.wide.inRound l2) m' P l f tmps assign body w R := roundIn_any (m := m) (m' := m') h
theorem yieldAt_any {m m' : Nat} {P : Program} {l : Nat} {args : Array Value} {W : World} {R : Ending → World → Prop} (h : YieldAt Fence.wide m P l args W R) : YieldAt Fence.wide m' P l args W R := by
  obtain ⟨fn, tmps, assign, body, hy, hR⟩ := h
  exact ⟨fn, tmps, assign, body, hy, roundIn_any hR⟩
theorem callsIn_any {m m' : Nat} {P : Program} {f : FuncId} {args : Array Value} {w : World} {R : Ending → World → Prop} (h : CallsIn Fence.wide m P f args w R) : CallsIn Fence.wide m' P f args w R := callsIn_wide.2 (callsIn_wide.1 h)
/-- the blocks from lo on, ahead of hi -/
def Within (lo hi g : Nat) : Prop := lo ≤ g ∧ g < hi
/-- what a round keeps: what lies ahead of n₀, the box Br, the iterator's own blocks -/
def KpI (n₀ Br lo hi : Nat) (W W' : World) : Prop := Below n₀ W W' ∧ W'.heap[Br]? = W.heap[Br]? ∧ ∀ g, Within lo hi g → W'.heap[g]? = W.heap[g]?
/-- an iterator without end: whoever ranges over it must leave -/
def Endless (P : Program) (gf : FuncId) (lb : Array Value) (enc : Nat → Array Value) (n₀ Br : Nat) (W : World) : Prop :=
  ∀ (m l M : Nat) (J Jx : Nat → Nat → World → Prop), M ≤ 1000000 → (∀ hi k W1, J hi k W1 → k ≤ M) →
    (∀ hi k W1, W.heap.size ≤ hi → J hi k W1 → YieldAt Fence.wide 0 P l (enc k) W1 fun e W' =>
      (e = .returned (.bool true) ∧ (∀ W'', Keep (Within W.heap.size hi) W' W'' → J hi (k + 1) W'') ∧ KpI n₀ Br W.heap.size hi W1 W') ∨ (e = .returned (.bool false) ∧ Jx hi k W' ∧ ∀ g, Within W.heap.size hi g → W'.heap[g]? = W1.heap[g]?)) →
    (∀ hi W1, W.grownBy W1 none → W.heap.size ≤ hi → hi ≤ W1.heap.size → J hi 0 W1) →
    CallsIn Fence.wide m P gf (#[.func (.yield l) #[] #[]] ++ lb) W fun e W' => (∃ v, e = .returned v) ∧ ∃ hi k W1, W.heap.size ≤ hi ∧ Jx hi k W1 ∧ Keep (Within W.heap.size hi) W1 W'
theorem keep_putObj {S : Nat → Prop} (W : World) {l : Nat} (o : Obj) (hs : S l) : Keep S W (W.putObj l o) := ⟨rfl, rfl, rfl, by simp, fun k _ hk => World.putObj_heap_other (fun e => hk (by rw [e]; exact hs))⟩
theorem keep_grown_none {S : Nat → Prop} {W W' : World} (h : W.grownBy W' none) : Keep S W W' := ⟨h.os, h.tape, h.output, h.size, fun k hk _ => h.block k hk (by simp)⟩
/-- how a round may be left -/
def endTo (n₀ Br lo : Nat) (I : Nat → Nat → World → Prop) (Ix : Code → Nat → Nat → World → Prop) (hi k : Nat) (W : World) : Exit → Act → World → Prop
  | .normal, _, W' => I hi (k + 1) W' ∧ KpI n₀ Br lo hi W W'
  | .ret, _, W' => Ix .ret hi k W' ∧ ∀ g, Within lo hi g → W'.heap[g]? = W.heap[g]?
  | .exit id, _, W' => Ix (.exit id) hi k W' ∧ ∀ g, Within lo hi g → W'.heap[g]? = W.heap[g]?
  | .goto t, _, W' => Ix (.goto t) hi k W' ∧ ∀ g, Within lo hi g → W'.heap[g]? = W.heap[g]?
  | .panic _, _, _ => False
  | .outgrown, _, _ => False
variable {n : Nat} {P : Program}
theorem wpIn_endless {g : Operand} {ps : Array Tmp} {assign body : Code} {Q : Exit → Act → World → Prop} {a : Act} {w : World} (h1 : 1 ≤ n)
    {gf : Nat} {lb : Array Value} (hg : a.eval g = .func (.func gf) #[] lb) (eg : ∀ args w, (callFunc gf args).run P w = .ok (.enter gf args) w)
    {enc : Nat → Array Value} (henc : ∀ k, (enc k).size = ps.size) {n₀ Br : Nat} (hn₀ : n₀ ≤ w.heap.size) (hBr : Br < w.heap.size)
    (hseq : ∀ W1, w.grownBy W1 none → Endless P gf lb enc n₀ Br W1) (M : Nat) (hM : M ≤ 1000000)
    (I : Nat → Nat → World → Prop) (Ix : Code → Nat → Nat → World → Prop) (Ax : Nat → Nat → Act → World → Prop)
    (hIM : ∀ hi k W, I hi k W → k ≤ M)
    (hI : ∀ hi k W W', w.heap.size ≤ hi → hi ≤ W.heap.size → I hi k W → Keep (Within w.heap.size hi) W W' → I hi k W')
    (hIx : ∀ c hi k W W', w.heap.size ≤ hi → hi ≤ W.heap.size → Ix c hi k W → Keep (Within w.heap.size hi) W W' → Ix c hi k W')
    (hAx : ∀ hi k a1 W W', w.heap.size ≤ hi → hi ≤ W.heap.size → Ax hi k a1 W → Keep (Within w.heap.size hi) W W' → Ax hi k a1 W')
    (h0 : ∀ hi W, w.heap.size ≤ hi → hi ≤ W.heap.size → w.grownBy W none → I hi 0 W)
    (hassign : ∀ (l hi k : Nat) (W : World) (K : Act → World → Prop), w.heap.size ≤ hi → hi ≤ W.heap.size → I hi k W → (∀ a1 Wa, W.grownBy Wa none → Ax hi k a1 Wa → K a1 Wa) →
      assign.wpIn (Fence.wide.inRound l) (n - 1 - 1) P (Exit.then K (fun _ _ _ => False)) { tmps := (ps.zip (enc k)).foldl (fun t (p, v) => t.setIfInBounds p v) a.tmps, defers := [] } W)
    (hbody : ∀ (l hi k : Nat) (a1 : Act) (W : World), w.heap.size ≤ hi → hi ≤ W.heap.size → I hi k W → Ax hi k a1 W → body.wpIn (Fence.wide.inRound l) (n - 1 - 1) P (endTo n₀ Br w.heap.size I Ix hi k W) a1 W)
    (hstop : ∀ (D : Nat) (c : Code) (hi k : Nat) (W : World), w.heap.size ≤ D → D < hi → hi ≤ W.heap.size → Ix c hi k W → W.heap[D]? = some (.deferred (some [])) → c.wpIn Fence.wide n P Q { a with defers := { target := .collected D, args := #[] } :: a.defers } W) :
    (Code.rangeFunc g ps assign body).wpIn Fence.wide n P Q a w := by
  refine wpIn_rangeFunc_run rfl h1 hg trivial eg ?_
  intro rec W1 hG hs hD hL hyl
  have hlo : ∀ {hi}, W1.heap.size ≤ hi → Within w.heap.size hi (w.heap.size + 1) := fun h => ⟨by omega, by omega⟩
  have hlD : ∀ {hi}, W1.heap.size ≤ hi → Within w.heap.size hi w.heap.size := fun h => ⟨by omega, by omega⟩
  have sub : ∀ {hi : Nat} {A B : World}, Keep (Within W1.heap.size hi) A B → Keep (Within w.heap.size hi) A B := fun h => h.mono (fun k _ hk => ⟨by have := hk.1; omega, hk.2⟩)
  refine callsIn_any (m := n - 1) ((hseq W1 hG (n - 1) (w.heap.size + 1) M
    (fun hi k W => I hi k W ∧ W.heap[w.heap.size + 1]? = some (.loop (rec .ready none)) ∧ W.heap[w.heap.size]? = some (.deferred (some [])) ∧ hi ≤ W.heap.size)
    (fun hi k W => ∃ c, Ix c hi k W ∧ W.heap[w.heap.size + 1]? = some (.loop (rec .done (some c))) ∧ W.heap[w.heap.size]? = some (.deferred (some [])) ∧ hi ≤ W.heap.size)
    hM (fun hi k W h => hIM hi k W h.1) ?_ ?_).mono ?_)
  · -- one round
    rintro hi k W hhi ⟨hi0, hl, hd, hsz⟩
    refine yieldAt_any (hyl W (enc k) _ (henc k) hl (hassign (w.heap.size + 1) hi k W _ (by omega) hsz hi0 (fun a1 Wa hga hax => ?_)))
    have hla := (hga.block (w.heap.size + 1) (by omega) (by simp)).trans hl
    have hda := (hga.block w.heap.size (by omega) (by simp)).trans hd
    have hza := hga.size
    refine ⟨hla, ?_⟩
    have kb : Keep (Within w.heap.size hi) Wa (Wa.putObj (w.heap.size + 1) (.loop (rec .busy none))) := keep_putObj _ _ (hlo hhi)
    have hlb : (Wa.putObj (w.heap.size + 1) (.loop (rec .busy none))).heap[w.heap.size + 1]? = some (.loop (rec .busy none)) := World.putObj_heap_same (by omega)
    have hdb : (Wa.putObj (w.heap.size + 1) (.loop (rec .busy none))).heap[w.heap.size]? = some (.deferred (some [])) := (World.putObj_heap_other (by omega)).trans hda
    have hia := hI hi k W Wa (by omega) hsz hi0 (keep_grown_none hga)
    refine wpIn_mono (hbody (w.heap.size + 1) hi k a1 _ (by omega) (by simp; omega) (hI hi k Wa _ (by omega) (by omega) hia kb) (hAx hi k a1 Wa _ (by omega) (by omega) hax kb)) ?_
    -- the round's ends
    have fin : ∀ (W3 : World) (st : LoopState) (pe : Option Code), (∀ g, Within w.heap.size hi g → W3.heap[g]? = (Wa.putObj (w.heap.size + 1) (.loop (rec .busy none))).heap[g]?) →
        W3.heap[w.heap.size + 1]? = some (.loop (rec .busy none)) ∧ (W3.putObj (w.heap.size + 1) (.loop (rec st pe))).heap[w.heap.size + 1]? = some (.loop (rec st pe)) ∧
        (W3.putObj (w.heap.size + 1) (.loop (rec st pe))).heap[w.heap.size]? = some (.deferred (some [])) ∧ hi ≤ (W3.putObj (w.heap.size + 1) (.loop (rec st pe))).heap.size ∧ hi ≤ W3.heap.size := by
      intro W3 st pe hk
      have e1 := (hk _ (hlo hhi)).trans hlb
      have e2 := (hk _ (hlD hhi)).trans hdb
      have hw3 : hi ≤ W3.heap.size := by
        refine Nat.le_of_not_lt fun hlt => ?_
        have h3 : (Wa.putObj (w.heap.size + 1) (.loop (rec .busy none))).heap[W3.heap.size]? = none := by
          by_cases hc : w.heap.size ≤ W3.heap.size
          · rw [← hk W3.heap.size ⟨hc, hlt⟩]; simp
          · have := (Array.getElem?_eq_some_iff.1 e1).1
            omega
        have := Array.getElem?_eq_none_iff.1 h3
        simp at this
        omega
      refine ⟨e1, World.putObj_heap_same (Array.getElem?_eq_some_iff.1 e1).1, (World.putObj_heap_other (by omega)).trans e2, by simpa using hw3, hw3⟩
    have same : ∀ (W3 : World) (o : Obj), (∀ g, Within w.heap.size hi g → W3.heap[g]? = (Wa.putObj (w.heap.size + 1) (.loop (rec .busy none))).heap[g]?) → ∀ q, Within W1.heap.size hi q → (W3.putObj (w.heap.size + 1) o).heap[q]? = W.heap[q]? := fun W3 o hkg q hq => by
      have hq1 := hq.1
      have hq2 := hq.2
      exact (World.putObj_heap_other (by omega)).trans ((hkg q ⟨by omega, hq2⟩).trans ((World.putObj_heap_other (by omega)).trans (hga.block q (by omega) (by simp))))
    rintro e a3 W3 hp
    cases e with
    | normal =>
      obtain ⟨hi3, hkB, hkr, hkg⟩ := hp
      obtain ⟨q1, q2, q3, q4, q5⟩ := fin W3 .ready none hkg
      refine ⟨q1, .inl ⟨rfl, fun W'' hk => ⟨?_, ?_, ?_, ?_⟩, ?_⟩⟩
      · exact hI hi (k + 1) _ _ (by omega) q4 (hI hi (k + 1) W3 _ (by omega) q5 hi3 (keep_putObj _ _ (hlo hhi))) (sub hk)
      · exact (hk.block _ (by simp; omega) (fun h => by have := h.1; omega)).trans q2
      · exact (hk.block _ (by simp; omega) (fun h => by have := h.1; omega)).trans q3
      · exact Nat.le_trans q4 hk.size
      · have b1 : Below n₀ W Wa := ⟨hga.os, hga.tape, hga.output, hga.size, fun q hq => hga.block q (by omega) (by simp)⟩
        have b2 : Below n₀ Wa (Wa.putObj (w.heap.size + 1) (.loop (rec .busy none))) := kb.below (by omega) (fun q hq => by have := hq.1; omega)
        have b3 : Below n₀ W3 (W3.putObj (w.heap.size + 1) (.loop (rec .ready none))) := (keep_putObj (S := Within w.heap.size hi) W3 _ (hlo hhi)).below (by omega) (fun q hq => by have := hq.1; omega)
        exact ⟨((b1.trans b2).trans hkB).trans b3, (World.putObj_heap_other (by omega)).trans (hkr.trans ((World.putObj_heap_other (by omega)).trans (hga.block Br (by omega) (by simp)))), same W3 _ hkg⟩
    | ret =>
      obtain ⟨hi3, hkg⟩ := hp
      obtain ⟨q1, q2, q3, q4, q5⟩ := fin W3 .done (some .ret) hkg
      exact ⟨q1, .inr ⟨rfl, ⟨_, hIx _ hi k W3 _ (by omega) q5 hi3 (keep_putObj _ _ (hlo hhi)), q2, q3, q4⟩, fun q hq => same W3 _ hkg q hq⟩⟩
    | exit id =>
      obtain ⟨hi3, hkg⟩ := hp
      obtain ⟨q1, q2, q3, q4, q5⟩ := fin W3 .done (some (.exit id)) hkg
      exact ⟨q1, .inr ⟨rfl, ⟨_, hIx _ hi k W3 _ (by omega) q5 hi3 (keep_putObj _ _ (hlo hhi)), q2, q3, q4⟩, fun q hq => same W3 _ hkg q hq⟩⟩
    | goto t =>
      obtain ⟨hi3, hkg⟩ := hp
      obtain ⟨q1, q2, q3, q4, q5⟩ := fin W3 .done (some (.goto t)) hkg
      exact ⟨q1, .inr ⟨rfl, ⟨_, hIx _ hi k W3 _ (by omega) q5 hi3 (keep_putObj _ _ (hlo hhi)), q2, q3, q4⟩, fun q hq => same W3 _ hkg q hq⟩⟩
    | panic ch => exact hp.elim
    | outgrown => exact hp.elim
  · -- the start
    intro hi W hgw hhi hle
    have hz := hgw.size
    refine ⟨h0 hi W (by omega) hle (hG.andThen hgw (fun j hj => by cases hj)), (hgw.block _ (by omega) (by simp)).trans hL, (hgw.block _ (by omega) (by simp)).trans hD, hle⟩
  · -- behind the iterator
    rintro e W2 ⟨⟨v, rfl⟩, hi, k, W3, hhi, ⟨c, hx, hl, hd, hsz⟩, hk⟩
    have hl2 := (hk.block (w.heap.size + 1) (by omega) (fun h => by have := h.1; omega)).trans hl
    have hd2 := (hk.block w.heap.size (by omega) (fun h => by have := h.1; omega)).trans hd
    have hz := hk.size
    refine ⟨⟨v, rfl⟩, .inr ⟨c, hl2, ?_⟩⟩
    refine hstop w.heap.size c hi k _ (Nat.le_refl _) (by omega) (by simp; omega) ?_ ((World.putObj_heap_other (by omega)).trans hd2)
    exact hIx c hi k W2 _ (by omega) (by omega) (hIx c hi k W3 W2 (by omega) hsz hx (sub hk)) (keep_putObj _ _ (hlo hhi))
end Go.Proofs.YtecmclaockmgeaaDoor
namespace Go.Proofs.YtecmclaockmgeaaDoor
open Go.RowKit Go.Shelf
attribute [local go_sem] Oper.semAt_some
theorem below_grown {w w' : World} (h : Below w.heap.size w w') : w.grownBy w' none := ⟨h.os, h.tape, h.output, h.size, fun k hk _ => h.block k hk⟩
theorem grown_but {w w' : World} (h : w.grownBy w' none) (row : Option Nat) : w.grownBy w' row := ⟨h.os, h.tape, h.output, h.size, fun k hk _ => h.block k hk (by simp)⟩
theorem grown_below {w w' : World} (h : w.grownBy w' none) : Below w.heap.size w w' := ⟨h.os, h.tape, h.output, h.size, fun k hk => h.block k hk (by simp)⟩
/-- a recurrence in a box, that is read: the box lies in block Br, all that is read ahead of n₀ or there -/
structure BoxR (W : World) (Br n₀ : Nat) (p : Int) (T F : List Int) (A : Option Addr) (n c b o : Nat) (A' : Option Addr) (c' b' o' : Nat) : Prop where
  c0 : W.cell? ⟨Br, 0, none⟩ = some (.int .i64 p)
  c1 : W.cell? ⟨Br, 1, none⟩ = some (.slice A n c)
  c2 : W.cell? ⟨Br, 2, none⟩ = some (.slice A' n c')
  rt : IA W A n b o T
  rf : IA W A' n b' o' F
  bt : 0 < n → b < n₀
  bf : 0 < n → b' < n₀
  ok : recB p T F = true
/-- what a round keeps -/
def KpW (n₀ Br b : Nat) (W W' : World) : Prop := Below n₀ W W' ∧ W'.heap[Br]? = W.heap[Br]? ∧ W'.heap[b]? = W.heap[b]?
theorem IA.at {w w' : World} {A : Option Addr} {n b o : Nat} {xs : List Int} (h : IA w A n b o xs) (hb : 0 < n → w'.heap[b]? = w.heap[b]?) : IA w' A n b o xs :=
  ⟨h.len, h.adr, h.big, fun i hi => let ⟨x, h1, h2⟩ := h.cell i hi; ⟨x, h1, (World.cell?_of_block (a := ⟨b, o + i, none⟩) (hb (by omega))).trans h2⟩⟩
theorem BoxR.kept {W W' : World} {Br n₀ : Nat} {p : Int} {T F : List Int} {A : Option Addr} {n c b o : Nat} {A' : Option Addr} {c' b' o' : Nat} (h : BoxR W Br n₀ p T F A n c b o A' c' b' o') (hB : Below n₀ W W') (hr : W'.heap[Br]? = W.heap[Br]?) : BoxR W' Br n₀ p T F A n c b o A' c' b' o' :=
  ⟨(World.cell?_of_block (a := ⟨Br, 0, none⟩) hr).trans h.c0, (World.cell?_of_block (a := ⟨Br, 1, none⟩) hr).trans h.c1, (World.cell?_of_block (a := ⟨Br, 2, none⟩) hr).trans h.c2,
    h.rt.at (fun hn => hB.block _ (h.bt hn)), h.rf.at (fun hn => hB.block _ (h.bf hn)), h.bt, h.bf, h.ok⟩
theorem wf_start {p : Int} {T F : List Int} (h : recB p T F = true) (j : Nat) : wf p T F 0 j = co F j := by
  obtain ⟨_, _, hl, _, _⟩ := recB_true h
  unfold wf
  split
  · rw [Nat.zero_add, stm_low p T F (by omega)]
  · rw [co_far (by omega)]
theorem setCells_grown (w : World) (b : Nat) : ∀ (vs : List Value) (o : Nat), w.grownBy (w.setCells b o vs) (some b)
  | [], o => World.grownBy.refl _ _
  | v :: vs, o => by
    have h1 : w.grownBy (w.setCell ⟨b, o, none⟩ v) (some b) := ⟨rfl, rfl, rfl, by simp [World.setCell], fun k _ hk => Below.heap_setCell _ _ _ _ (fun e => hk (by rw [e]))⟩
    have h2 := setCells_grown (w.setCell ⟨b, o, none⟩ v) b vs (o + 1)
    exact h1.andThen h2 (fun j hj => .inr hj)
set_option maxRecDepth 100000 in
set_option maxHeartbeats 2000000 in
theorem windows1_in (m : Nat) (hm : 1 ≤ m) (l Br n₀ : Nat) (p : Int) (T F : List Int) (A : Option Addr) (n c b o : Nat) (A' : Option Addr) (c' b' o' : Nat) (M : Nat) (hM6 : M ≤ 1000000) (J : Nat → Nat → World → Prop) (Jx : Nat → World → Prop) (W : World)
    (hR : BoxR W Br n₀ p T F A n c b o A' c' b' o') (hn₀ : n₀ ≤ W.heap.size) (hBr : Br < W.heap.size)
    (hM : ∀ q k W1, J q k W1 → k ≤ M)
    (hY : ∀ q k W1, W.heap.size ≤ q → J q k W1 → YieldAt Fence.wide (m - 1) Tryd.prog l #[.int .i64 k, wval (wf p T F k)] W1 fun e W' =>
      (e = .returned (.bool true) ∧ (∀ W'', W'.grownBy W'' (some q) → J q (k + 1) W'') ∧ KpW n₀ Br q W1 W') ∨ (e = .returned (.bool false) ∧ Jx k W'))
    (h0 : ∀ q W1, W.grownBy W1 none → W.heap.size ≤ q → q < W1.heap.size → J q 0 W1) :
    CallsIn Fence.wide m Tryd.prog 80 #[.func (.yield l) #[] #[], .pointer (some ⟨Br, 0, none⟩)] W fun e W' => (∃ v, e = .returned v) ∧ ∃ k, Jx k W' := by
  have hpb := prime_ge (recB_true hR.ok).1
  have h6 : n ≤ 6 := by rw [← hR.rt.len]; exact (recB_true hR.ok).2.1
  have HR := Lib.hid hR
  obtain ⟨c0, c1, c2, _, _, _, _, _⟩ := hR
  refine callsIn_of_wp Tryd.func80 rfl trivial ?_ rfl
  simp only [Tryd.ntmps80, List.size_toArray, List.length_cons, List.length_nil, Nat.reduceAdd, Nat.reduceSub, Array.replicate_succ, Array.replicate_zero, List.push_toArray, List.append_toArray, List.nil_append, List.cons_append]
  obtain ⟨Wa, hWa⟩ : ∃ Wa, W.alloc (.cells #[.int .i64 0, .int .i64 0, .int .i64 0, .int .i64 0, .int .i64 0, .int .i64 0] 94) = Wa := ⟨_, rfl⟩
  have hBa : Below W.heap.size W Wa := by rw [← hWa]; exact (Below.refl _ W).alloc (Nat.le_refl _) _
  have hsa : Wa.heap.size = W.heap.size + 1 := by rw [← hWa]; simp
  have za : ∀ j, j < 6 → Wa.cell? ⟨W.heap.size, j, none⟩ = some (.int .i64 0) := by
    intro j hj
    rw [← hWa]
    have : j = 0 ∨ j = 1 ∨ j = 2 ∨ j = 3 ∨ j = 4 ∨ j = 5 := by omega
    rcases this with rfl | rfl | rfl | rfl | rfl | rfl <;> simp [go_sem]
  have fa : ∀ j, Wa.frozen? ⟨W.heap.size, j, none⟩ = false := by intro j; rw [← hWa]; simp [go_sem]
  have HBA := Lib.hid hBa
  have HRA := Lib.hid (HR.out.kept (hBa.mono hn₀) (hBa.block Br hBr))
  -- what the copy leaves
  obtain ⟨W1, hcp, hg1, z1, f1⟩ : ∃ W1, (Builtin.copy_ #[23, 23] 3 #[.slice (some ⟨W.heap.size, 0, none⟩) 6 6, .slice A' n c']).run Tryd.prog Wa.drew = .ok (goInt (n : Int)) W1 ∧ W.grownBy W1 none ∧
      (∀ j, j < 6 → W1.cell? ⟨W.heap.size, j, none⟩ = some (.int .i64 (wf p T F 0 j))) ∧ ∀ j, W1.frozen? ⟨W.heap.size, j, none⟩ = false := by
    by_cases hn : n = 0
    · subst hn
      refine ⟨Wa.drew, ?_, ⟨hBa.os, hBa.tape, hBa.output, hBa.size, fun k hk _ => hBa.block k hk⟩, fun j hj => ?_, fa⟩
      · have := run_copy_none (P := Tryd.prog) Wa.drew 23 23 3 3 (some ⟨W.heap.size, 0, none⟩) A' 6 6 0 c' Tryd.underlying23 (by kernel_rfl) (by simp)
        exact this
      · rw [wf_start HR.out.ok, co_far (by rw [HR.out.rf.len]; omega)]
        exact za j hj
    · have hf := HRA.out.rf
      have hadr := hf.adr (by omega)
      subst hadr
      have hlen : (ints F).length = Nat.min n 6 := by rw [show Nat.min n 6 = n from Nat.min_eq_left h6]; simp [ints, hf.len]
      have hiso : ∀ j, j < (ints F).length → (Wa.drew.cell? ⟨W.heap.size, 0 + j, none⟩).isSome = true := fun j hj => by
        rw [Nat.zero_add]
        show (Wa.cell? _).isSome = true
        rw [za j (by have : (ints F).length = n := by simp [ints, hf.len]
                     omega)]; rfl
      have hsrc : ∀ j v, (ints F)[j]? = some v → Wa.drew.cell? ((⟨b', o', none⟩ : Addr).add j) = some v := fun j v hv => by
        have hj : j < n := by have := (List.getElem?_eq_some_iff.1 hv).1; simpa [ints, hf.len] using this
        obtain ⟨x, hx, hc⟩ := hf.cell j hj
        rw [addrAdd _ _ rfl]
        show Wa.cell? ⟨b', o' + j, none⟩ = _
        rw [hc, ← hv]; simp [ints, hx]
      have hcp := run_copy_cells (P := Tryd.prog) Wa.drew 23 23 3 3 W.heap.size 0 6 6 ⟨b', o', none⟩ n c' (ints F) Tryd.underlying23 (by kernel_rfl) hlen hsrc hiso (fun j _ => fa _) (ints_one F)
      have hln : (ints F).length = n := by simp [ints, hf.len]
      rw [hln] at hcp
      refine ⟨_, hcp, ?_, fun j hj => ?_, fun j => ?_⟩
      · have h1 : Wa.drew.grownBy _ (some W.heap.size) := setCells_grown Wa.drew W.heap.size (ints F) 0
        exact ⟨h1.os.trans hBa.os, h1.tape.trans hBa.tape, h1.output.trans hBa.output, Nat.le_trans hBa.size h1.size, fun k hk _ => (h1.block k (by show k < Wa.heap.size; omega) (by simp; omega)).trans (hBa.block k hk)⟩
      · rw [wf_start HR.out.ok]
        by_cases hjn : j < n
        · have := World.cell?_setCells_in W.heap.size (ints F) 0 Wa.drew hiso j (by omega)
          rw [Nat.zero_add] at this
          obtain ⟨x, hx, _⟩ := hf.cell j hjn
          rw [this, show co F j = x from getD_at hx]
          simp [ints, List.getElem?_eq_some_iff.1 hx |>.2]
        · rw [World.cell?_setCells_out _ _ _ _ _ (fun _ _ => .inr (by show 0 + (ints F).length ≤ j; omega)), co_far (by rw [hf.len]; omega)]
          exact za j hj
      · rw [World.frozen?_setCells]; exact fa j
  have HB1 := Lib.hid (grown_below hg1)
  have HR1 := Lib.hid (HR.out.kept ((grown_below hg1).mono hn₀) ((grown_below hg1).block Br hBr))
  have HJ0 := Lib.hid (h0 W.heap.size W1 hg1 (Nat.le_refl _) (cell_lt (z1 0 (by omega))))
  have Z1 := Lib.hid z1
  have F1 := Lib.hid f1
  have a2 := HRA.out.c2
  clear za fa z1 f1 hg1 h0 hBa
  gi_wp2
  clear hWa
  gi_region
  gi_wp2
  gi_loopw [4] (fun i wr => ∃ k : Nat, i = .int .i64 k ∧ J W.heap.size k wr ∧ Hid (∀ j, j < 6 → wr.cell? ⟨W.heap.size, j, none⟩ = some (.int .i64 (wf p T F k j))) ∧ Hid (∀ j, wr.frozen? ⟨W.heap.size, j, none⟩ = false) ∧ Hid (BoxR wr Br n₀ p T F A n c b o A' c' b' o') ∧ Hid (W.heap.size < wr.heap.size) ∧ n₀ ≤ wr.heap.size ∧ Br < wr.heap.size)
    (fun i _ => M + 1 - (intOf i).toNat)
  case atStart => exact ⟨0, rfl, HJ0.out, Z1.out, F1.out, HR1.out, cell_lt (Z1.out 0 (by omega)), Nat.le_trans hn₀ HB1.out.size, Nat.lt_of_lt_of_le hBr HB1.out.size⟩
  case round =>
    obtain ⟨k, rfl, hJ, hz, hfz, hr, hsz, hn₁, hBr'⟩ := hrel
    have hkM := hM _ _ _ hJ
    obtain ⟨f, hf⟩ : ∃ f, wf p T F k = f := ⟨_, rfl⟩
    have hyk := hY W.heap.size k wr (Nat.le_refl _) hJ
    rw [hf] at hz hyk
    unfold wval at hyk
    obtain ⟨fn, tmps, assign, body, hyy, hRd⟩ := hyk
    have y0 := hz.out 0 (by omega)
    have y1 := hz.out 1 (by omega)
    have y2 := hz.out 2 (by omega)
    have y3 := hz.out 3 (by omega)
    have y4 := hz.out 4 (by omega)
    have y5 := hz.out 5 (by omega)
    have hw1 : IntKind.i64.wrap ((k : Int) + 1) = (k : Int) + 1 := IntWalk.i64_in _ ⟨by omega, by omega⟩
    have HF := Lib.hid hf
    have HJ := Lib.hid hJ
    clear hf hJ
    gi_wp2
    refine hRd.mono ?_
    rintro e W3 (⟨rfl, hJ3, hk3⟩ | ⟨rfl, hJx3⟩)
    · obtain ⟨g, hg⟩ : ∃ g, wf p T F (k + 1) = g := ⟨_, rfl⟩
      have hr3 := hr.out.kept hk3.1 hk3.2.1
      have hsl := slide_any p T F A n c b o A' n c' k W3 hr3.rt rfl hr3.ok
      rw [HF.out, hg] at hsl
      unfold wval at hsl
      have hbl := fun j => World.cell?_of_block (w := wr) (w' := W3) (a := ⟨W.heap.size, j, none⟩) hk3.2.2
      have x0 := (hbl 0).trans y0
      have x1 := (hbl 1).trans y1
      have x2 := (hbl 2).trans y2
      have x3 := (hbl 3).trans y3
      have x4 := (hbl 4).trans y4
      have x5 := (hbl 5).trans y5
      have d0 := hr3.c0
      have d1 := hr3.c1
      have d2 := hr3.c2
      have HSL := Lib.hid hsl
      have HG := Lib.hid hg
      have HJ3 := Lib.hid hJ3
      have HR3 := Lib.hid hr3
      have hs3 := hk3.1.size
      have HF3 := Lib.hid (show ∀ j, W3.frozen? ⟨W.heap.size, j, none⟩ = false from fun j => (World.frozen?_of_block (a := ⟨W.heap.size, j, none⟩) hk3.2.2).trans (hfz.out j))
      clear hJ3 hk3 hr3 hsl hg hbl y0 y1 y2 y3 y4 y5
      gi_wp2
      refine ⟨trivial, (callsIn_wide.2 HSL.out).mono ?_⟩
      rintro e w4 ⟨rfl, hB4⟩
      have k4 := keep_of_below hB4
      have x0 := k4.cell x0 (fun h => h)
      have x1 := k4.cell x1 (fun h => h)
      have x2 := k4.cell x2 (fun h => h)
      have x3 := k4.cell x3 (fun h => h)
      have x4 := k4.cell x4 (fun h => h)
      have x5 := k4.cell x5 (fun h => h)
      have hsW : W.heap.size < W3.heap.size := Nat.lt_of_lt_of_le hsz.out hs3
      have fz4 : ∀ j, w4.frozen? ⟨W.heap.size, j, none⟩ = false := fun j => (k4.frozen (p := ⟨W.heap.size, j, none⟩) hsW (fun h => h)).trans (HF3.out j)
      have HB4 := Lib.hid hB4
      clear k4 hB4
      gi_wp2
      have hg5 := setCells_grown w4 W.heap.size (ints [g 0, g 1, g 2, g 3, g 4, g 5]) 0
      have hg3 : W3.grownBy (w4.setCells W.heap.size 0 (ints [g 0, g 1, g 2, g 3, g 4, g 5])) (some W.heap.size) := (grown_but (below_grown HB4.out) (some W.heap.size)).andThen hg5 (fun j hj => .inr hj)
      have hiso : ∀ j, j < (ints [g 0, g 1, g 2, g 3, g 4, g 5]).length → (w4.cell? ⟨W.heap.size, 0 + j, none⟩).isSome = true := fun j hj => by
        have h6 : j < 6 := hj
        rw [Nat.zero_add]
        have : j = 0 ∨ j = 1 ∨ j = 2 ∨ j = 3 ∨ j = 4 ∨ j = 5 := by omega
        rcases this with rfl | rfl | rfl | rfl | rfl | rfl
        · rw [x0]; rfl
        · rw [x1]; rfl
        · rw [x2]; rfl
        · rw [x3]; rfl
        · rw [x4]; rfl
        · rw [x5]; rfl
      have hz5 : ∀ j, j < 6 → (w4.setCells W.heap.size 0 (ints [g 0, g 1, g 2, g 3, g 4, g 5])).cell? ⟨W.heap.size, j, none⟩ = some (.int .i64 (wf p T F (k + 1) j)) := fun j h6 => by
        have := World.cell?_setCells_in W.heap.size (ints [g 0, g 1, g 2, g 3, g 4, g 5]) 0 w4 hiso j h6
        rw [Nat.zero_add] at this
        rw [this, HG.out]
        have : j = 0 ∨ j = 1 ∨ j = 2 ∨ j = 3 ∨ j = 4 ∨ j = 5 := by omega
        rcases this with rfl | rfl | rfl | rfl | rfl | rfl <;> rfl
      have hf5 : ∀ j, (w4.setCells W.heap.size 0 (ints [g 0, g 1, g 2, g 3, g 4, g 5])).frozen? ⟨W.heap.size, j, none⟩ = false := fun j => by rw [World.frozen?_setCells]; exact fz4 j
      have hr5 := HR3.out.kept (W' := w4.setCells W.heap.size 0 (ints [g 0, g 1, g 2, g 3, g 4, g 5])) ⟨hg3.os, hg3.tape, hg3.output, hg3.size, fun q hq => hg3.block q (by omega) (by simp; omega)⟩ (hg3.block Br (by omega) (by simp; omega))
      have hJ5 := HJ3.out _ hg3
      have hs5 := hg3.size
      go_roundw
      case rel => exact ⟨k + 1, by go_num, hJ5, hz5, hf5, hr5, Nat.lt_of_lt_of_le hsW hs5, Nat.le_trans (by omega) hs5, Nat.le_trans (by omega) hs5⟩
      case measure => simp [intOf]; omega
    · gi_wp2
      go_end0
      exact ⟨⟨_, rfl⟩, _, hJx3⟩
end Go.Proofs.YtecmclaockmgeaaDoor
namespace Go.Proofs.YtecmclaockmgeaaDoor
open Go.RowKit Go.Shelf
attribute [local go_sem] Oper.semAt_some
theorem windows_endless (Br n₀ : Nat) (p : Int) (T F : List Int) (A : Option Addr) (n c b o : Nat) (A' : Option Addr) (c' b' o' : Nat) (W : World) (hR : BoxR W Br n₀ p T F A n c b o A' c' b' o') (hn₀ : n₀ ≤ W.heap.size) (hBr : Br < W.heap.size) :
    Endless Tryd.prog 80 #[.pointer (some ⟨Br, 0, none⟩)] (fun k => #[.int .i64 k, wval (wf p T F k)]) n₀ Br W := by
  intro m l M J Jx hM hJM hY h0
  refine callsIn_any (m := 1) ((windows1_in 1 (Nat.le_refl _) l Br n₀ p T F A n c b o A' c' b' o' M hM (fun q k W1 => J (q + 1) k W1) (fun k W1 => ∃ hi, W.heap.size ≤ hi ∧ Jx hi k W1) W hR hn₀ hBr (fun q k W1 h => hJM _ _ _ h) ?_ ?_).mono ?_)
  · intro q k W1 hq hj
    refine (yieldAt_any (hY (q + 1) k W1 (by omega) hj)).mono ?_
    rintro e W' (⟨rfl, h1, h2, h3, h4⟩ | ⟨rfl, h1, _⟩)
    · refine .inl ⟨rfl, fun W'' hg => h1 W'' ⟨hg.os, hg.tape, hg.output, hg.size, fun k hk hs => hg.block k hk (fun e => hs (by cases e; exact ⟨hq, by omega⟩))⟩, h2, h3, h4 q ⟨hq, by omega⟩⟩
    · exact .inr ⟨rfl, q + 1, by omega, h1⟩
  · intro q W1 hg hq hl
    exact h0 (q + 1) W1 hg (by omega) (by omega)
  · rintro e W' ⟨hv, k, hi, hh, hx⟩
    exact ⟨hv, hi, k, W', hh, hx, Keep.refl _ _⟩
/-- making the iterator lays the recurrence into a box -/
theorem windows_any (v0 v1 v2 : Value) (W : World) :
    Calls Tryd.prog 69 #[.agg #[v0, v1, v2]] W fun e W' => e = .returned (.func (.func 80) #[] #[.pointer (some ⟨W.heap.size, 0, none⟩)]) ∧ W' = W.alloc (.cells #[v0, v1, v2] 25) := by
  go_enter Tryd.func69, Tryd.ntmps69
  go_wp2_with (fail)
  go_ret
  exact ⟨rfl, rfl⟩
theorem stream_any (v0 v1 v2 : Value) (W : World) :
    Calls Tryd.prog 52 #[.agg #[v0, v1, v2]] W fun e W' => e = .returned (.func (.func 68) #[] #[.pointer (some ⟨W.heap.size, 0, none⟩)]) ∧ W' = W.alloc (.cells #[v0, v1, v2] 25) := by
  go_enter Tryd.func52, Tryd.ntmps52
  go_wp2_with (fail)
  go_ret
  exact ⟨rfl, rfl⟩
set_option maxRecDepth 100000 in
set_option maxHeartbeats 2000000 in
theorem stream_endless (Br n₀ : Nat) (p : Int) (T F : List Int) (A : Option Addr) (n c b o : Nat) (A' : Option Addr) (c' b' o' : Nat) (W : World) (hR : BoxR W Br n₀ p T F A n c b o A' c' b' o') (hn₀ : n₀ ≤ W.heap.size) (hBr : Br < W.heap.size) :
    Endless Tryd.prog 68 #[.pointer (some ⟨Br, 0, none⟩)] (fun k => #[.int .i64 k, .int .i64 (wf p T F k 0)]) n₀ Br W := by
  intro m l M J Jx hM hJM hY h0
  have HR := Lib.hid hR
  obtain ⟨c0, c1, c2, _, _, _, _, _⟩ := hR
  refine callsIn_any (m := 5) ?_
  refine callsIn_of_wp_marks Tryd.func68 rfl trivial ?_ rfl
  simp only [Tryd.ntmps68, List.size_toArray, List.length_cons, List.length_nil, Nat.reduceAdd, Nat.reduceSub, Array.replicate_succ, Array.replicate_zero, List.push_toArray, List.append_toArray, List.nil_append, List.cons_append]
  gi_wp2
  refine ⟨trivial, (callsIn_wide.2 (windows_any _ _ _ _)).mono ?_⟩
  rintro e w1 ⟨rfl, rfl⟩
  have hB1 : Below W.heap.size W ((W.alloc (.cells #[.func (.yield l) #[] #[]] 58)).alloc (.cells #[.int .i64 p, .slice A n c, .slice A' n c'] 25)) := ((Below.refl _ W).alloc (Nat.le_refl _) _).alloc (by simp) _
  gi_wp2
  obtain ⟨Wl, hWl⟩ : ∃ Wl, (W.alloc (.cells #[.func (.yield l) #[] #[]] 58)).alloc (.cells #[.int .i64 p, .slice A n c, .slice A' n c'] 25) = Wl := ⟨_, rfl⟩
  rw [hWl] at hB1 ⊢
  have hsl : Wl.heap.size = W.heap.size + 2 := by rw [← hWl]; simp
  have y0 : Wl.cell? ⟨W.heap.size, 0, none⟩ = some (.func (.yield l) #[] #[]) := by rw [← hWl]; simp [go_sem]
  have r0 : Wl.cell? ⟨W.heap.size + 1, 0, none⟩ = some (.int .i64 p) := by rw [← hWl]; simp [go_sem]
  have r1 : Wl.cell? ⟨W.heap.size + 1, 1, none⟩ = some (.slice A n c) := by rw [← hWl]; simp [go_sem]
  have r2 : Wl.cell? ⟨W.heap.size + 1, 2, none⟩ = some (.slice A' n c') := by rw [← hWl]; simp [go_sem]
  have hRl := HR.out.kept (hB1.mono hn₀) (hB1.block Br hBr)
  have hR2 : BoxR Wl (W.heap.size + 1) n₀ p T F A n c b o A' c' b' o' := ⟨r0, r1, r2, hRl.rt, hRl.rf, hRl.bt, hRl.bf, hRl.ok⟩
  clear hWl hRl
  refine wpIn_endless (n₀ := n₀) (Br := W.heap.size + 1) (by decide) (gf := 80) (lb := #[.pointer (some ⟨W.heap.size + 1, 0, none⟩)]) rfl (enters_of Tryd.func80 (by kernel_rfl) rfl) (enc := fun k => #[.int .i64 k, wval (wf p T F k)]) (fun _ => rfl) (by omega) (by omega)
    (fun W1 hG => windows_endless (W.heap.size + 1) n₀ p T F A n c b o A' c' b' o' W1 (hR2.kept ⟨hG.os, hG.tape, hG.output, hG.size, fun k hk => hG.block k (by omega) (by simp)⟩ (hG.block _ (by omega) (by simp))) (by have := hG.size; omega) (by have := hG.size; omega)) M hM
    (fun hi k Wc => (∀ W'', Keep (Within W.heap.size hi) Wc W'' → J hi k W'') ∧ Wc.cell? ⟨W.heap.size, 0, none⟩ = some (.func (.yield l) #[] #[]))
    (fun cd hi k Wc => cd = .ret ∧ ∃ W3, Jx hi k W3 ∧ Keep (Within W.heap.size hi) W3 Wc)
    (fun hi k a1 Wc => ∃ Bx, hi ≤ Bx ∧ Wc.cell? ⟨Bx, 0, none⟩ = some (.int .i64 (wf p T F k 0)) ∧ a1 = { tmps := #[.func (.yield l) #[] #[], .pointer (some ⟨Br, 0, none⟩), .pointer (some ⟨W.heap.size, 0, none⟩), .int .i64 k, .pointer (some ⟨Bx, 0, none⟩), .agg #[.int .i64 p, .slice A n c, .slice A' n c'], .func (.func 80) #[] #[.pointer (some ⟨W.heap.size + 1, 0, none⟩)], .int .i64 k, wval (wf p T F k), undef, undef, undef, undef, undef, undef], defers := [] })
    (fun hi k Wc h => hJM hi k Wc (h.1 Wc (Keep.refl _ _)))
    ?hI ?hIx ?hAx ?h0 ?assign ?body ?stop
  case hI =>
    rintro hi k Wa Wb h1 h2 ⟨g1, g2⟩ hk
    refine ⟨fun W'' hk2 => g1 W'' ((hk.mono (fun q _ hq => ⟨by have := hq.1; omega, hq.2⟩)).trans hk2), hk.cell g2 (fun h => by have := h.1; simp at this; omega)⟩
  case hIx =>
    rintro cd hi k Wa Wb h1 h2 ⟨rfl, W3, g1, g2⟩ hk
    exact ⟨rfl, W3, g1, g2.trans (hk.mono (fun q _ hq => ⟨by have := hq.1; omega, hq.2⟩))⟩
  case hAx =>
    rintro hi k a1 Wa Wb h1 h2 ⟨Bx, g1, g2, rfl⟩ hk
    exact ⟨Bx, g1, hk.cell g2 (fun h => by have := h.2; simp at this; omega), rfl⟩
  case h0 =>
    intro hi Wa h1 h2 hg
    refine ⟨fun W'' hk => h0 hi W'' ?_ (by omega) (Nat.le_trans h2 hk.size), hg.cell y0 (by simp)⟩
    refine ⟨hk.os.trans (hg.os.trans hB1.os), hk.tape.trans (hg.tape.trans hB1.tape), hk.output.trans (hg.output.trans hB1.output), Nat.le_trans hB1.size (Nat.le_trans hg.size hk.size), fun q hq _ => ?_⟩
    exact (hk.block q (by have := hg.size; omega) (fun h => by have := h.1; omega)).trans ((hg.block q (by omega) (by simp)).trans (hB1.block q hq))
  case assign =>
    rintro l2 hi k Wa K h1 h2 ⟨g1, g2⟩ hK
    unfold wval at hK ⊢
    obtain ⟨f, hf⟩ : ∃ f, wf p T F k = f := ⟨_, rfl⟩
    rw [hf] at hK ⊢
    gi_wp2
    refine hK _ _ (World.grownBy_alloc _ _ _) ⟨Wa.heap.size, h2, ?_, rfl⟩
    simp [go_sem]
  case body =>
    rintro l2 hi k a1 Wa h1 h2 ⟨g1, g2⟩ ⟨Bx, g3, g4, rfl⟩
    obtain ⟨fn, tmps, assign, body, hyy, hRd⟩ := hY hi k Wa (by omega) (g1 Wa (Keep.refl _ _))
    unfold wval
    obtain ⟨f, hf⟩ : ∃ f, wf p T F k = f := ⟨_, rfl⟩
    rw [hf] at g4 hyy ⊢
    have HF := Lib.hid hf
    have G1 := Lib.hid g1
    clear hf g1
    gi_wp2
    refine (roundIn_in hRd).mono ?_
    rintro e W3 (⟨rfl, hJ3, hkB, hkr, hkg⟩ | ⟨rfl, hJx3, hkg⟩)
    · have HJ3 := Lib.hid hJ3
      clear hJ3
      gi_wp2
      refine ⟨⟨HJ3.out, (World.cell?_of_block (a := ⟨W.heap.size, 0, none⟩) (hkg W.heap.size ⟨by omega, by omega⟩)).trans g2⟩, hkB, hkg (W.heap.size + 1) ⟨by omega, by omega⟩, fun q hq => hkg q ⟨by have := hq.1; omega, hq.2⟩⟩
    · gi_wp2
      exact ⟨⟨rfl, W3, hJx3, Keep.refl _ _⟩, fun q hq => hkg q ⟨by have := hq.1; omega, hq.2⟩⟩
  case stop =>
    rintro D cd hi k Wa h1 h2 h3 ⟨rfl, W3, g1, g2⟩ hD
    gi_wp2
    refine ⟨by simp, .inl ⟨_, _, rfl, run_takeDeferred hD, ?_⟩⟩
    exact ⟨_, results_none rfl _ _ _, ⟨_, rfl⟩, hi, k, W3, by omega, g1, g2.trans (keep_putObj _ _ ⟨by omega, h2⟩)⟩
end Go.Proofs.YtecmclaockmgeaaDoor
namespace Go.Proofs.YtecmclaockmgeaaDoor
open Go.RowKit Go.Shelf
attribute [local go_sem] Oper.semAt_some
def termsO (p : Int) (T F : List Int) (x : Int) : List Int := if recB p T F = true ∧ 0 ≤ x ∧ x ≤ 24 then trm p T F x.toNat else []
theorem termsO_len (p : Int) (T F : List Int) (x : Int) : (termsO p T F x).length ≤ 1048576 := by
  unfold termsO
  split
  · rw [trm_len]; omega
  · simp
theorem wpListIn_app_int {F : Fence} {nF : Nat} {ops : Array Oper} {rest : List Oper} {o : Oper} {a : Act} {Q : Exit → Act → World → Prop} {w : World} (hgd : o.guard = none) (s x : Operand)
    (ho : o.op = .call { callee := .builtin .append, args := #[s, x], argTypes := #[23, 23] })
    (B : Nat) (A : Option Addr) (n c : Nat) (xs : List Int) (hs : a.eval s = .slice A n c) (hown : OI w B A n c xs) (z : Int) (g c1 : Nat) (hx : a.eval x = .slice (some ⟨g, 0, none⟩) 1 c1) (hcell : w.cell? ⟨g, 0, none⟩ = some (.int .i64 z))
    (hn : n ≤ 1000000000) (hB : B ≤ w.heap.size)
    (h : ∀ (q c' : Nat) (w' : World), OI w' B (some ⟨q, 0, none⟩) (n + 1) c' (xs ++ [z]) → Keep (fun k => (Value.slice A n c).ownBlock = some k) w w' → ((Value.slice A n c).ownBlock = some q ∨ q = w.heap.size) → wpListIn F nF Tryd.prog ops Q rest (a.put o.dst (.slice (some ⟨q, 0, none⟩) (n + 1) c')) w') :
    wpListIn F nF Tryd.prog ops Q (o :: rest) a w := by
  obtain ⟨i0, hi, hz0, hz1, hz2⟩ := info_parts infoInt
  refine wpListIn_append_own_at w hgd s x 23 ho B 3 i0 (.int .i64 0) 1 8 Tryd.underlying23 hi hz0 hz1 hz2 rfl (by decide) _ n (ints xs) hs hown ⟨g, 0, none⟩ 1 c1 [.int .i64 z] hx rfl ?_ ?_ ?_ ?_ hB ?_
  · intro j u hj
    match j, hj with
    | 0, hj => simp at hj; subst hj; simpa [Addr.add] using hcell
  · intro u hu; simp at hu; subst hu; rfl
  · unfold maxLen; omega
  · omega
  · intro v' w' h2 h3 _ h5
    obtain ⟨q, c', rfl⟩ := ownsRow_succ h2
    refine h q c' w' (by unfold OI; simpa [ints] using h2) (keep_grown h3) ?_
    rcases h5 with h5 | h5
    · exact .inl h5.symm
    · right; simpa [Value.ownBlock] using h5
theorem wf_zero {p : Int} {T F : List Int} (h : recB p T F = true) (k : Nat) : wf p T F k 0 = stm p T F k := by
  obtain ⟨_, _, hl, _, _⟩ := recB_true h
  unfold wf
  split
  · rfl
  · obtain rfl : T = [] := List.eq_nil_of_length_eq_zero (by omega)
    obtain rfl : F = [] := List.eq_nil_of_length_eq_zero (by simpa using hl)
    exact (stm_nil p k).symm
/-- the numbers so far, in their box -/
def Nums (w W : World) (Bn Br Bm hi m : Nat) (p : Int) (T F : List Int) (k : Nat) : Prop :=
  ∃ (A5 : Option Addr) (c5 : Nat), Boxed W Bn 23 (.slice A5 k c5) ∧ OI W (Bm + 1) A5 k c5 (trm p T F k) ∧ (∀ g, (Value.slice A5 k c5).ownBlock = some g → g < Br ∨ hi ≤ g) ∧ W.cell? ⟨Bm, 0, none⟩ = some (.int .i64 m) ∧ Below w.heap.size w W ∧ k ≤ m
theorem Nums.keep {w W W' : World} {Bn Br Bm hi m : Nat} {p : Int} {T F : List Int} {k : Nat} (h : Nums w W Bn Br Bm hi m p T F k) (hk : Keep (Within (Br + 1) hi) W W') (h1 : Bn < Br) (h2 : Bm < Br) (h3 : w.heap.size ≤ Br) : Nums w W' Bn Br Bm hi m p T F k := by
  obtain ⟨A5, c5, g1, g2, g3, g4, g5, g6⟩ := h
  exact ⟨A5, c5, (hk.block Bn g1.lt (fun h => by have := h.1; omega)).trans g1, OIk g2 hk (fun g hg hs => by have := g3 g hg; have := hs.1; have := hs.2; omega), g3, hk.cell g4 (fun h => by have := h.1; simp at this; omega), g5.trans (hk.below g5.size (fun q hq => by have := hq.1; omega)), g6⟩
theorem cell_two {W : World} {a : Addr} {v : Value} (h : W.cell? a = some v) (o1 o2 : Obj) : ((W.alloc o1).alloc o2).cell? a = some v := (keep_of_below (((Below.refl _ W).alloc (Nat.le_refl _) o1).alloc (by simp) o2)).cell h (fun h => h)
set_option maxRecDepth 100000 in
set_option maxHeartbeats 2000000 in
theorem implRecTerms (v : Value) (p : Int) (T F : List Int) (x : Int) (w : World) (h : RV w v p T F) :
    Calls Tryd.prog 30 #[v, .int .i64 x] w (MadeI (termsO p T F x).length (termsO p T F x) w) := by
  obtain ⟨A, n, c, b, o, A', n', c', b', o', rfl, g1, g2⟩ := h
  have hB0 : Below w.heap.size w ((w.alloc (.cells #[.int .i64 p, .slice A n c, .slice A' n' c'] 25)).alloc (.cells #[.int .i64 x] 3)) := ((Below.refl _ w).alloc (Nat.le_refl _) _).alloc (by simp) _
  have HV0 := Lib.hid (show RV _ (.agg #[.int .i64 p, .slice A n c, .slice A' n' c']) p T F from ⟨_, _, _, _, _, _, _, _, _, _, rfl, g1.below hB0, g2.below hB0⟩)
  have H := Lib.hid g1
  have H' := Lib.hid g2
  have HB0 := Lib.hid hB0
  clear g1 g2 hB0
  rcases hv : recB p T F
  · have HV := Lib.hid hv
    have HE := Lib.hid (show termsO p T F x = [] by unfold termsO; rw [if_neg (by simp [hv])])
    clear hv
    go_enter Tryd.func30, Tryd.ntmps30
    go_wp2_with (go_at_call 7; refine (implRecValid _ p T F _ HV0.out).mono ?_; rintro e w1 ⟨rfl, hB⟩; rw [HV.out]; have HB := Lib.hid hB; clear hB)
    go_ret
    rw [HE.out]
    exact ⟨none, 0, rfl, World.ownsRow_nil _ _ _ _, below_more HB0.out HB.out⟩
  have HV := Lib.hid hv
  obtain ⟨W0, hW0⟩ : ∃ W0, (w.alloc (.cells #[.int .i64 p, .slice A n c, .slice A' n' c'] 25)).alloc (.cells #[.int .i64 x] 3) = W0 := ⟨_, rfl⟩
  have hs0 : W0.heap.size = w.heap.size + 2 := by rw [← hW0]; simp [go_sem]
  have z0 : W0.cell? ⟨w.heap.size, 0, none⟩ = some (.int .i64 p) := by rw [← hW0]; simp [go_sem]
  have z1 : W0.cell? ⟨w.heap.size, 1, none⟩ = some (.slice A n c) := by rw [← hW0]; simp [go_sem]
  have z2 : W0.cell? ⟨w.heap.size, 2, none⟩ = some (.slice A' n' c') := by rw [← hW0]; simp [go_sem]
  have zm : W0.cell? ⟨w.heap.size + 1, 0, none⟩ = some (.int .i64 x) := by rw [← hW0]; simp [go_sem]
  have Z := Lib.hid (And.intro z0 (And.intro z1 (And.intro z2 zm)))
  rw [hW0] at HV0 HB0
  clear hv
  by_cases hx : 0 ≤ x ∧ x ≤ 24
  case neg =>
    have HE := Lib.hid (show termsO p T F x = [] by unfold termsO; rw [if_neg (by simp only [not_and]; intro _; omega)])
    have hc : (x < 0) ∨ (¬ x < 0 ∧ 24 < x) := by omega
    clear hx
    go_enter Tryd.func30, Tryd.ntmps30
    rcases hc with hc | ⟨hc, hc2⟩
    · go_wp2_with (go_at_call 7; refine (implRecValid _ p T F _ HV0.out).mono ?_; rintro e w1 ⟨rfl, hB⟩; rw [HV.out]; have zm := (keep_of_below hB).cell Z.out.2.2.2 (fun h => h); have HB := Lib.hid hB; clear hB)
      go_ret
      rw [HE.out]
      exact ⟨none, 0, rfl, World.ownsRow_nil _ _ _ _, below_more HB0.out HB.out⟩
    · go_wp2_with (go_at_call 7; refine (implRecValid _ p T F _ HV0.out).mono ?_; rintro e w1 ⟨rfl, hB⟩; rw [HV.out]; have zm := (keep_of_below hB).cell Z.out.2.2.2 (fun h => h); have HB := Lib.hid hB; clear hB)
      go_ret
      rw [HE.out]
      exact ⟨none, 0, rfl, World.ownsRow_nil _ _ _ _, below_more HB0.out HB.out⟩
  obtain ⟨m, rfl⟩ : ∃ m : Nat, x = (m : Int) := ⟨x.toNat, by omega⟩
  have hm : m ≤ 24 := by omega
  have HE := Lib.hid (show termsO p T F (m : Int) = trm p T F m by unfold termsO; rw [if_pos ⟨HV.out, hx⟩]; rfl)
  have hmk : ∀ W : World, (Instr.makeSlice 23 (.int .i64 0) (.int .i64 (m : Int))).run Tryd.prog W = .ok (.slice (some ⟨W.heap.size, 0, none⟩) 0 m) (W.alloc (.cells (madeCells #[.int .i64 0] m) 3)) := by
    intro W
    obtain ⟨i0, hi, hz0, hz1, hz2⟩ := info_parts infoInt
    have hr := run_make (P := Tryd.prog) W 23 3 i0 (.int .i64 0) Tryd.underlying23 hi hz0 .i64 .i64 0 m (Int.le_refl _) (by omega) (by rw [hz2]; omega) (by omega)
    have e1 : madeCells (Value.int IntKind.i64 0).cells m = madeCells #[.int .i64 0] m := rfl
    rw [← e1]
    simpa [hz1] using hr
  refine (callsIn_wide (n := 9)).1 ?_
  refine callsIn_of_wp_marks Tryd.func30 rfl trivial ?_ rfl
  simp only [Tryd.ntmps30, List.size_toArray, List.length_cons, List.length_nil, Nat.reduceAdd, Nat.reduceSub, Array.replicate_succ, Array.replicate_zero, List.push_toArray, List.append_toArray, List.nil_append, List.cons_append]
  refine wpIn_wide.2 ?_
  go_wp2_with (go_at_call 7; refine (implRecValid _ p T F _ HV0.out).mono ?_; rintro e w1 ⟨rfl, hB⟩; rw [HV.out]; have zm := (keep_of_below hB).cell Z.out.2.2.2 (fun h => h); have k0 := (keep_of_below hB).cell Z.out.1 (fun h => h); have k1 := (keep_of_below hB).cell Z.out.2.1 (fun h => h); have k2 := (keep_of_below hB).cell Z.out.2.2.1 (fun h => h); have hsz := hB.size; have q0 := cell_two k0; have q1 := cell_two k1; have q2 := cell_two k2; have HB := Lib.hid hB; clear hB)
  refine (stream_any _ _ _ _).mono ?_
  rintro e w2 ⟨rfl, rfl⟩
  go_wp2_with (fail)
  refine (wpIn_wide (n := 9)).1 ?_
  obtain ⟨Wl, hWl⟩ : ∃ Wl, ((w1.alloc (.cells (madeCells #[.int .i64 0] m) 3)).alloc (.cells #[.slice (some ⟨w1.heap.size, 0, none⟩) 0 m] 23)).alloc (.cells #[.int .i64 p, .slice A n c, .slice A' n' c'] 25) = Wl := ⟨_, rfl⟩
  have hBl : Below w1.heap.size w1 Wl := by rw [← hWl]; exact (((Below.refl _ w1).alloc (Nat.le_refl _) _).alloc (by simp) _).alloc (by simp; omega) _
  have hsl : Wl.heap.size = w1.heap.size + 3 := by rw [← hWl]; simp
  have r0 : Wl.cell? ⟨w1.heap.size + 2, 0, none⟩ = some (.int .i64 p) := by rw [← hWl]; simp [go_sem]
  have r1 : Wl.cell? ⟨w1.heap.size + 2, 1, none⟩ = some (.slice A n c) := by rw [← hWl]; simp [go_sem]
  have r2 : Wl.cell? ⟨w1.heap.size + 2, 2, none⟩ = some (.slice A' n' c') := by rw [← hWl]; simp [go_sem]
  have hB1 : Below w.heap.size w w1 := below_more HB0.out HB.out
  have hBw : Below w.heap.size w Wl := below_more hB1 hBl
  have hbox : Boxed Wl (w1.heap.size + 1) 23 (.slice (some ⟨w1.heap.size, 0, none⟩) 0 m) := by
    rw [← hWl]
    have := (Boxed.new (w1.alloc (.cells (madeCells #[.int .i64 0] m) 3)) 23 (.slice (some ⟨w1.heap.size, 0, none⟩) 0 m)).alloc (.cells #[.int .i64 p, .slice A n c, .slice A' n' c'] 25)
    rwa [World.size_alloc] at this
  have hrow : OI Wl (w.heap.size + 1 + 1) (some ⟨w1.heap.size, 0, none⟩) 0 m [] := by
    have h1 := World.ownsRow_made (base := w.heap.size + 1 + 1) (e := 3) (size := 1) w1 (madeCells #[.int .i64 0] m) m (by omega) (by unfold maxLen; omega) (by simp [madeCells])
    rw [← hWl]
    exact owns_below (owns_below h1 ((Below.refl _ _).alloc (Nat.le_refl _) _)) ((Below.refl _ _).alloc (Nat.le_refl _) _)
  have hzm := (keep_of_below hBl).cell zm (fun h => h)
  have hnn : n' = n := by have h1 := H.out.len; have h2 := H'.out.len; have h3 := (recB_true HV.out).2.2.1; omega
  subst hnn
  have hbt : 0 < n' → b < w.heap.size := fun hn => by obtain ⟨_, _, hc⟩ := H.out.cell 0 hn; exact cell_lt hc
  have hbf : 0 < n' → b' < w.heap.size := fun hn => by obtain ⟨_, _, hc⟩ := H'.out.cell 0 hn; exact cell_lt hc
  have hR2 : BoxR Wl (w1.heap.size + 2) w.heap.size p T F A n' c b o A' c' b' o' := ⟨r0, r1, r2, H.out.below hBw, H'.out.below hBw, hbt, hbf, HV.out⟩
  have hWle : Wl.heap.size = (w1.heap.size + 2) + 1 := hsl
  rw [hWl]
  have hlo : Wl.heap.size = w1.heap.size + 2 + 1 := hsl
  have hn1 : w.heap.size ≤ w1.heap.size := hB1.size
  refine wpIn_endless (n₀ := w.heap.size) (Br := w1.heap.size + 2) (by decide) (gf := 68) (lb := #[.pointer (some ⟨w1.heap.size + 2, 0, none⟩)]) ?hg (enters_of Tryd.func68 (by kernel_rfl) rfl) (enc := fun k => #[.int .i64 k, .int .i64 (wf p T F k 0)]) (fun _ => rfl) (by omega) (by omega)
    (fun W1 hG => stream_endless (w1.heap.size + 2) w.heap.size p T F A n' c b o A' c' b' o' W1 (hR2.kept ⟨hG.os, hG.tape, hG.output, hG.size, fun k hk => hG.block k (by omega) (by simp)⟩ (hG.block _ (by omega) (by simp))) (by have := hG.size; omega) (by have := hG.size; omega)) m (by omega)
    (fun hi k Wc => Nums w Wc (w1.heap.size + 1) (w1.heap.size + 2) (w.heap.size + 1) hi m p T F k)
    (fun cd hi k Wc => cd = .exit 0 ∧ k = m ∧ Nums w Wc (w1.heap.size + 1) (w1.heap.size + 2) (w.heap.size + 1) hi m p T F k)
    (fun hi k a1 Wc => a1 = { tmps := #[.agg #[.int .i64 p, .slice A n' c, .slice A' n' c'], .int .i64 m, .pointer (some ⟨w.heap.size, 0, none⟩), .pointer (some ⟨w.heap.size + 1, 0, none⟩), .slice none 0 0, .pointer (some ⟨w1.heap.size + 1, 0, none⟩), .int .i64 k, .int .i64 (stm p T F k), .agg #[.int .i64 p, .slice A n' c, .slice A' n' c'], .bool true, .bool false, .bool false, .int .i64 m, .bool (decide ((m : Int) < 0)), .bool (decide ((m : Int) < 0)), .bool (decide ((m : Int) < 0)), .int .i64 m, .bool (decide (24 < (m : Int))), .bool (decide ((m : Int) < 0) || decide (24 < (m : Int))), .int .i64 m, .slice (some ⟨w1.heap.size, 0, none⟩) 0 m, .agg #[.int .i64 p, .slice A n' c, .slice A' n' c'], .func (.func 68) #[] #[.pointer (some ⟨w1.heap.size + 2, 0, none⟩)], .int .i64 k, .int .i64 (stm p T F k), undef, undef, undef, undef, undef, undef, undef, undef], defers := [] })
    (fun hi k Wc h => by obtain ⟨_, _, _, _, _, _, _, h⟩ := h; exact h)
    ?hI ?hIx (fun _ _ _ _ _ _ _ h _ => h) ?h0 ?assign ?body ?stop
  case hg => rfl
  case hI =>
    intro hi k Wa Wb h1 h2 h3 hk
    rw [hlo] at hk
    exact h3.keep hk (by omega) (by omega) (by omega)
  case hIx =>
    rintro cd hi k Wa Wb h1 h2 ⟨rfl, h4, h3⟩ hk
    rw [hlo] at hk
    exact ⟨rfl, h4, h3.keep hk (by omega) (by omega) (by omega)⟩
  case h0 =>
    intro hi Wa h1 h2 hg
    refine ⟨_, _, hbox.kept hg (by simp), OIk hrow (keep_grown_none (S := fun _ => False) hg) (fun _ _ h => h), fun g hgg => .inl (by simp [Value.ownBlock] at hgg; omega), hg.cell hzm (by simp), hBw.trans ((grown_below hg).mono hBw.size), by omega⟩
  case assign =>
    intro l2 hi k Wa K h1 h2 h3 hK
    rw [wf_zero HV.out]
    gi_wp2
    exact hK _ _ (World.grownBy.refl _ _) rfl
  case body =>
    rintro l2 hi k a1 Wa h1 h2 ⟨A5, c5, g1, g2, g3, g4, g5, g6⟩ rfl
    have hb1 := g1.cell
    by_cases hkm : k = m
    · subst hkm
      have hq : ((k : Int) == (k : Int)) = true := by simp
      gi_wp2
      exact ⟨⟨rfl, rfl, A5, c5, g1, g2, g3, g4, g5, g6⟩, fun _ _ => rfl⟩
    · have hq : ((k : Int) == (m : Int)) = false := by rw [beq_eq_false_iff_ne]; omega
      have hzW := g5.size
      have hnr : some (w1.heap.size + 1) ≠ (Value.slice A5 k c5).ownBlock := g1.not_row (by decide) g2
      have hBal : Below Wa.heap.size Wa (Wa.alloc (.cells #[.int .i64 (stm p T F k)] 3)) := (Below.refl _ Wa).alloc (Nat.le_refl _) _
      have HOA := Lib.hid (OIb g2 hBal)
      have HNC := Lib.hid (show (Wa.alloc (.cells #[.int .i64 (stm p T F k)] 3)).cell? ⟨Wa.heap.size, 0, none⟩ = some (.int .i64 (stm p T F k)) by simp [go_sem])
      have HG1 := Lib.hid (g1.alloc (.cells #[.int .i64 (stm p T F k)] 3))
      have HG2 := Lib.hid g2
      have HG4 := Lib.hid g4
      have HG5 := Lib.hid g5
      clear g2 g5
      gi_wp2_with (gi_at_builtin; refine wpListIn_app_int rfl (.tmp 28) (.tmp 30) rfl (w.heap.size + 1 + 1) A5 k c5 (trm p T F k) rfl HOA.out (stm p T F k) Wa.heap.size 1 rfl HNC.out (by omega) (by simp; omega) ?_; intro q c6 W6 hO6 hK6 hq6; have hb6 : Boxed W6 (w1.heap.size + 1) 23 (.slice A5 k c5) := ((hK6.block (w1.heap.size + 1) HG1.out.lt (fun h => hnr h.symm)).trans HG1.out); have hb7 := hb6.cell; have hb8 := hb6.frozen; have HO6 := Lib.hid hO6; have HK6 := Lib.hid hK6; have HQ6 := Lib.hid hq6; clear hO6 hK6 hq6)
      have hkA : Keep (fun g => (Value.slice A5 k c5).ownBlock = some g) Wa W6 := (keep_of_below hBal |>.mono (fun _ _ h => h.elim)).trans HK6.out
      have hne6 : some (w1.heap.size + 1) ≠ (Value.slice (some ⟨q, 0, none⟩) (k + 1) c6).ownBlock := hb6.not_row (by decide) HO6.out
      have hsc := setCell_keep W6 ⟨w1.heap.size + 1, 0, none⟩ (.slice (some ⟨q, 0, none⟩) (k + 1) c6)
      have hq7 : q < w1.heap.size + 2 ∨ hi ≤ q := by
        rcases HQ6.out with h | h
        · exact g3 q h
        · right; rw [h]; simp; omega
      have hall : Keep (fun g => (Value.slice A5 k c5).ownBlock = some g ∨ g = w1.heap.size + 1) Wa (W6.setCell ⟨w1.heap.size + 1, 0, none⟩ (.slice (some ⟨q, 0, none⟩) (k + 1) c6)) := (hkA.mono (fun _ _ h => .inl h)).trans (hsc.mono (fun _ _ h => .inr h))
      have hst := trm_step p T F k
      refine ⟨⟨some ⟨q, 0, none⟩, c6, hb6.set _, ?_, ?_, ?_, ?_, by omega⟩, ?_, ?_, ?_⟩
      · rw [hst]
        exact OIk HO6.out hsc (fun g hg hs => hne6 (by rw [hg]; exact congrArg some hs.symm))
      · intro g hg
        simp only [Value.ownBlock, Option.some.injEq] at hg
        omega
      · exact hall.cell HG4.out (fun h => by
          rcases h with h | h
          · have h2 := (HG2.out.lt _ h).1
            have h3 : w.heap.size + 1 + 1 ≤ w.heap.size + 1 := h2
            omega
          · simp at h; omega)
      · exact HG5.out.trans (hall.below hzW (fun g hg => by
          rcases hg with h | h
          · have := (HG2.out.lt g h).1; omega
          · omega))
      · exact hall.below hzW (fun g hg => by
          rcases hg with h | h
          · have := (HG2.out.lt g h).1; omega
          · omega)
      · exact hall.block (w1.heap.size + 2) (by omega) (fun h => by
          rcases h with h | h
          · have := g3 _ h; omega
          · omega)
      · intro g hg
        have e1 := hg.1
        have e2 := hg.2
        exact hall.block g (by omega) (fun h => by
          rcases h with h | h
          · have := g3 _ h; omega
          · omega)
  case stop =>
    rintro D cd hi k Wa h1 h2 h3 ⟨rfl, hkm, A5, c5, g1, g2, g3, g4, g5, g6⟩ hD
    subst hkm
    have hb1 := g1.cell
    have HG2 := Lib.hid g2
    have HG5 := Lib.hid g5
    clear g2 g5
    gi_wp2
    go_wp2_with (fail)
    refine ⟨by simp, .inl ⟨_, _, rfl, run_takeDeferred hD, ?_⟩⟩
    refine ⟨.slice A5 k c5, ?_, A5, c5, by rw [HE.out, trm_len], ?_, ?_⟩
    · simp [results, Tryd.f30, go_sem]
    · rw [HE.out, trm_len]
      exact owns_mono (OIk HG2.out (keep_putObj (S := fun g => g = D) Wa _ rfl) (fun g hg hs => by have := g3 g hg; omega)) (by omega)
    · exact HG5.out.trans ((keep_putObj (S := fun g => g = D) Wa (.deferred none) rfl).below (HG5.out.size) (fun g hg => by omega))
end Go.Proofs.YtecmclaockmgeaaDoor
namespace Go.Proofs.YtecmclaockmgeaaDoor
open Go.RowKit
theorem oi_empty (w : World) (B : Nat) (hB : B ≤ w.heap.size) : OI (w.alloc (.cells #[] 3)) B (some ⟨w.heap.size, 0, none⟩) 0 0 [] :=
  World.ownsRow_made (base := B) (e := 3) (size := 1) w #[] 0 hB (by unfold maxLen; omega) (by simp)
end Go.Proofs.YtecmclaockmgeaaDoor
namespace Go.Proofs.YtecmclaockmgeaaDoor
open Go.RowKit
/-- the numbers' negatives, the last one first -/
def negB (p : Int) (xs : List Int) : List Int := xs.reverse.map fun x => (p - x) % p
theorem negB_len (p : Int) (xs : List Int) : (negB p xs).length = xs.length := by simp [negB]
theorem negB_get {p : Int} {xs : List Int} {k m : Nat} {x : Int} (hx : xs[k]? = some x) (h : m + k + 1 = xs.length) : (negB p xs)[m]? = some ((p - x) % p) := by
  unfold negB
  rw [List.getElem?_map, List.getElem?_reverse (by omega), show xs.length - 1 - m = k by omega, hx]
  rfl
theorem recP_eq (p : Int) (T : List Int) : recP p T = negB p T ++ [1] := rfl
theorem unP_eq (p : Int) (f : List Int) : unP p f = negB p (f.take (f.length - 1)) := rfl
theorem back_set {G : List Int} {m : Nat} {g : Int} (hg : G[m]? = some g) : (List.replicate (m + 1) (0 : Int) ++ G.drop (m + 1)).set m g = List.replicate m 0 ++ G.drop m := by
  have hm := (List.getElem?_eq_some_iff.1 hg).1
  rw [List.set_append_left _ _ (by simp), List.drop_eq_getElem_cons hm, (List.getElem?_eq_some_iff.1 hg).2]
  rw [List.replicate_succ', List.set_append_right _ _ (by simp)]
  simp
def polyO (p : Int) (T F : List Int) : List Int := if recB p T F = true then recP p T else []
theorem polyO_len (p : Int) (T F : List Int) : (polyO p T F).length ≤ 1048576 := by
  unfold polyO
  split
  · rename_i h
    rw [recP_len]
    have := (recB_true h).2.1
    omega
  · simp
end Go.Proofs.YtecmclaockmgeaaDoor
namespace Go.Proofs.YtecmclaockmgeaaDoor
open Go.RowKit
theorem run_app_any (w : World) (B : Nat) (g n c : Nat) (xs : List Int) (hown : OI w B (some ⟨g, 0, none⟩) n c xs) (A2 : Option Addr) (m c2 b2 o2 : Nat) (ys : List Int) (h2 : IA w A2 m b2 o2 ys) (hA : A2 = none → m = 0) (hn : n + m ≤ 1000000000) (hB : B ≤ w.heap.size) :
    ∃ (A' : Option Addr) (c' : Nat) (w' : World), (Builtin.append_ #[23, 23] 23 #[.slice (some ⟨g, 0, none⟩) n c, .slice A2 m c2]).run Tryd.prog w = .ok (.slice A' (n + m) c') w' ∧ OI w' B A' (n + m) c' (xs ++ ys) ∧ w.grownBy w' (some g) := by
  obtain ⟨i0, hi, hz0, hz1, hz2⟩ := info_parts infoInt
  by_cases hm : m = 0
  · subst hm
    obtain rfl : ys = [] := List.eq_nil_of_length_eq_zero h2.len
    have hcap : n ≤ c := OI.capLe hown
    have hsrc : Src Tryd.prog i0.size 23 (.slice A2 0 c2) 0 [] w := by
      cases A2 with
      | none => exact Src.ofNil w Tryd.underlying23 c2
      | some a => exact Src.ofSlice w Tryd.underlying23 a 0 c2 [] (by simp) (fun j u h => by simp at h) (fun u h => by cases h)
    have hr := run_append_room_src (P := Tryd.prog) w 23 23 23 3 i0 Tryd.underlying23 hi g 0 n c (.slice A2 0 c2) 0 [] hsrc (by omega) (fun j h => by simp at h) (fun j h => by simp at h)
    refine ⟨_, _, _, hr, ?_, World.grownBy.refl _ _⟩
    rw [List.append_nil]; exact hown
  · obtain rfl := h2.adr (by omega)
    obtain ⟨v', w', hr, h3, h4, _⟩ := run_append_own (P := Tryd.prog) w B 23 23 3 i0 (.int .i64 0) 1 8 Tryd.underlying23 hi hz0 hz1 hz2 rfl (by decide) _ n (ints xs) hown ⟨b2, o2, none⟩ m c2 (ints ys) (by rw [ints_len, h2.len]; omega) h2.src (ints_one ys) (by unfold maxLen; omega) (by omega) hB
    obtain ⟨A', c', rfl⟩ := owns_shape h3
    refine ⟨A', c', w', hr, ?_, h4⟩
    unfold OI
    simpa [ints] using h3
theorem step_app_any {ops : Array Oper} {o : Oper} {a : Act} {w : World} {K : Act → World → Prop} {Q : Exit → Act → World → Prop} {E : Prop} (hg : o.guard = none) (s x : Operand)
    (ho : o.op = .call { callee := .builtin .append, args := #[s, x], argTypes := #[23, 23] }) (hty : o.type = 23)
    (B g n c : Nat) (xs : List Int) (hs : a.eval s = .slice (some ⟨g, 0, none⟩) n c) (hown : OI w B (some ⟨g, 0, none⟩) n c xs) (A2 : Option Addr) (m c2 b2 o2 : Nat) (ys : List Int) (hx : a.eval x = .slice A2 m c2) (h2 : IA w A2 m b2 o2 ys) (hA : A2 = none → m = 0)
    (hn : n + m ≤ 1000000000) (hB : B ≤ w.heap.size)
    (h : ∀ (A' : Option Addr) (c' : Nat) (w' : World), OI w' B A' (n + m) c' (xs ++ ys) → w.grownBy w' (some g) → K (a.put o.dst (.slice A' (n + m) c')) w') :
    if Region.wanted o (yielded ops a.tmps) = true then Oper.wp Tryd.prog o a w K Q else E := by
  have hw : Region.wanted o (yielded ops a.tmps) = true := by simp [Region.wanted, hg]
  rw [if_pos hw]
  obtain ⟨A', c', w', hr, h3, h4⟩ := run_app_any w B g n c xs hown A2 m c2 b2 o2 ys h2 hA hn hB
  unfold Oper.wp execOp
  simp only [ho, hty, resolve, invoke, builtin, Sem.run_bind, Sem.run_pure, Result.andThen_ok, List.map_toArray, List.map_cons, List.map_nil, hs, hx, hr]
  exact h A' c' w' h3 h4
theorem wpList_app_rowI {ops : Array Oper} {rest : List Oper} {o : Oper} {a : Act} {Q : Exit → Act → World → Prop} {w : World} (hgd : o.guard = none) (s x : Operand)
    (ho : o.op = .call { callee := .builtin .append, args := #[s, x], argTypes := #[23, 23] }) (hty : o.type = 23)
    (B g n c : Nat) (xs : List Int) (hs : a.eval s = .slice (some ⟨g, 0, none⟩) n c) (hown : OI w B (some ⟨g, 0, none⟩) n c xs) (A2 : Option Addr) (m c2 b2 o2 : Nat) (ys : List Int) (hx : a.eval x = .slice A2 m c2) (h2 : IA w A2 m b2 o2 ys) (hA : A2 = none → m = 0)
    (hn : n + m ≤ 1000000000) (hB : B ≤ w.heap.size)
    (h : ∀ (A' : Option Addr) (c' : Nat) (w' : World), OI w' B A' (n + m) c' (xs ++ ys) → w.grownBy w' (some g) → wpList Tryd.prog ops Q rest (a.put o.dst (.slice A' (n + m) c')) w') :
    wpList Tryd.prog ops Q (o :: rest) a w := by
  refine wpList_plain hgd fun K hK => ?_
  obtain ⟨A', c', w', hr, h3, h4⟩ := run_app_any w B g n c xs hown A2 m c2 b2 o2 ys h2 hA hn hB
  unfold Oper.wp execOp
  simp only [ho, hty, resolve, invoke, builtin, Sem.run_bind, Sem.run_pure, Result.andThen_ok, List.map_toArray, List.map_cons, List.map_nil, hs, hx, hr]
  exact hK _ _ (h A' c' w' h3 h4)
end Go.Proofs.YtecmclaockmgeaaDoor
namespace Go.Proofs.YtecmclaockmgeaaDoor
open Go.RowKit
theorem oi_some {w : World} {B n c : Nat} {A : Option Addr} {xs : List Int} (h : OI w B A n c xs) (hn : 0 < n) : ∃ g, A = some ⟨g, 0, none⟩ := by
  rcases h.adr with ⟨_, h0, _⟩ | ⟨g, h1, _⟩
  · omega
  · exact ⟨g, h1⟩
/-- the box of a recurrence, and the numbers so far -/
structure HoldR (w wr : World) (v0 v1 v2 : Value) : Prop where
  bel : Below w.heap.size w wr
  c0 : wr.cell? ⟨w.heap.size, 0, none⟩ = some v0
  c1 : wr.cell? ⟨w.heap.size, 1, none⟩ = some v1
  c2 : wr.cell? ⟨w.heap.size, 2, none⟩ = some v2
theorem HoldR.lt {w wr : World} {v0 v1 v2 : Value} (h : HoldR w wr v0 v1 v2) : w.heap.size < wr.heap.size := cell_lt h.c0
theorem HoldR.below {w w1 w2 : World} {v0 v1 v2 : Value} (h : HoldR w w1 v0 v1 v2) (k : Below w1.heap.size w1 w2) : HoldR w w2 v0 v1 v2 :=
  ⟨below_more h.bel k, (keep_of_below k).cell h.c0 (fun h => h), (keep_of_below k).cell h.c1 (fun h => h), (keep_of_below k).cell h.c2 (fun h => h)⟩
theorem HoldR.grown {w w1 w2 : World} {v0 v1 v2 : Value} {row : Option Nat} (h : HoldR w w1 v0 v1 v2) (k : w1.grownBy w2 row) (hr : ∀ g, row = some g → w.heap.size < g) : HoldR w w2 v0 v1 v2 := by
  have hk := keep_grown k
  have hn : ¬ row = some w.heap.size := fun e => by have := hr _ e; omega
  exact ⟨h.bel.grown k h.bel.size (fun g hg => by have := hr g hg; omega), hk.cell h.c0 hn, hk.cell h.c1 hn, hk.cell h.c2 hn⟩
theorem HoldR.start (w : World) (v0 v1 v2 : Value) (t : TypeId) : HoldR w (w.alloc (.cells #[v0, v1, v2] t)) v0 v1 v2 := by
  obtain ⟨h0, h1, h2⟩ := box3 w v0 v1 v2 t
  exact ⟨(Below.refl _ _).alloc (Nat.le_refl _) _, h0, h1, h2⟩
theorem HoldR.drew {w wr : World} {v0 v1 v2 : Value} (h : HoldR w wr v0 v1 v2) : HoldR w wr.drew v0 v1 v2 := ⟨h.bel.drew, h.c0, h.c1, h.c2⟩
theorem below_undrewI {B : Nat} {w w' : World} (h : Below B w.drew w') : Below B w w' := ⟨h.os, h.tape, h.output, h.size, h.block⟩
theorem IA.freshI {w : World} (x : Int) : IA (w.alloc (.cells #[.int .i64 x] 3)) (some ⟨w.heap.size, 0, none⟩) 1 w.heap.size 0 [x] := by
  refine ⟨rfl, fun _ => rfl, by omega, fun i hi => ?_⟩
  obtain rfl : i = 0 := by omega
  exact ⟨x, rfl, by simp⟩
end Go.Proofs.YtecmclaockmgeaaDoor
namespace Go.Proofs.YtecmclaockmgeaaDoor
open Go.RowKit
theorem mixI_set {xs ys : List Int} {k : Nat} {y : Int} (hl : ys.length = xs.length) (hy : ys[k]? = some y) : (ys.take k ++ xs.drop k).set k y = ys.take (k + 1) ++ xs.drop (k + 1) := set_step ys xs k y hl hy
def RowPostI (B n c : Nat) (A : Option Addr) (ys : List Int) (w : World) (e : Ending) (w' : World) : Prop :=
  e = .returned (.tuple #[]) ∧ OI w' B A n c ys ∧ Keep (fun g => (Value.slice A n c).ownBlock = some g) w w'
theorem scaleI_get {p t : Int} {row : List Int} {k : Nat} {x : Int} (h : row[k]? = some x) : (scaleRow p t row)[k]? = some (x * t % p) := by simp [scaleRow, h]
theorem multiplyI_any (p t : Int) (B : Nat) (A : Option Addr) (n c : Nat) (xs : List Int) (w : World) (h : OI w B A n c xs) (ht : numB p t = true) (hx : ∀ x ∈ xs, numB p x = true) (hn : n ≤ 1000) :
    Calls Tryd.prog 47 #[.int .i64 p, .slice A n c, .int .i64 t] w (RowPostI B n c A (scaleRow p t xs) w) := by
  have htb := numB_bd ht
  have hlen := h.len
  have hadr := h.adr
  have H := Lib.hid h
  have HX := Lib.hid hx
  have HL := Lib.hid hlen
  have HA := Lib.hid hadr
  clear h hlen hadr hx ht
  go_enter Tryd.func47, Tryd.ntmps47
  go_wp2_with (fail)
  go_loopw [9] (fun i wr => ∃ j : Nat, j ≤ n ∧ i = .int .i64 j ∧ OI wr B A n c ((scaleRow p t xs).take j ++ xs.drop j) ∧ Keep (fun g => (Value.slice A n c).ownBlock = some g) w wr) (fun i _ => n - (intOf i).toNat)
  case atStart => exact ⟨0, by omega, rfl, by simpa using H.out, Keep.refl _ _⟩
  case round =>
    obtain ⟨j, hj, rfl, hown, hkeep⟩ := hrel
    by_cases hlt : j < n
    · obtain ⟨g, hg, hBg⟩ : ∃ g, A = some ⟨g, 0, none⟩ ∧ B ≤ g := by
        rcases HA.out with ⟨_, h0, _⟩ | ⟨g, h1, h2, _⟩
        · omega
        · exact ⟨g, h1, h2⟩
      subst hg
      have hl := HL.out
      have hxj : xs[j]? = some (xs[j]'(by omega)) := List.getElem?_eq_getElem (by omega)
      obtain ⟨x, hxx⟩ : ∃ x, xs[j]'(by omega) = x := ⟨_, rfl⟩
      rw [hxx] at hxj
      have hxb := numB_bd (HX.out x (List.mem_of_getElem? hxj))
      have hm := mul_bd hxb.1 (by omega) htb.1 (by omega)
      have hcell := World.ownsRow.cellAt hown j (by omega)
      have hmx : (ints ((scaleRow p t xs).take j ++ xs.drop j))[j]? = some (.int .i64 x) := by
        unfold ints; rw [List.getElem?_map, mix_get _ _ _ (scaleRow_len p t xs) (by rw [scaleRow_len]; omega), hxj]; rfl
      rw [hmx] at hcell
      have hfr := World.ownsRow.frozenAt hown j
      have hst := World.ownsRow.stored hown j (.int .i64 (x * t % p))
      rw [ints_set, mixI_set (scaleRow_len p t xs) (scaleI_get hxj)] at hst
      have HO := Lib.hid hst.1
      have HK := Lib.hid (hkeep.trans ((setCell_keep wr ⟨g, j, none⟩ (.int .i64 (x * t % p))).mono (fun q _ hq => by rw [hq]; rfl)))
      clear hmx hst hown hkeep hl hxj hxx
      go_wp2_with (fail)
      go_roundw
      case rel => exact ⟨j + 1, by omega, by go_num, HO.out, HK.out⟩
      case measure => simp [intOf]; omega
    · obtain rfl : j = n := by omega
      have e : (scaleRow p t xs).take j ++ xs.drop j = scaleRow p t xs := by
        rw [List.take_of_length_le (by rw [scaleRow_len, HL.out]; omega), List.drop_of_length_le (by rw [HL.out]; omega)]; simp
      rw [e] at hown
      have HO := Lib.hid hown
      clear e hown
      go_wp2_with (fail)
      go_end0
      exact ⟨rfl, HO.out, hkeep⟩
theorem nilI1 (A : Addr) (n c : Nat) : ∀ w, (binOp BinOp.eql 23 (Value.slice (some A) n c) (Value.slice none 0 0)).run Tryd.prog w = .ok (.bool false) w := by
  intro w
  first | kernel_rfl | rfl
theorem nilI0 (n c : Nat) : ∀ w, (binOp BinOp.eql 23 (Value.slice none n c) (Value.slice none 0 0)).run Tryd.prog w = .ok (.bool true) w := by
  intro w
  first | kernel_rfl | rfl
theorem cloneI_any (A : Option Addr) (n c b o : Nat) (xs : List Int) (w : World) (h : IA w A n b o xs) (hn : n ≤ 1000000) :
    Calls Tryd.prog 51 #[.slice A n c] w (MadeI n xs w) := by
  have HL := Lib.hid h.len
  have H := Lib.hid h
  cases A with
  | none =>
    have h0 : n = 0 := by
      by_cases h0 : n = 0
      · exact h0
      · have := h.adr (by omega); cases this
    clear h
    subst h0
    have HX := Lib.hid (List.eq_nil_of_length_eq_zero HL.out)
    have hq := nilI0 0 c
    go_enter Tryd.func51, Tryd.ntmps51
    go_wp2_with (fail)
    go_ret
    rw [HX.out]
    exact ⟨none, 0, rfl, World.ownsRow_nil _ _ _ _, Below.refl _ _⟩
  | some a =>
    clear h
    have hq := nilI1 a n c
    go_enter Tryd.func51, Tryd.ntmps51
    go_wp2_with (at_builtin; refine wpList_app_rowI rfl (.tmp 5) (.tmp 6) rfl rfl w.heap.size w.heap.size 0 0 [] rfl (oi_empty w _ (Nat.le_refl _)) (some a) n c b o xs rfl (H.out.below ((Below.refl _ _).alloc (Nat.le_refl _) _)) (by simp) (by omega) (by simp) ?_)
    intro A' c' w' h2 h3
    have HO := Lib.hid h2
    have HB := Lib.hid (((Below.refl w.heap.size w).alloc (Nat.le_refl _) (.cells #[] 3)).grown h3 (by simp) (by intro k hk; simp at hk; omega))
    clear h2 h3
    go_wp2_with (fail)
    go_ret
    exact ⟨A', c', rfl, HO.out, HB.out⟩
def timesO (p : Int) (T F : List Int) (t : Int) : Int × List Int × List Int := if recB p T F = true ∧ numB p t = true then (p, T, scaleRow p t F) else (0, [], [])
theorem timesO_len (p : Int) (T F : List Int) (t : Int) : (timesO p T F t).2.1.length ≤ 1048576 ∧ (timesO p T F t).2.2.length ≤ 1048576 := by
  unfold timesO
  split
  · rename_i h
    obtain ⟨_, h6, hl, _, _⟩ := recB_true h.1
    simp only [scaleRow_len]
    omega
  · simp
end Go.Proofs.YtecmclaockmgeaaDoor
namespace Go.Proofs.YtecmclaockmgeaaDoor
open Go.RowKit
def tabOk (p : Int) (s : List Int) (r q : Int) : Bool := serB p s && (inB r 1 8 && (inB q 1 8 && decide (r + q - 1 ≤ (s.length : Int))))
def winL (s : List Int) (Q k : Nat) : List Int := (s.drop k).take Q
def tabL (s : List Int) (R Q : Nat) : List (List Int) := (List.range R).map (winL s Q)
def tabR (p : Int) (s : List Int) (r q : Int) : List (List Int) := if tabOk p s r q = true then tabL s r.toNat q.toNat else []
theorem tabL_len (s : List Int) (R Q : Nat) : (tabL s R Q).length = R := by simp [tabL]
theorem tabL_get (s : List Int) {R Q k : Nat} (h : k < R) : (tabL s R Q)[k]? = some (winL s Q k) := by unfold tabL; rw [List.getElem?_map, List.getElem?_range h]; rfl
theorem winL_len {s : List Int} {Q k : Nat} (h : k + Q ≤ s.length) : (winL s Q k).length = Q := by unfold winL; rw [List.length_take, List.length_drop]; omega
theorem IA.win {w : World} {A : Option Addr} {n b o : Nat} {xs : List Int} (h : IA w A n b o xs) {k m : Nat} (hk : k + m ≤ n) : IA w (some ⟨b, o + k, none⟩) m b (o + k) (winL xs m k) := by
  refine ⟨winL_len (by rw [h.len]; exact hk), fun _ => rfl, by have := h.big; omega, fun i hi => ?_⟩
  obtain ⟨x, hx, hc⟩ := h.cell (k + i) (by omega)
  refine ⟨x, ?_, by rw [Nat.add_assoc]; exact hc⟩
  unfold winL
  rw [List.getElem?_take_of_lt hi, List.getElem?_drop]
  exact hx
theorem tabOk_true {p : Int} {s : List Int} {r q : Int} (h : tabOk p s r q = true) : serB p s = true ∧ ∃ R Q : Nat, r = R ∧ q = Q ∧ 1 ≤ R ∧ R ≤ 8 ∧ 1 ≤ Q ∧ Q ≤ 8 ∧ R + Q - 1 ≤ s.length := by
  unfold tabOk inB at h
  simp only [Bool.and_eq_true, decide_eq_true_eq] at h
  obtain ⟨h1, ⟨h2, h3⟩, ⟨h4, h5⟩, h6⟩ := h
  exact ⟨h1, r.toNat, q.toNat, by omega, by omega, by omega, by omega, by omega, by omega, by omega⟩
theorem tabOk_false {p : Int} {s : List Int} {r q : Int} (h : tabOk p s r q = false) : serB p s = false ∨ (serB p s = true ∧ (r < 1 ∨ (¬ r < 1 ∧ (8 < r ∨ (¬ 8 < r ∧ (q < 1 ∨ (¬ q < 1 ∧ (8 < q ∨ (¬ 8 < q ∧ (s.length : Int) < r + q - 1))))))))) := by
  cases hs : serB p s
  · exact .inl rfl
  right
  refine ⟨rfl, ?_⟩
  unfold tabOk inB at h
  rw [hs] at h
  simp only [Bool.true_and, Bool.and_eq_false_iff, decide_eq_false_iff_not] at h
  omega
theorem tabR_bd (p : Int) (s : List Int) (r q : Int) : tot (tabR p s r q) ≤ 1048576 := by
  rcases h : tabOk p s r q
  · unfold tabR; rw [if_neg (by simp [h])]; decide
  obtain ⟨_, R, Q, rfl, rfl, h1, h2, h3, h4, h5⟩ := tabOk_true h
  unfold tabR; rw [if_pos h]
  simp only [Int.toNat_natCast]
  have h6 := tot_rows (tabL s R Q) 8 (fun row hr => by
    obtain ⟨k, hk, rfl⟩ := List.mem_map.1 hr
    unfold winL; rw [List.length_take]; omega)
  rw [tabL_len] at h6
  omega
set_option maxRecDepth 100000 in
set_option maxHeartbeats 4000000 in
theorem implTableOf (p : Int) (A : Option Addr) (n c b o : Nat) (s : List Int) (r q : Int) (w : World) (h : IA w A n b o s) (hcp : n ≤ c) :
    Calls Tryd.prog 29 #[.int .i64 p, .slice A n c, .int .i64 r, .int .i64 q] w (MadeM (tabR p s r q).length (tabR p s r q) w) := by
  have hbig := h.big
  have hlen := h.len
  have H := Lib.hid h
  rcases hv : tabOk p s r q
  · have HE := Lib.hid (show tabR p s r q = [] by unfold tabR; rw [if_neg (by simp [hv])])
    have hc := tabOk_false hv
    rw [hlen] at hc
    clear h hv hlen
    rcases hc with hc | ⟨hs, hc⟩
    · have HV := Lib.hid hc
      clear hc
      go_enter Tryd.func29, Tryd.ntmps29
      go_wp2_with (go_at_call 50; refine (implSeriesValidB p A n c b o s _ H.out).mono ?_; rintro e w1 ⟨rfl, hB⟩; rw [HV.out]; have HB1 := Lib.hid hB; clear hB)
      go_ret
      rw [HE.out]
      exact ⟨none, 0, [], rfl, OM.none _ _, HB1.out⟩
    have HV := Lib.hid hs
    clear hs
    rcases hc with hc | ⟨h1, hc | ⟨h2, hc | ⟨h3, hc | ⟨h4, hc⟩⟩⟩⟩
    case inr.inr.inr.inr =>
      have hw1 : IntKind.i64.wrap (r + q) = r + q := IntWalk.i64_in _ ⟨by omega, by omega⟩
      have hw2 : IntKind.i64.wrap (r + q - 1) = r + q - 1 := IntWalk.i64_in _ ⟨by omega, by omega⟩
      go_enter Tryd.func29, Tryd.ntmps29
      go_wp2_with (go_at_call 50; refine (implSeriesValidB p A n c b o s _ H.out).mono ?_; rintro e w1 ⟨rfl, hB⟩; rw [HV.out]; have HB1 := Lib.hid hB; clear hB)
      go_ret
      rw [HE.out]
      exact ⟨none, 0, [], rfl, OM.none _ _, HB1.out⟩
    all_goals
      go_enter Tryd.func29, Tryd.ntmps29
      go_wp2_with (go_at_call 50; refine (implSeriesValidB p A n c b o s _ H.out).mono ?_; rintro e w1 ⟨rfl, hB⟩; rw [HV.out]; have HB1 := Lib.hid hB; clear hB)
      go_ret
      rw [HE.out]
      exact ⟨none, 0, [], rfl, OM.none _ _, HB1.out⟩
  obtain ⟨hs, R, Q, rfl, rfl, r1, r8, q1, q8, hrq⟩ := tabOk_true hv
  rw [hlen] at hrq
  have HV := Lib.hid hs
  have HE := Lib.hid (show tabR p s (R : Int) (Q : Int) = tabL s R Q by unfold tabR; rw [if_pos hv]; rfl)
  obtain ⟨T, hT⟩ : ∃ T, tabL s R Q = T := ⟨_, rfl⟩
  have HT := Lib.hid hT
  have HTL := Lib.hid (show T.length = R by rw [← hT, tabL_len])
  have HTG := Lib.hid (show ∀ k, k < R → T[k]? = some (winL s Q k) from fun k hk => by rw [← hT, tabL_get s hk])
  have HSL := Lib.hid hlen
  obtain rfl := h.adr (by omega)
  have hw1 : IntKind.i64.wrap ((R : Int) + Q) = (R : Int) + Q := IntWalk.i64_in _ ⟨by omega, by omega⟩
  have hw2 : IntKind.i64.wrap ((R : Int) + Q - 1) = (R : Int) + Q - 1 := IntWalk.i64_in _ ⟨by omega, by omega⟩
  have hmk := run_make_row' (P := Tryd.prog) 36 23 (.slice none 0 0) 24 Tryd.underlying36 infoInts rfl .i64 .i64 R (by omega) (by omega)
  clear h hs hv hT hlen
  go_enter Tryd.func29, Tryd.ntmps29
  go_wp2_with (go_at_call 50; refine (implSeriesValidB p _ n c b o s _ H.out).mono ?_; rintro e w1 ⟨rfl, hB⟩; rw [HV.out]; have HB1 := Lib.hid hB; clear hB)
  go_loopw [44] (fun i wr => ∃ (k : Nat) (vs : List Value), k ≤ R ∧ i = .int .i64 k ∧ Half wr w1.heap.size R k T vs ∧ Below w1.heap.size w1 wr) (fun i _ => R - (intOf i).toNat)
  case atStart => exact ⟨0, [], by omega, rfl, Half.start w1 R T (by omega), (Below.refl _ _).alloc (Nat.le_refl _) _⟩
  case round =>
    obtain ⟨k, vs, hk, rfl, hown, hbel⟩ := hrel
    by_cases hlt : k < R
    · have HI := Lib.hid ((((H.out.below HB1.out)).below hbel).win (k := k) (m := Q) (by omega))
      have HO := Lib.hid hown
      have HB := Lib.hid hbel
      have HRR := Lib.hid (HTG.out k hlt)
      have hwl := winL_len (s := s) (Q := Q) (k := k) (by rw [HSL.out]; omega)
      have HWL := Lib.hid hwl
      have hkq : IntKind.i64.wrap ((k : Int) + Q) = (k : Int) + Q := IntWalk.i64_in _ ⟨by omega, by omega⟩
      have hkc : k + Q ≤ c := by omega
      clear hown hbel hwl
      go_wp2_with (fail)
      refine (cloneI_any (some ⟨b, o + k, none⟩) Q (c - k) b (o + k) (winL s Q k) _ HI.out (by omega)).mono ?_
      rintro e w2 ⟨A2, c2, rfl, hI2, hB2⟩
      have hI2' : OI w2 wr.heap.size A2 (winL s Q k).length c2 (winL s Q k) := by rw [HWL.out]; exact hI2
      obtain ⟨hst, hgr⟩ := HO.out.step hlt HTL.out hB2 HRR.out hI2'
      rw [HWL.out] at hst
      have ho := owns_below HO.out.out hB2
      have hcell := World.ownsRow.cellAt ho k (by omega)
      have hfr := World.ownsRow.frozenAt ho k
      obtain ⟨v0, hv0⟩ : ∃ v0, w2.cell? ⟨w1.heap.size, k, none⟩ = some v0 := by
        rw [hcell]; exact ⟨_, List.getElem?_eq_getElem (by have := HO.out.vlen; simp; omega)⟩
      have hs0 := HB.out.size
      have HS := Lib.hid hst
      have HB2 := Lib.hid (HB.out.trans (hB2.mono hs0))
      clear hcell ho hst hgr hB2 hI2 hI2'
      go_wp2_with (fail)
      go_roundw
      case rel => exact ⟨k + 1, _, by omega, by go_num, HS.out, HB2.out.setCell (Nat.le_refl _) _⟩
      case measure => simp [intOf]; omega
    · obtain rfl : k = R := by omega
      have HO := Lib.hid (hown.done HTL.out)
      have HB := Lib.hid hbel
      clear hown hbel
      go_wp2_with (fail)
      go_ret
      rw [HE.out, HT.out, HTL.out]
      exact ⟨_, _, _, rfl, HO.out.mono HB1.out.size, below_more HB1.out HB.out⟩
set_option maxRecDepth 100000 in
set_option maxHeartbeats 4000000 in
theorem specTableOf (p : Int) (A : Option Addr) (n c b o : Nat) (s : List Int) (r q : Int) (w : World) (h : IA w A n b o s) (hcp : n ≤ c) :
    Calls Tryd.prog 16 #[.int .i64 p, .slice A n c, .int .i64 r, .int .i64 q] w (MadeM (tabR p s r q).length (tabR p s r q) w) := by
  have hbig := h.big
  have hlen := h.len
  have HB0 := Lib.hid ((Below.refl w.heap.size w).alloc (Nat.le_refl _) (.cells #[] 23))
  have H := Lib.hid (h.below HB0.out)
  have H0 := Lib.hid h
  obtain ⟨ir, hir⟩ : ∃ i, inB r 1 8 = i := ⟨_, rfl⟩
  obtain ⟨iq, hiq⟩ : ∃ i, inB q 1 8 = i := ⟨_, rfl⟩
  have HIR := Lib.hid hir
  have HIQ := Lib.hid hiq
  rcases hv : tabOk p s r q
  · have HE := Lib.hid (show tabR p s r q = [] by unfold tabR; rw [if_neg (by simp [hv])])
    have hc : serB p s = false ∨ (serB p s = true ∧ (ir = false ∨ (ir = true ∧ (iq = false ∨ (iq = true ∧ (r ≤ 8 ∧ 1 ≤ r ∧ q ≤ 8 ∧ 1 ≤ q ∧ (n : Int) < r + q - 1)))))) := by
      rcases tabOk_false hv with hc | ⟨hc, h1⟩
      · exact .inl hc
      refine .inr ⟨hc, ?_⟩
      rw [hlen] at h1
      rw [← hir, ← hiq]
      unfold inB
      simp only [Bool.and_eq_true, Bool.and_eq_false_iff, decide_eq_false_iff_not, decide_eq_true_eq]
      omega
    clear h hv hlen hir hiq
    rcases hc with hc | ⟨hs, hc⟩
    · have HV := Lib.hid hc
      clear hc
      go_enter Tryd.func16, Tryd.ntmps16
      go_wp2_with (go_at_call 31; refine (specSeriesValidB p A n c b o s _ H.out).mono ?_; rintro e w1 ⟨rfl, hB⟩; rw [HV.out]; have HB1 := Lib.hid hB; clear hB)
      go_ret
      rw [HE.out]
      exact ⟨_, 0, [], rfl, (OM.empty w).below HB1.out, below_more HB0.out HB1.out⟩
    have HV := Lib.hid hs
    clear hs
    rcases hc with rfl | ⟨rfl, rfl | ⟨rfl, c1, c2, c3, c4, c5⟩⟩
    case inr.inr =>
      have hw1 : IntKind.i64.wrap (r + q) = r + q := IntWalk.i64_in _ ⟨by omega, by omega⟩
      have hw2 : IntKind.i64.wrap (r + q - 1) = r + q - 1 := IntWalk.i64_in _ ⟨by omega, by omega⟩
      go_enter Tryd.func16, Tryd.ntmps16
      go_wp2_with (first | (go_at_call 31; refine (specSeriesValidB p A n c b o s _ H.out).mono ?_; rintro e w1 ⟨rfl, hB⟩; rw [HV.out]; have HB1 := Lib.hid hB; clear hB) | (go_at_call 34; (with_reducible refine (specIn r _ _ _).mono ?_); rintro e w1 ⟨rfl, rfl⟩; rw [HIR.out]) | (go_at_call 34; (with_reducible refine (specIn q _ _ _).mono ?_); rintro e w1 ⟨rfl, rfl⟩; rw [HIQ.out]))
      go_ret
      rw [HE.out]
      exact ⟨_, 0, [], rfl, (OM.empty w).below HB1.out, below_more HB0.out HB1.out⟩
    all_goals
      go_enter Tryd.func16, Tryd.ntmps16
      go_wp2_with (first | (go_at_call 31; refine (specSeriesValidB p A n c b o s _ H.out).mono ?_; rintro e w1 ⟨rfl, hB⟩; rw [HV.out]; have HB1 := Lib.hid hB; clear hB) | (go_at_call 34; (with_reducible refine (specIn r _ _ _).mono ?_); rintro e w1 ⟨rfl, rfl⟩; rw [HIR.out]) | (go_at_call 34; (with_reducible refine (specIn q _ _ _).mono ?_); rintro e w1 ⟨rfl, rfl⟩; rw [HIQ.out]))
      go_ret
      rw [HE.out]
      exact ⟨_, 0, [], rfl, (OM.empty w).below HB1.out, below_more HB0.out HB1.out⟩
  obtain ⟨hs, R, Q, rfl, rfl, r1, r8, q1, q8, hrq⟩ := tabOk_true hv
  rw [hlen] at hrq
  have HV := Lib.hid hs
  have HE := Lib.hid (show tabR p s (R : Int) (Q : Int) = tabL s R Q by unfold tabR; rw [if_pos hv]; rfl)
  obtain rfl : ir = true := by rw [← hir]; unfold inB; simp only [Bool.and_eq_true, decide_eq_true_eq]; omega
  obtain rfl : iq = true := by rw [← hiq]; unfold inB; simp only [Bool.and_eq_true, decide_eq_true_eq]; omega
  obtain ⟨T, hT⟩ : ∃ T, tabL s R Q = T := ⟨_, rfl⟩
  have HT := Lib.hid hT
  have HTL := Lib.hid (show T.length = R by rw [← hT, tabL_len])
  have HTG := Lib.hid (show ∀ k, k < R → T[k]? = some (winL s Q k) from fun k hk => by rw [← hT, tabL_get s hk])
  have HSL := Lib.hid hlen
  obtain rfl := h.adr (by omega)
  have hw1 : IntKind.i64.wrap ((R : Int) + Q) = (R : Int) + Q := IntWalk.i64_in _ ⟨by omega, by omega⟩
  have hw2 : IntKind.i64.wrap ((R : Int) + Q - 1) = (R : Int) + Q - 1 := IntWalk.i64_in _ ⟨by omega, by omega⟩
  clear h hs hv hT hlen hir hiq
  go_enter Tryd.func16, Tryd.ntmps16
  go_wp2_with (first | (go_at_call 31; refine (specSeriesValidB p _ n c b o s _ H.out).mono ?_; rintro e w1 ⟨rfl, hB⟩; rw [HV.out]; have HB1 := Lib.hid hB; clear hB) | (go_at_call 34; (with_reducible refine (specIn (R : Int) _ _ _).mono ?_); rintro e w1 ⟨rfl, rfl⟩; rw [HIR.out]) | (go_at_call 34; (with_reducible refine (specIn (Q : Int) _ _ _).mono ?_); rintro e w1 ⟨rfl, rfl⟩; rw [HIQ.out]))
  go_loopw [9, 10] (fun v i wr => ∃ (k : Nat) (Ao : Option Addr) (co : Nat) (vs : List Value), k ≤ R ∧ i = .int .i64 k ∧ v = .slice Ao k co ∧ OM wr w.heap.size Ao k co (T.take k) vs ∧ Below w.heap.size w wr) (fun _ i _ => R - (intOf i).toNat)
  case atStart => exact ⟨0, _, _, [], by omega, rfl, rfl, (OM.empty w).below HB1.out, below_more HB0.out HB1.out⟩
  case round =>
    obtain ⟨k, Ao, co, vs, hk, rfl, rfl, hown, hbel⟩ := hrel
    obtain ⟨wo, rfl⟩ : ∃ wo : World, wo = wr := ⟨_, rfl⟩
    have hs0 := hbel.size
    by_cases hlt : k < R
    · have HI := Lib.hid ((H0.out.below hbel).win (k := k) (m := Q) (by omega))
      have hwl := winL_len (s := s) (Q := Q) (k := k) (by rw [HSL.out]; omega)
      have HO := Lib.hid hown
      have HB := Lib.hid hbel
      have HS := Lib.hid (take_snoc T k _ (HTG.out k hlt))
      have HRL := Lib.hid hwl
      have hkq : IntKind.i64.wrap ((k : Int) + Q) = (k : Int) + Q := IntWalk.i64_in _ ⟨by omega, by omega⟩
      have hkc : k + Q ≤ c := by omega
      clear hown hbel hwl
      go_wp2_with (at_builtin; refine wpList_app_ints rfl (.tmp 42) (.tmp 48) rfl wo.heap.size _ 0 0 [] rfl (OI.empty wo) (k + Q - k) (c - k) b (o + k) (winL s Q k) rfl (by rw [Nat.add_sub_cancel_left]; exact HI.out.below ((Below.refl _ wo).alloc (Nat.le_refl _) _)) (by omega) (by simp) ?_)
      intro A2 c2 w2 hI2 hK2
      have HI2 := Lib.hid (show OI w2 wo.heap.size A2 Q c2 (winL s Q k) by simpa using hI2)
      have hB2 : Below wo.heap.size wo w2 := ((Below.refl _ _).alloc (Nat.le_refl _) _).trans (hK2.below (by simp) (fun q hq => by simp [Value.ownBlock] at hq; omega))
      have HB2 := Lib.hid hB2
      have hs2 := hB2.size
      clear hI2 hK2 hB2
      go_wp2_with (at_builtin; refine wpList_app_row rfl (.tmp 41) (.tmp 50) rfl w.heap.size Ao k co vs rfl (World.ownsRow.alloc (owns_below HO.out.out HB2.out) _) A2 Q c2 _ _ rfl ?_ (by omega) ?_ ?_)
      · simp
      · simp; omega
      · intro A3 c3 w3 ho3 hK3
        have hp := HO.out.push (HB2.out.alloc hs2 (.cells #[.slice A2 Q c2] 23)) (row := winL s Q k) (A1 := A2) (c1 := c2) (by rw [HRL.out]; exact HI2.out.alloc _) (by rw [HRL.out]; exact ho3) hK3 hs0
        rw [HS.out] at hp
        have HP := Lib.hid hp
        have HB3 := Lib.hid (HB.out.trans (((HB2.out.alloc hs2 (.cells #[.slice A2 Q c2] 23)).mono hs0).trans (hK3.below (B := w.heap.size) (by simp; omega) (fun q hq => (HO.out.out.lt q hq).1))))
        clear hp ho3 hK3
        go_wp2_with (fail)
        go_roundw
        case rel => exact ⟨k + 1, _, _, _, by omega, by go_num, rfl, HP.out, HB3.out⟩
        case measure => simp [intOf]; omega
    · obtain rfl : k = R := by omega
      have e : T.take k = T := List.take_of_length_le (by rw [HTL.out]; omega)
      rw [e] at hown
      have HO := Lib.hid hown
      have HB := Lib.hid hbel
      clear e hown hbel
      go_wp2_with (fail)
      go_ret
      rw [HE.out, HT.out, HTL.out]
      exact ⟨_, _, _, rfl, HO.out, HB.out⟩
theorem specTableOfG (p : Int) (A : Option Addr) (n c b o : Nat) (s : List Int) (r q : Int) (w : World) (h : IA w A n b o s) (hcp : n ≤ c) :
    Calls Tryd.prog 16 #[.int .i64 p, .slice A n c, .int .i64 r, .int .i64 q] w (GivesM (tabR p s r q) w) := by
  refine (specTableOf p A n c b o s r q w h hcp).mono ?_
  rintro e w' ⟨A1, c1, vs, rfl, hO, hB⟩
  obtain ⟨b1, hR⟩ := hO.ra
  exact ⟨A1, c1, b1, 0, rfl, hR, hB⟩
theorem implTableOfG (p : Int) (A : Option Addr) (n c b o : Nat) (s : List Int) (r q : Int) (w : World) (h : IA w A n b o s) (hcp : n ≤ c) :
    Calls Tryd.prog 29 #[.int .i64 p, .slice A n c, .int .i64 r, .int .i64 q] w (MadeM (tabR p s r q).length (tabR p s r q) w) := implTableOf p A n c b o s r q w h hcp
end Go.Proofs.YtecmclaockmgeaaDoor
namespace Go.Proofs.YtecmclaockmgeaaDoor
open Go.RowKit
theorem trm_ser {p : Int} {T F : List Int} (h : recB p T F = true) {m : Nat} (hm : m ≤ 24) : serB p (trm p T F m) = true :=
  serB_mk (recB_true h).1 (by rw [trm_len]; exact hm) (trm_num h m)
def sqrL (p : Int) (T F : List Int) (R : Nat) : List (List Int) := tabL (trm p T F (2 * R - 1)) R R
theorem sqr_terms {p : Int} {T F : List Int} (h : recB p T F = true) {R : Nat} (h1 : 1 ≤ R) (h8 : R ≤ 8) : termsO p T F (2 * (R : Int) - 1) = trm p T F (2 * R - 1) := by
  unfold termsO
  rw [if_pos ⟨h, by omega, by omega⟩]
  congr 1
  omega
theorem sqr_tab {p : Int} {T F : List Int} (h : recB p T F = true) {R : Nat} (h1 : 1 ≤ R) (h8 : R ≤ 8) : tabR p (trm p T F (2 * R - 1)) (R : Int) (R : Int) = sqrL p T F R := by
  unfold tabR
  rw [if_pos]
  · rfl
  · unfold tabOk inB
    rw [trm_ser h (by omega), trm_len]
    simp only [Bool.true_and, Bool.and_eq_true, decide_eq_true_eq]
    omega
theorem sqr_len (p : Int) (T F : List Int) (R : Nat) : (sqrL p T F R).length = R := tabL_len _ _ _
def streamRankR (p : Int) (T F : List Int) : Int := if recB p T F = true then rankR p (sqrL p T F 8) else -1
theorem streamRank_bd (p : Int) (T F : List Int) : -1 ≤ streamRankR p T F ∧ streamRankR p T F ≤ 13 := by
  unfold streamRankR
  split
  · rename_i h
    unfold rankR
    split
    · rename_i hm
      have h8 := (matB_true hm).2.2.2.1
      have hv := VM_of_mat hm
      have := (elim_inv (recB_true h).1 hv (((sqrL p T F 8).headD []).length)).2.2.2
      omega
    · omega
  · omega
set_option maxRecDepth 100000 in
set_option maxHeartbeats 4000000 in
theorem squareTable_any (v : Value) (p : Int) (T F : List Int) (R : Nat) (w : World) (h : RV w v p T F) (hv : recB p T F = true) (h1 : 1 ≤ R) (h8 : R ≤ 8) :
    Calls Tryd.prog 13 #[v, .int .i64 (R : Int)] w (MadeM R (sqrL p T F R) w) := by
  obtain ⟨A, n, c, b, o, A', n', c', b', o', rfl, g1, g2⟩ := h
  have hbx := Bx.new w (.int .i64 p) (.slice A n c) (.slice A' n' c') 25
  have hB0 : Below w.heap.size w (w.alloc (.cells #[.int .i64 p, .slice A n c, .slice A' n' c'] 25)) := (Below.refl _ w).alloc (Nat.le_refl _) _
  have HV0 := Lib.hid (show RV _ (.agg #[.int .i64 p, .slice A n c, .slice A' n' c']) p T F from ⟨_, _, _, _, _, _, _, _, _, _, rfl, g1.below hB0, g2.below hB0⟩)
  have HBX := Lib.hid hbx
  have HB0 := Lib.hid hB0
  have E1 := Lib.hid (sqr_terms hv h1 h8)
  have E2 := Lib.hid (sqr_tab hv h1 h8)
  have hw0 : IntKind.i64.wrap (2 * (R : Int)) = 2 * (R : Int) := IntWalk.i64_in _ ⟨by omega, by omega⟩
  have hw1 : IntKind.i64.wrap (2 * (R : Int) - 1) = 2 * (R : Int) - 1 := IntWalk.i64_in _ ⟨by omega, by omega⟩
  clear g1 g2 hB0 hbx hv
  go_enter Tryd.func13, Tryd.ntmps13
  go_wp2_with (fail)
  have HVd := Lib.hid (HV0.out.below (below_new_drew _))
  have HBd := Lib.hid HB0.out.drew
  have ZS := HBX.out
  have Zd := HBX.out.drew
  unfold Bx at ZS Zd
  go_region_held3 (fun w' => w'.cell? ⟨w.heap.size, 0, none⟩ = some (.int .i64 p) ∧ w'.cell? ⟨w.heap.size, 1, none⟩ = some (.slice A n c) ∧ w'.cell? ⟨w.heap.size, 2, none⟩ = some (.slice A' n' c')) (first | assumption | exact ZB | exact ZA | exact Zd | exact ZS | go_keep)
    (first
      | (go_at_call 30; refine (implRecTerms _ p T F (2 * (R : Int) - 1) _ HVd.out).mono ?_; rw [E1.out, trm_len]; rintro e w3 ⟨A5, c5, rfl, hO, hB⟩; obtain ⟨b5, hI⟩ := hO.ia; have hc5 := OI.capLe hO; have HI5 := Lib.hid hI; have HB3 := Lib.hid (below_more HBd.out hB); have HBX3 := Lib.hid (HBX.out.drew.below hB); have ZA := HBX3.out; unfold Bx at ZA; clear hO hB hI)
      | (go_at_call 29; refine (implTableOf p A5 _ c5 b5 0 (trm p T F (2 * R - 1)) (R : Int) (R : Int) _ HI5.out hc5).mono ?_; rw [E2.out, sqr_len]; rintro e w4 ⟨A6, c6, v6, rfl, hO, hB⟩; have HO6 := Lib.hid hO; have hs3 := HB3.out.size; have HB4 := Lib.hid (below_more HB3.out hB); have HBX4 := Lib.hid (HBX3.out.below hB); have ZB := HBX4.out; unfold Bx at ZB; clear hO hB))
  all_goals
    go_wp2_with (fail)
    go_ret
    exact ⟨A6, c6, v6, rfl, HO6.out.mono hs3, HB4.out⟩
set_option maxRecDepth 100000 in
set_option maxHeartbeats 4000000 in
theorem implStreamRank (v : Value) (p : Int) (T F : List Int) (w : World) (h : RV w v p T F) :
    Calls Tryd.prog 5 #[v] w (IntBelow (streamRankR p T F) w) := by
  obtain ⟨A, n, c, b, o, A', n', c', b', o', rfl, g1, g2⟩ := h
  have hbx := Bx.new w (.int .i64 p) (.slice A n c) (.slice A' n' c') 25
  have hB0 : Below w.heap.size w (w.alloc (.cells #[.int .i64 p, .slice A n c, .slice A' n' c'] 25)) := (Below.refl _ w).alloc (Nat.le_refl _) _
  have HV0 := Lib.hid (show RV _ (.agg #[.int .i64 p, .slice A n c, .slice A' n' c']) p T F from ⟨_, _, _, _, _, _, _, _, _, _, rfl, g1.below hB0, g2.below hB0⟩)
  have HBX := Lib.hid hbx
  have HB0 := Lib.hid hB0
  clear g1 g2 hB0 hbx
  rcases hv : recB p T F
  · have HV := Lib.hid hv
    have HE := Lib.hid (show streamRankR p T F = -1 by unfold streamRankR; rw [if_neg (by simp [hv])])
    clear hv
    go_enter Tryd.func5, Tryd.ntmps5
    go_wp2_with (go_at_call 7; refine (implRecValid _ p T F _ HV0.out).mono ?_; rintro e w1 ⟨rfl, hB⟩; rw [HV.out]; have HB := Lib.hid hB; clear hB)
    go_ret
    exact ⟨by rw [HE.out]; rfl, below_more HB0.out HB.out⟩
  have HV := Lib.hid hv
  have HE := Lib.hid (show streamRankR p T F = rankR p (sqrL p T F 8) by unfold streamRankR; rw [if_pos hv])
  clear hv
  go_enter Tryd.func5, Tryd.ntmps5
  go_wp2_with (go_at_call 7; refine (implRecValid _ p T F _ HV0.out).mono ?_; rintro e w1 ⟨rfl, hB⟩; rw [HV.out]; have HB1 := Lib.hid (below_more HB0.out hB); have HBX1 := Lib.hid (HBX.out.below hB); have HV1 := Lib.hid (HV0.out.below hB); have y0 := HBX1.out.1; have y1 := HBX1.out.2.1; have y2 := HBX1.out.2.2; clear hB)
  have HVd := Lib.hid (HV1.out.below (below_new_drew _))
  have HBd := Lib.hid HB1.out.drew
  have ZS := HBX1.out
  have Zd := HBX1.out.drew
  unfold Bx at ZS Zd
  go_region_held3 (fun w' => w'.cell? ⟨w.heap.size, 0, none⟩ = some (.int .i64 p) ∧ w'.cell? ⟨w.heap.size, 1, none⟩ = some (.slice A n c) ∧ w'.cell? ⟨w.heap.size, 2, none⟩ = some (.slice A' n' c')) (first | assumption | exact ZB | exact ZA | exact Zd | exact ZS | go_keep)
    (first
      | (go_at_call 13; refine (squareTable_any _ p T F 8 _ HVd.out HV.out (by decide) (by decide)).mono ?_; rintro e w3 ⟨A5, c5, v5, rfl, hO, hB⟩; obtain ⟨b5, hR⟩ := hO.ra; have HR5 := Lib.hid hR; have HB3 := Lib.hid (below_more HBd.out hB); have HBX3 := Lib.hid (HBX1.out.drew.below hB); have ZA := HBX3.out; unfold Bx at ZA; clear hO hB hR)
      | (go_at_call 12; refine (implMatRank p A5 _ c5 b5 0 (sqrL p T F 8) _ HR5.out).mono ?_; rintro e w4 ⟨rfl, hB⟩; rw [← HE.out]; have HB4 := Lib.hid (below_more HB3.out hB); have HBX4 := Lib.hid (HBX3.out.below hB); have ZB := HBX4.out; unfold Bx at ZB; clear hB))
  all_goals
    go_wp2_with (fail)
    go_ret
    exact ⟨rfl, HB4.out⟩
set_option maxRecDepth 100000 in
set_option maxHeartbeats 4000000 in
theorem specStreamRank (v : Value) (p : Int) (T F : List Int) (w : World) (h : RV w v p T F) :
    Calls Tryd.prog 6 #[v] w (IntBelow (streamRankR p T F) w) := by
  obtain ⟨A, n, c, b, o, A', n', c', b', o', rfl, g1, g2⟩ := h
  have hbx := Bx.new w (.int .i64 p) (.slice A n c) (.slice A' n' c') 25
  have hB0 : Below w.heap.size w (w.alloc (.cells #[.int .i64 p, .slice A n c, .slice A' n' c'] 25)) := (Below.refl _ w).alloc (Nat.le_refl _) _
  have HV0 := Lib.hid (show RV _ (.agg #[.int .i64 p, .slice A n c, .slice A' n' c']) p T F from ⟨_, _, _, _, _, _, _, _, _, _, rfl, g1.below hB0, g2.below hB0⟩)
  have HBX := Lib.hid hbx
  have HB0 := Lib.hid hB0
  clear g1 g2 hB0 hbx
  rcases hv : recB p T F
  · have HV := Lib.hid hv
    have HE := Lib.hid (show streamRankR p T F = -1 by unfold streamRankR; rw [if_neg (by simp [hv])])
    clear hv
    go_enter Tryd.func6, Tryd.ntmps6
    go_wp2_with (go_at_call 14; refine (specRecValid _ p T F _ HV0.out).mono ?_; rintro e w1 ⟨rfl, hB⟩; rw [HV.out]; have HB := Lib.hid hB; clear hB)
    go_ret
    exact ⟨by rw [HE.out]; rfl, below_more HB0.out HB.out⟩
  have HV := Lib.hid hv
  have HE := Lib.hid (show streamRankR p T F = rankR p (sqrL p T F 8) by unfold streamRankR; rw [if_pos hv])
  have E2 := Lib.hid (sqr_tab hv (show 1 ≤ 8 by decide) (Nat.le_refl 8))
  clear hv
  go_enter Tryd.func6, Tryd.ntmps6
  go_wp2_with (go_at_call 14; refine (specRecValid _ p T F _ HV0.out).mono ?_; rintro e w1 ⟨rfl, hB⟩; rw [HV.out]; have HB1 := Lib.hid (below_more HB0.out hB); have HBX1 := Lib.hid (HBX.out.below hB); have HV1 := Lib.hid (HV0.out.below hB); have y0 := HBX1.out.1; have y1 := HBX1.out.2.1; have y2 := HBX1.out.2.2; clear hB)
  have HVd := Lib.hid (HV1.out.below (below_new_drew _))
  have HBd := Lib.hid HB1.out.drew
  have ZS := HBX1.out
  have Zd := HBX1.out.drew
  unfold Bx at ZS Zd
  go_region_held3 (fun w' => w'.cell? ⟨w.heap.size, 0, none⟩ = some (.int .i64 p) ∧ w'.cell? ⟨w.heap.size, 1, none⟩ = some (.slice A n c) ∧ w'.cell? ⟨w.heap.size, 2, none⟩ = some (.slice A' n' c')) (first | assumption | exact ZC | exact ZB | exact ZA | exact Zd | exact ZS | go_keep)
    (first
      | (go_at_call 17; refine (specL3 _ p T F 15 _ HVd.out HV.out (by decide)).mono ?_; rintro e w3 ⟨A5, c5, rfl, hO, hB⟩; obtain ⟨b5, hI⟩ := hO.ia; have hc5 := OI.capLe hO; have HI5 := Lib.hid hI; have HB3 := Lib.hid (below_more HBd.out hB); have HBX3 := Lib.hid (HBX1.out.drew.below hB); have ZA := HBX3.out; unfold Bx at ZA; clear hO hB hI)
      | (go_at_call 16; refine (specTableOf p A5 _ c5 b5 0 (trm p T F 15) ((8 : Nat) : Int) ((8 : Nat) : Int) _ HI5.out hc5).mono ?_; rw [show tabR p (trm p T F 15) ((8 : Nat) : Int) ((8 : Nat) : Int) = sqrL p T F 8 from E2.out, sqr_len]; rintro e w4 ⟨A6, c6, v6, rfl, hO, hB⟩; obtain ⟨b6, hR⟩ := hO.ra; have HR6 := Lib.hid hR; have HB4 := Lib.hid (below_more HB3.out hB); have HBX4 := Lib.hid (HBX3.out.below hB); have ZB := HBX4.out; unfold Bx at ZB; clear hO hB hR)
      | (go_at_call 15; refine (specMatRank p A6 _ c6 b6 0 (sqrL p T F 8) _ HR6.out).mono ?_; rintro e w5 ⟨rfl, hB⟩; rw [← HE.out]; have HB5 := Lib.hid (below_more HB4.out hB); have HBX5 := Lib.hid (HBX4.out.below hB); have ZC := HBX5.out; unfold Bx at ZC; clear hB))
  all_goals
    go_wp2_with (fail)
    go_ret
    exact ⟨rfl, HB5.out⟩
end Go.Proofs.YtecmclaockmgeaaDoor

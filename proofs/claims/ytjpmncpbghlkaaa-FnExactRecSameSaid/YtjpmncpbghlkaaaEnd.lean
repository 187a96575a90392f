/-
  Iterators without end, and the loops over them.
-/
import Derived.Test.YtjpmncpbghlkaaaRf
import Derived.Test.YtjpmncpbghlkaaaOwn
namespace Go.Proofs.Ytjpmncpbghlkaaa
open Go.RowKit Go.Shelf
theorem roundIn_any {m m' : Nat} {P : Program} {l : Nat} {f : FuncId} {tmps : Array Value} {assign body : Code} {w : World} {R : Ending → World → Prop}
    (h : RoundIn Fence.wide m P l f tmps assign body w R) : RoundIn Fence.wide m' P l f tmps assign body w R := ⟨h.1, fun c cs _ => h.2 c cs (fun d hd => by cases hd)⟩
theorem roundIn_in {m m' : Nat} {P : Program} {l l2 : Nat} {f : FuncId} {tmps : Array Value} {assign body : Code} {w : World} {R : Ending → World → Prop}
    (h : RoundIn Fence.wide m P l f tmps assign body w R) : RoundIn (Fence.wide.inRound l2) m' P l f tmps assign body w R := roundIn_any (m := m) (m' := m') h
theorem yieldAt_any {m m' : Nat} {P : Program} {l : Nat} {args : Array Value} {W : World} {R : Ending → World → Prop} (h : YieldAt Fence.wide m P l args W R) : YieldAt Fence.wide m' P l args W R := by
  obtain ⟨fn, tmps, assign, body, hy, hR⟩ := h
  exact ⟨fn, tmps, assign, body, hy, roundIn_any hR⟩
theorem callsIn_any {m m' : Nat} {P : Program} {f : FuncId} {args : Array Value} {w : World} {R : Ending → World → Prop} (h : CallsIn Fence.wide m P f args w R) : CallsIn Fence.wide m' P f args w R := callsIn_wide.2 (callsIn_wide.1 h)
/-- the blocks from lo on, ahead of hi -/
def Within (lo hi g : Nat) : Prop := lo ≤ g ∧ g < hi
/-- what a round keeps: what lies ahead of n₀, the box Br, the iterator's own blocks -/
def KpI (n₀ Br lo hi : Nat) (W W' : World) : Prop := Below n₀ W W' ∧ W'.heap[Br]? = W.heap[Br]? ∧ ∀ g, Within lo hi g → W'.heap[g]? = W.heap[g]?
/-- an iterator without end: whoever ranges over it must leave -/
def Endless (P : Program) (gf : FuncId) (lb : Array Value) (enc : Nat → Array Value) (n₀ Br : Nat) (W : World) : Prop :=
  ∀ (m l M : Nat) (J Jx : Nat → Nat → World → Prop), M ≤ 1000000 → (∀ hi k W1, J hi k W1 → k ≤ M) →
    (∀ hi k W1, W.heap.size ≤ hi → J hi k W1 → YieldAt Fence.wide 0 P l (enc k) W1 fun e W' =>
      (e = .returned (.bool true) ∧ (∀ W'', Keep (Within W.heap.size hi) W' W'' → J hi (k + 1) W'') ∧ KpI n₀ Br W.heap.size hi W1 W') ∨ (e = .returned (.bool false) ∧ Jx hi k W' ∧ ∀ g, Within W.heap.size hi g → W'.heap[g]? = W1.heap[g]?)) →
    (∀ hi W1, W.grownBy W1 none → W.heap.size ≤ hi → hi ≤ W1.heap.size → J hi 0 W1) →
    CallsIn Fence.wide m P gf (#[.func (.yield l) #[] #[]] ++ lb) W fun e W' => (∃ v, e = .returned v) ∧ ∃ hi k W1, W.heap.size ≤ hi ∧ Jx hi k W1 ∧ Keep (Within W.heap.size hi) W1 W'
theorem keep_putObj {S : Nat → Prop} (W : World) {l : Nat} (o : Obj) (hs : S l) : Keep S W (W.putObj l o) := ⟨rfl, rfl, rfl, by simp, fun k _ hk => World.putObj_heap_other (fun e => hk (by rw [e]; exact hs))⟩
theorem keep_grown_none {S : Nat → Prop} {W W' : World} (h : W.grownBy W' none) : Keep S W W' := ⟨h.os, h.tape, h.output, h.size, fun k hk _ => h.block k hk (by simp)⟩
/-- how a round may be left -/
def endTo (n₀ Br lo : Nat) (I : Nat → Nat → World → Prop) (Ix : Code → Nat → Nat → World → Prop) (hi k : Nat) (W : World) : Exit → Act → World → Prop
  | .normal, _, W' => I hi (k + 1) W' ∧ KpI n₀ Br lo hi W W'
  | .ret, _, W' => Ix .ret hi k W' ∧ ∀ g, Within lo hi g → W'.heap[g]? = W.heap[g]?
  | .exit id, _, W' => Ix (.exit id) hi k W' ∧ ∀ g, Within lo hi g → W'.heap[g]? = W.heap[g]?
  | .goto t, _, W' => Ix (.goto t) hi k W' ∧ ∀ g, Within lo hi g → W'.heap[g]? = W.heap[g]?
  | .panic _, _, _ => False
  | .outgrown, _, _ => False
variable {n : Nat} {P : Program}
theorem wpIn_endless {g : Operand} {ps : Array Tmp} {assign body : Code} {Q : Exit → Act → World → Prop} {a : Act} {w : World} (h1 : 1 ≤ n)
    {gf : Nat} {lb : Array Value} (hg : a.eval g = .func (.func gf) #[] lb) (eg : ∀ args w, (callFunc gf args).run P w = .ok (.enter gf args) w)
    {enc : Nat → Array Value} (henc : ∀ k, (enc k).size = ps.size) {n₀ Br : Nat} (hn₀ : n₀ ≤ w.heap.size) (hBr : Br < w.heap.size)
    (hseq : ∀ W1, w.grownBy W1 none → Endless P gf lb enc n₀ Br W1) (M : Nat) (hM : M ≤ 1000000)
    (I : Nat → Nat → World → Prop) (Ix : Code → Nat → Nat → World → Prop) (Ax : Nat → Nat → Act → World → Prop)
    (hIM : ∀ hi k W, I hi k W → k ≤ M)
    (hI : ∀ hi k W W', w.heap.size ≤ hi → hi ≤ W.heap.size → I hi k W → Keep (Within w.heap.size hi) W W' → I hi k W')
    (hIx : ∀ c hi k W W', w.heap.size ≤ hi → hi ≤ W.heap.size → Ix c hi k W → Keep (Within w.heap.size hi) W W' → Ix c hi k W')
    (hAx : ∀ hi k a1 W W', w.heap.size ≤ hi → hi ≤ W.heap.size → Ax hi k a1 W → Keep (Within w.heap.size hi) W W' → Ax hi k a1 W')
    (h0 : ∀ hi W, w.heap.size ≤ hi → hi ≤ W.heap.size → w.grownBy W none → I hi 0 W)
    (hassign : ∀ (l hi k : Nat) (W : World) (K : Act → World → Prop), w.heap.size ≤ hi → hi ≤ W.heap.size → I hi k W → (∀ a1 Wa, W.grownBy Wa none → Ax hi k a1 Wa → K a1 Wa) →
      assign.wpIn (Fence.wide.inRound l) (n - 1 - 1) P (Exit.then K (fun _ _ _ => False)) { tmps := (ps.zip (enc k)).foldl (fun t (p, v) => t.setIfInBounds p v) a.tmps, defers := [] } W)
    (hbody : ∀ (l hi k : Nat) (a1 : Act) (W : World), w.heap.size ≤ hi → hi ≤ W.heap.size → I hi k W → Ax hi k a1 W → body.wpIn (Fence.wide.inRound l) (n - 1 - 1) P (endTo n₀ Br w.heap.size I Ix hi k W) a1 W)
    (hstop : ∀ (D : Nat) (c : Code) (hi k : Nat) (W : World), w.heap.size ≤ D → D < hi → hi ≤ W.heap.size → Ix c hi k W → W.heap[D]? = some (.deferred (some [])) → c.wpIn Fence.wide n P Q { a with defers := { target := .collected D, args := #[] } :: a.defers } W) :
    (Code.rangeFunc g ps assign body).wpIn Fence.wide n P Q a w := by
  refine wpIn_rangeFunc_run rfl h1 hg trivial eg ?_
  intro rec W1 hG hs hD hL hyl
  have hlo : ∀ {hi}, W1.heap.size ≤ hi → Within w.heap.size hi (w.heap.size + 1) := fun h => ⟨by omega, by omega⟩
  have hlD : ∀ {hi}, W1.heap.size ≤ hi → Within w.heap.size hi w.heap.size := fun h => ⟨by omega, by omega⟩
  have sub : ∀ {hi : Nat} {A B : World}, Keep (Within W1.heap.size hi) A B → Keep (Within w.heap.size hi) A B := fun h => h.mono (fun k _ hk => ⟨by have := hk.1; omega, hk.2⟩)
  refine callsIn_any (m := n - 1) ((hseq W1 hG (n - 1) (w.heap.size + 1) M
    (fun hi k W => I hi k W ∧ W.heap[w.heap.size + 1]? = some (.loop (rec .ready none)) ∧ W.heap[w.heap.size]? = some (.deferred (some [])) ∧ hi ≤ W.heap.size)
    (fun hi k W => ∃ c, Ix c hi k W ∧ W.heap[w.heap.size + 1]? = some (.loop (rec .done (some c))) ∧ W.heap[w.heap.size]? = some (.deferred (some [])) ∧ hi ≤ W.heap.size)
    hM (fun hi k W h => hIM hi k W h.1) ?_ ?_).mono ?_)
  · -- one round
    rintro hi k W hhi ⟨hi0, hl, hd, hsz⟩
    refine yieldAt_any (hyl W (enc k) _ (henc k) hl (hassign (w.heap.size + 1) hi k W _ (by omega) hsz hi0 (fun a1 Wa hga hax => ?_)))
    have hla := (hga.block (w.heap.size + 1) (by omega) (by simp)).trans hl
    have hda := (hga.block w.heap.size (by omega) (by simp)).trans hd
    have hza := hga.size
    refine ⟨hla, ?_⟩
    have kb : Keep (Within w.heap.size hi) Wa (Wa.putObj (w.heap.size + 1) (.loop (rec .busy none))) := keep_putObj _ _ (hlo hhi)
    have hlb : (Wa.putObj (w.heap.size + 1) (.loop (rec .busy none))).heap[w.heap.size + 1]? = some (.loop (rec .busy none)) := World.putObj_heap_same (by omega)
    have hdb : (Wa.putObj (w.heap.size + 1) (.loop (rec .busy none))).heap[w.heap.size]? = some (.deferred (some [])) := (World.putObj_heap_other (by omega)).trans hda
    have hia := hI hi k W Wa (by omega) hsz hi0 (keep_grown_none hga)
    refine wpIn_mono (hbody (w.heap.size + 1) hi k a1 _ (by omega) (by simp; omega) (hI hi k Wa _ (by omega) (by omega) hia kb) (hAx hi k a1 Wa _ (by omega) (by omega) hax kb)) ?_
    -- the round's ends
    have fin : ∀ (W3 : World) (st : LoopState) (pe : Option Code), (∀ g, Within w.heap.size hi g → W3.heap[g]? = (Wa.putObj (w.heap.size + 1) (.loop (rec .busy none))).heap[g]?) →
        W3.heap[w.heap.size + 1]? = some (.loop (rec .busy none)) ∧ (W3.putObj (w.heap.size + 1) (.loop (rec st pe))).heap[w.heap.size + 1]? = some (.loop (rec st pe)) ∧
        (W3.putObj (w.heap.size + 1) (.loop (rec st pe))).heap[w.heap.size]? = some (.deferred (some [])) ∧ hi ≤ (W3.putObj (w.heap.size + 1) (.loop (rec st pe))).heap.size ∧ hi ≤ W3.heap.size := by
      intro W3 st pe hk
      have e1 := (hk _ (hlo hhi)).trans hlb
      have e2 := (hk _ (hlD hhi)).trans hdb
      have hw3 : hi ≤ W3.heap.size := by
        refine Nat.le_of_not_lt fun hlt => ?_
        have h3 : (Wa.putObj (w.heap.size + 1) (.loop (rec .busy none))).heap[W3.heap.size]? = none := by
          by_cases hc : w.heap.size ≤ W3.heap.size
          · rw [← hk W3.heap.size ⟨hc, hlt⟩]; simp
          · have := (Array.getElem?_eq_some_iff.1 e1).1
            omega
        have := Array.getElem?_eq_none_iff.1 h3
        simp at this
        omega
      refine ⟨e1, World.putObj_heap_same (Array.getElem?_eq_some_iff.1 e1).1, (World.putObj_heap_other (by omega)).trans e2, by simpa using hw3, hw3⟩
    have same : ∀ (W3 : World) (o : Obj), (∀ g, Within w.heap.size hi g → W3.heap[g]? = (Wa.putObj (w.heap.size + 1) (.loop (rec .busy none))).heap[g]?) → ∀ q, Within W1.heap.size hi q → (W3.putObj (w.heap.size + 1) o).heap[q]? = W.heap[q]? := fun W3 o hkg q hq => by
      have hq1 := hq.1
      have hq2 := hq.2
      exact (World.putObj_heap_other (by omega)).trans ((hkg q ⟨by omega, hq2⟩).trans ((World.putObj_heap_other (by omega)).trans (hga.block q (by omega) (by simp))))
    rintro e a3 W3 hp
    cases e with
    | normal =>
      obtain ⟨hi3, hkB, hkr, hkg⟩ := hp
      obtain ⟨q1, q2, q3, q4, q5⟩ := fin W3 .ready none hkg
      refine ⟨q1, .inl ⟨rfl, fun W'' hk => ⟨?_, ?_, ?_, ?_⟩, ?_⟩⟩
      · exact hI hi (k + 1) _ _ (by omega) q4 (hI hi (k + 1) W3 _ (by omega) q5 hi3 (keep_putObj _ _ (hlo hhi))) (sub hk)
      · exact (hk.block _ (by simp; omega) (fun h => by have := h.1; omega)).trans q2
      · exact (hk.block _ (by simp; omega) (fun h => by have := h.1; omega)).trans q3
      · exact Nat.le_trans q4 hk.size
      · have b1 : Below n₀ W Wa := ⟨hga.os, hga.tape, hga.output, hga.size, fun q hq => hga.block q (by omega) (by simp)⟩
        have b2 : Below n₀ Wa (Wa.putObj (w.heap.size + 1) (.loop (rec .busy none))) := kb.below (by omega) (fun q hq => by have := hq.1; omega)
        have b3 : Below n₀ W3 (W3.putObj (w.heap.size + 1) (.loop (rec .ready none))) := (keep_putObj (S := Within w.heap.size hi) W3 _ (hlo hhi)).below (by omega) (fun q hq => by have := hq.1; omega)
        exact ⟨((b1.trans b2).trans hkB).trans b3, (World.putObj_heap_other (by omega)).trans (hkr.trans ((World.putObj_heap_other (by omega)).trans (hga.block Br (by omega) (by simp)))), same W3 _ hkg⟩
    | ret =>
      obtain ⟨hi3, hkg⟩ := hp
      obtain ⟨q1, q2, q3, q4, q5⟩ := fin W3 .done (some .ret) hkg
      exact ⟨q1, .inr ⟨rfl, ⟨_, hIx _ hi k W3 _ (by omega) q5 hi3 (keep_putObj _ _ (hlo hhi)), q2, q3, q4⟩, fun q hq => same W3 _ hkg q hq⟩⟩
    | exit id =>
      obtain ⟨hi3, hkg⟩ := hp
      obtain ⟨q1, q2, q3, q4, q5⟩ := fin W3 .done (some (.exit id)) hkg
      exact ⟨q1, .inr ⟨rfl, ⟨_, hIx _ hi k W3 _ (by omega) q5 hi3 (keep_putObj _ _ (hlo hhi)), q2, q3, q4⟩, fun q hq => same W3 _ hkg q hq⟩⟩
    | goto t =>
      obtain ⟨hi3, hkg⟩ := hp
      obtain ⟨q1, q2, q3, q4, q5⟩ := fin W3 .done (some (.goto t)) hkg
      exact ⟨q1, .inr ⟨rfl, ⟨_, hIx _ hi k W3 _ (by omega) q5 hi3 (keep_putObj _ _ (hlo hhi)), q2, q3, q4⟩, fun q hq => same W3 _ hkg q hq⟩⟩
    | panic ch => exact hp.elim
    | outgrown => exact hp.elim
  · -- the start
    intro hi W hgw hhi hle
    have hz := hgw.size
    refine ⟨h0 hi W (by omega) hle (hG.andThen hgw (fun j hj => by cases hj)), (hgw.block _ (by omega) (by simp)).trans hL, (hgw.block _ (by omega) (by simp)).trans hD, hle⟩
  · -- behind the iterator
    rintro e W2 ⟨⟨v, rfl⟩, hi, k, W3, hhi, ⟨c, hx, hl, hd, hsz⟩, hk⟩
    have hl2 := (hk.block (w.heap.size + 1) (by omega) (fun h => by have := h.1; omega)).trans hl
    have hd2 := (hk.block w.heap.size (by omega) (fun h => by have := h.1; omega)).trans hd
    have hz := hk.size
    refine ⟨⟨v, rfl⟩, .inr ⟨c, hl2, ?_⟩⟩
    refine hstop w.heap.size c hi k _ (Nat.le_refl _) (by omega) (by simp; omega) ?_ ((World.putObj_heap_other (by omega)).trans hd2)
    exact hIx c hi k W2 _ (by omega) (by omega) (hIx c hi k W3 W2 (by omega) hsz hx (sub hk)) (keep_putObj _ _ (hlo hhi))
end Go.Proofs.Ytjpmncpbghlkaaa

/-
  The contracts of windows and stream: iterators without end.
-/
import Derived.Test.YtjpmncpbghlkaaaWin
import Derived.Test.YtjpmncpbghlkaaaEnd
namespace Go.Proofs.Ytjpmncpbghlkaaa
open Go.RowKit Go.Shelf
attribute [local go_sem] Oper.semAt_some
theorem windows_endless (Br n₀ : Nat) (p : Int) (T F : List Int) (A : Option Addr) (n c b o : Nat) (A' : Option Addr) (c' b' o' : Nat) (W : World) (hR : BoxR W Br n₀ p T F A n c b o A' c' b' o') (hn₀ : n₀ ≤ W.heap.size) (hBr : Br < W.heap.size) :
    Endless Try.prog 86 #[.pointer (some ⟨Br, 0, none⟩)] (fun k => #[.int .i64 k, wval (wf p T F k)]) n₀ Br W := by
  intro m l M J Jx hM hJM hY h0
  refine callsIn_any (m := 1) ((windows1_in 1 (Nat.le_refl _) l Br n₀ p T F A n c b o A' c' b' o' M hM (fun q k W1 => J (q + 1) k W1) (fun k W1 => ∃ hi, W.heap.size ≤ hi ∧ Jx hi k W1) W hR hn₀ hBr (fun q k W1 h => hJM _ _ _ h) ?_ ?_).mono ?_)
  · intro q k W1 hq hj
    refine (yieldAt_any (hY (q + 1) k W1 (by omega) hj)).mono ?_
    rintro e W' (⟨rfl, h1, h2, h3, h4⟩ | ⟨rfl, h1, _⟩)
    · refine .inl ⟨rfl, fun W'' hg => h1 W'' ⟨hg.os, hg.tape, hg.output, hg.size, fun k hk hs => hg.block k hk (fun e => hs (by cases e; exact ⟨hq, by omega⟩))⟩, h2, h3, h4 q ⟨hq, by omega⟩⟩
    · exact .inr ⟨rfl, q + 1, by omega, h1⟩
  · intro q W1 hg hq hl
    exact h0 (q + 1) W1 hg (by omega) (by omega)
  · rintro e W' ⟨hv, k, hi, hh, hx⟩
    exact ⟨hv, hi, k, W', hh, hx, Keep.refl _ _⟩
/-- making the iterator lays the recurrence into a box -/
theorem windows_any (v0 v1 v2 : Value) (W : World) :
    Calls Try.prog 76 #[.agg #[v0, v1, v2]] W fun e W' => e = .returned (.func (.func 86) #[] #[.pointer (some ⟨W.heap.size, 0, none⟩)]) ∧ W' = W.alloc (.cells #[v0, v1, v2] 25) := by
  go_enter Try.func76, Try.ntmps76
  go_wp2_with (fail)
  go_ret
  exact ⟨rfl, rfl⟩
theorem stream_any (v0 v1 v2 : Value) (W : World) :
    Calls Try.prog 56 #[.agg #[v0, v1, v2]] W fun e W' => e = .returned (.func (.func 75) #[] #[.pointer (some ⟨W.heap.size, 0, none⟩)]) ∧ W' = W.alloc (.cells #[v0, v1, v2] 25) := by
  go_enter Try.func56, Try.ntmps56
  go_wp2_with (fail)
  go_ret
  exact ⟨rfl, rfl⟩
set_option maxRecDepth 100000 in
set_option maxHeartbeats 2000000 in
theorem stream_endless (Br n₀ : Nat) (p : Int) (T F : List Int) (A : Option Addr) (n c b o : Nat) (A' : Option Addr) (c' b' o' : Nat) (W : World) (hR : BoxR W Br n₀ p T F A n c b o A' c' b' o') (hn₀ : n₀ ≤ W.heap.size) (hBr : Br < W.heap.size) :
    Endless Try.prog 75 #[.pointer (some ⟨Br, 0, none⟩)] (fun k => #[.int .i64 k, .int .i64 (wf p T F k 0)]) n₀ Br W := by
  intro m l M J Jx hM hJM hY h0
  have HR := Lib.hid hR
  obtain ⟨c0, c1, c2, _, _, _, _, _⟩ := hR
  refine callsIn_any (m := 5) ?_
  refine callsIn_of_wp_marks Try.func75 rfl trivial ?_ rfl
  simp only [Try.ntmps75, List.size_toArray, List.length_cons, List.length_nil, Nat.reduceAdd, Nat.reduceSub, Array.replicate_succ, Array.replicate_zero, List.push_toArray, List.append_toArray, List.nil_append, List.cons_append]
  gi_wp2
  refine ⟨trivial, (callsIn_wide.2 (windows_any _ _ _ _)).mono ?_⟩
  rintro e w1 ⟨rfl, rfl⟩
  have hB1 : Below W.heap.size W ((W.alloc (.cells #[.func (.yield l) #[] #[]] 70)).alloc (.cells #[.int .i64 p, .slice A n c, .slice A' n c'] 25)) := ((Below.refl _ W).alloc (Nat.le_refl _) _).alloc (by simp) _
  gi_wp2
  obtain ⟨Wl, hWl⟩ : ∃ Wl, (W.alloc (.cells #[.func (.yield l) #[] #[]] 70)).alloc (.cells #[.int .i64 p, .slice A n c, .slice A' n c'] 25) = Wl := ⟨_, rfl⟩
  rw [hWl] at hB1 ⊢
  have hsl : Wl.heap.size = W.heap.size + 2 := by rw [← hWl]; simp
  have y0 : Wl.cell? ⟨W.heap.size, 0, none⟩ = some (.func (.yield l) #[] #[]) := by rw [← hWl]; simp [go_sem]
  have r0 : Wl.cell? ⟨W.heap.size + 1, 0, none⟩ = some (.int .i64 p) := by rw [← hWl]; simp [go_sem]
  have r1 : Wl.cell? ⟨W.heap.size + 1, 1, none⟩ = some (.slice A n c) := by rw [← hWl]; simp [go_sem]
  have r2 : Wl.cell? ⟨W.heap.size + 1, 2, none⟩ = some (.slice A' n c') := by rw [← hWl]; simp [go_sem]
  have hRl := HR.out.kept (hB1.mono hn₀) (hB1.block Br hBr)
  have hR2 : BoxR Wl (W.heap.size + 1) n₀ p T F A n c b o A' c' b' o' := ⟨r0, r1, r2, hRl.rt, hRl.rf, hRl.bt, hRl.bf, hRl.ok⟩
  clear hWl hRl
  refine wpIn_endless (n₀ := n₀) (Br := W.heap.size + 1) (by decide) (gf := 86) (lb := #[.pointer (some ⟨W.heap.size + 1, 0, none⟩)]) rfl (enters_of Try.func86 (by kernel_rfl) rfl) (enc := fun k => #[.int .i64 k, wval (wf p T F k)]) (fun _ => rfl) (by omega) (by omega)
    (fun W1 hG => windows_endless (W.heap.size + 1) n₀ p T F A n c b o A' c' b' o' W1 (hR2.kept ⟨hG.os, hG.tape, hG.output, hG.size, fun k hk => hG.block k (by omega) (by simp)⟩ (hG.block _ (by omega) (by simp))) (by have := hG.size; omega) (by have := hG.size; omega)) M hM
    (fun hi k Wc => (∀ W'', Keep (Within W.heap.size hi) Wc W'' → J hi k W'') ∧ Wc.cell? ⟨W.heap.size, 0, none⟩ = some (.func (.yield l) #[] #[]))
    (fun cd hi k Wc => cd = .ret ∧ ∃ W3, Jx hi k W3 ∧ Keep (Within W.heap.size hi) W3 Wc)
    (fun hi k a1 Wc => ∃ Bx, hi ≤ Bx ∧ Wc.cell? ⟨Bx, 0, none⟩ = some (.int .i64 (wf p T F k 0)) ∧ a1 = { tmps := #[.func (.yield l) #[] #[], .pointer (some ⟨Br, 0, none⟩), .pointer (some ⟨W.heap.size, 0, none⟩), .int .i64 k, .pointer (some ⟨Bx, 0, none⟩), .agg #[.int .i64 p, .slice A n c, .slice A' n c'], .func (.func 86) #[] #[.pointer (some ⟨W.heap.size + 1, 0, none⟩)], .int .i64 k, wval (wf p T F k), undef, undef, undef, undef, undef, undef], defers := [] })
    (fun hi k Wc h => hJM hi k Wc (h.1 Wc (Keep.refl _ _)))
    ?hI ?hIx ?hAx ?h0 ?assign ?body ?stop
  case hI =>
    rintro hi k Wa Wb h1 h2 ⟨g1, g2⟩ hk
    refine ⟨fun W'' hk2 => g1 W'' ((hk.mono (fun q _ hq => ⟨by have := hq.1; omega, hq.2⟩)).trans hk2), hk.cell g2 (fun h => by have := h.1; simp at this; omega)⟩
  case hIx =>
    rintro cd hi k Wa Wb h1 h2 ⟨rfl, W3, g1, g2⟩ hk
    exact ⟨rfl, W3, g1, g2.trans (hk.mono (fun q _ hq => ⟨by have := hq.1; omega, hq.2⟩))⟩
  case hAx =>
    rintro hi k a1 Wa Wb h1 h2 ⟨Bx, g1, g2, rfl⟩ hk
    exact ⟨Bx, g1, hk.cell g2 (fun h => by have := h.2; simp at this; omega), rfl⟩
  case h0 =>
    intro hi Wa h1 h2 hg
    refine ⟨fun W'' hk => h0 hi W'' ?_ (by omega) (Nat.le_trans h2 hk.size), hg.cell y0 (by simp)⟩
    refine ⟨hk.os.trans (hg.os.trans hB1.os), hk.tape.trans (hg.tape.trans hB1.tape), hk.output.trans (hg.output.trans hB1.output), Nat.le_trans hB1.size (Nat.le_trans hg.size hk.size), fun q hq _ => ?_⟩
    exact (hk.block q (by have := hg.size; omega) (fun h => by have := h.1; omega)).trans ((hg.block q (by omega) (by simp)).trans (hB1.block q hq))
  case assign =>
    rintro l2 hi k Wa K h1 h2 ⟨g1, g2⟩ hK
    unfold wval at hK ⊢
    obtain ⟨f, hf⟩ : ∃ f, wf p T F k = f := ⟨_, rfl⟩
    rw [hf] at hK ⊢
    gi_wp2
    refine hK _ _ (World.grownBy_alloc _ _ _) ⟨Wa.heap.size, h2, ?_, rfl⟩
    simp [go_sem]
  case body =>
    rintro l2 hi k a1 Wa h1 h2 ⟨g1, g2⟩ ⟨Bx, g3, g4, rfl⟩
    obtain ⟨fn, tmps, assign, body, hyy, hRd⟩ := hY hi k Wa (by omega) (g1 Wa (Keep.refl _ _))
    unfold wval
    obtain ⟨f, hf⟩ : ∃ f, wf p T F k = f := ⟨_, rfl⟩
    rw [hf] at g4 hyy ⊢
    have HF := Lib.hid hf
    have G1 := Lib.hid g1
    clear hf g1
    gi_wp2
    refine (roundIn_in hRd).mono ?_
    rintro e W3 (⟨rfl, hJ3, hkB, hkr, hkg⟩ | ⟨rfl, hJx3, hkg⟩)
    · have HJ3 := Lib.hid hJ3
      clear hJ3
      gi_wp2
      refine ⟨⟨HJ3.out, (World.cell?_of_block (a := ⟨W.heap.size, 0, none⟩) (hkg W.heap.size ⟨by omega, by omega⟩)).trans g2⟩, hkB, hkg (W.heap.size + 1) ⟨by omega, by omega⟩, fun q hq => hkg q ⟨by have := hq.1; omega, hq.2⟩⟩
    · gi_wp2
      exact ⟨⟨rfl, W3, hJx3, Keep.refl _ _⟩, fun q hq => hkg q ⟨by have := hq.1; omega, hq.2⟩⟩
  case stop =>
    rintro D cd hi k Wa h1 h2 h3 ⟨rfl, W3, g1, g2⟩ hD
    gi_wp2
    refine ⟨by simp, .inl ⟨_, _, rfl, run_takeDeferred hD, ?_⟩⟩
    exact ⟨_, results_none rfl _ _ _, ⟨_, rfl⟩, hi, k, W3, by omega, g1, g2.trans (keep_putObj _ _ ⟨by omega, h2⟩)⟩
end Go.Proofs.Ytjpmncpbghlkaaa

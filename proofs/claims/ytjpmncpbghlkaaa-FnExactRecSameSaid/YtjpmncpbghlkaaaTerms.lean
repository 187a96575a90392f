/-
  The contracts of RecTerms of the program.
-/
import Derived.Maps.OwnIn
import Derived.Test.YtjpmncpbghlkaaaStr
import Derived.Test.YtjpmncpbghlkaaaRecV
import Derived.Test.YtjpmncpbghlkaaaRules
namespace Go.Proofs.Ytjpmncpbghlkaaa
open Go.RowKit Go.Shelf
attribute [local go_sem] Oper.semAt_some
def termsO (p : Int) (T F : List Int) (x : Int) : List Int := if recB p T F = true ∧ 0 ≤ x ∧ x ≤ 24 then trm p T F x.toNat else []
theorem termsO_len (p : Int) (T F : List Int) (x : Int) : (termsO p T F x).length ≤ 1048576 := by
  unfold termsO
  split
  · rw [trm_len]; omega
  · simp
theorem wpListIn_app_int {F : Fence} {nF : Nat} {ops : Array Oper} {rest : List Oper} {o : Oper} {a : Act} {Q : Exit → Act → World → Prop} {w : World} (hgd : o.guard = none) (s x : Operand)
    (ho : o.op = .call { callee := .builtin .append, args := #[s, x], argTypes := #[23, 23] })
    (B : Nat) (A : Option Addr) (n c : Nat) (xs : List Int) (hs : a.eval s = .slice A n c) (hown : OI w B A n c xs) (z : Int) (g c1 : Nat) (hx : a.eval x = .slice (some ⟨g, 0, none⟩) 1 c1) (hcell : w.cell? ⟨g, 0, none⟩ = some (.int .i64 z))
    (hn : n ≤ 1000000000) (hB : B ≤ w.heap.size)
    (h : ∀ (q c' : Nat) (w' : World), OI w' B (some ⟨q, 0, none⟩) (n + 1) c' (xs ++ [z]) → Keep (fun k => (Value.slice A n c).ownBlock = some k) w w' → ((Value.slice A n c).ownBlock = some q ∨ q = w.heap.size) → wpListIn F nF Try.prog ops Q rest (a.put o.dst (.slice (some ⟨q, 0, none⟩) (n + 1) c')) w') :
    wpListIn F nF Try.prog ops Q (o :: rest) a w := by
  obtain ⟨i0, hi, hz0, hz1, hz2⟩ := info_parts infoInt
  refine wpListIn_append_own_at w hgd s x 23 ho B 3 i0 (.int .i64 0) 1 8 Try.underlying23 hi hz0 hz1 hz2 rfl (by decide) _ n (ints xs) hs hown ⟨g, 0, none⟩ 1 c1 [.int .i64 z] hx rfl ?_ ?_ ?_ ?_ hB ?_
  · intro j u hj
    match j, hj with
    | 0, hj => simp at hj; subst hj; simpa [Addr.add] using hcell
  · intro u hu; simp at hu; subst hu; rfl
  · unfold maxLen; omega
  · omega
  · intro v' w' h2 h3 _ h5
    obtain ⟨q, c', rfl⟩ := ownsRow_succ h2
    refine h q c' w' (by unfold OI; simpa [ints] using h2) (keep_grown h3) ?_
    rcases h5 with h5 | h5
    · exact .inl h5.symm
    · right; simpa [Value.ownBlock] using h5
theorem wf_zero {p : Int} {T F : List Int} (h : recB p T F = true) (k : Nat) : wf p T F k 0 = stm p T F k := by
  obtain ⟨_, _, hl, _, _⟩ := recB_true h
  unfold wf
  split
  · rfl
  · obtain rfl : T = [] := List.eq_nil_of_length_eq_zero (by omega)
    obtain rfl : F = [] := List.eq_nil_of_length_eq_zero (by simpa using hl)
    exact (stm_nil p k).symm
/-- the numbers so far, in their box -/
def Nums (w W : World) (Bn Br Bm hi m : Nat) (p : Int) (T F : List Int) (k : Nat) : Prop :=
  ∃ (A5 : Option Addr) (c5 : Nat), Boxed W Bn 23 (.slice A5 k c5) ∧ OI W (Bm + 1) A5 k c5 (trm p T F k) ∧ (∀ g, (Value.slice A5 k c5).ownBlock = some g → g < Br ∨ hi ≤ g) ∧ W.cell? ⟨Bm, 0, none⟩ = some (.int .i64 m) ∧ Below w.heap.size w W ∧ k ≤ m
theorem Nums.keep {w W W' : World} {Bn Br Bm hi m : Nat} {p : Int} {T F : List Int} {k : Nat} (h : Nums w W Bn Br Bm hi m p T F k) (hk : Keep (Within (Br + 1) hi) W W') (h1 : Bn < Br) (h2 : Bm < Br) (h3 : w.heap.size ≤ Br) : Nums w W' Bn Br Bm hi m p T F k := by
  obtain ⟨A5, c5, g1, g2, g3, g4, g5, g6⟩ := h
  exact ⟨A5, c5, (hk.block Bn g1.lt (fun h => by have := h.1; omega)).trans g1, OIk g2 hk (fun g hg hs => by have := g3 g hg; have := hs.1; have := hs.2; omega), g3, hk.cell g4 (fun h => by have := h.1; simp at this; omega), g5.trans (hk.below g5.size (fun q hq => by have := hq.1; omega)), g6⟩
theorem cell_two {W : World} {a : Addr} {v : Value} (h : W.cell? a = some v) (o1 o2 : Obj) : ((W.alloc o1).alloc o2).cell? a = some v := (keep_of_below (((Below.refl _ W).alloc (Nat.le_refl _) o1).alloc (by simp) o2)).cell h (fun h => h)
set_option maxRecDepth 100000 in
set_option maxHeartbeats 2000000 in
theorem implRecTerms (v : Value) (p : Int) (T F : List Int) (x : Int) (w : World) (h : RV w v p T F) :
    Calls Try.prog 23 #[v, .int .i64 x] w (MadeI (termsO p T F x).length (termsO p T F x) w) := by
  obtain ⟨A, n, c, b, o, A', n', c', b', o', rfl, g1, g2⟩ := h
  have hB0 : Below w.heap.size w ((w.alloc (.cells #[.int .i64 p, .slice A n c, .slice A' n' c'] 25)).alloc (.cells #[.int .i64 x] 3)) := ((Below.refl _ w).alloc (Nat.le_refl _) _).alloc (by simp) _
  have HV0 := Lib.hid (show RV _ (.agg #[.int .i64 p, .slice A n c, .slice A' n' c']) p T F from ⟨_, _, _, _, _, _, _, _, _, _, rfl, g1.below hB0, g2.below hB0⟩)
  have H := Lib.hid g1
  have H' := Lib.hid g2
  have HB0 := Lib.hid hB0
  clear g1 g2 hB0
  rcases hv : recB p T F
  · have HV := Lib.hid hv
    have HE := Lib.hid (show termsO p T F x = [] by unfold termsO; rw [if_neg (by simp [hv])])
    clear hv
    go_enter Try.func23, Try.ntmps23
    go_wp2_with (go_at_call 16; refine (implRecValid _ p T F _ HV0.out).mono ?_; rintro e w1 ⟨rfl, hB⟩; rw [HV.out]; have HB := Lib.hid hB; clear hB)
    go_ret
    rw [HE.out]
    exact ⟨none, 0, rfl, World.ownsRow_nil _ _ _ _, below_more HB0.out HB.out⟩
  have HV := Lib.hid hv
  obtain ⟨W0, hW0⟩ : ∃ W0, (w.alloc (.cells #[.int .i64 p, .slice A n c, .slice A' n' c'] 25)).alloc (.cells #[.int .i64 x] 3) = W0 := ⟨_, rfl⟩
  have hs0 : W0.heap.size = w.heap.size + 2 := by rw [← hW0]; simp [go_sem]
  have z0 : W0.cell? ⟨w.heap.size, 0, none⟩ = some (.int .i64 p) := by rw [← hW0]; simp [go_sem]
  have z1 : W0.cell? ⟨w.heap.size, 1, none⟩ = some (.slice A n c) := by rw [← hW0]; simp [go_sem]
  have z2 : W0.cell? ⟨w.heap.size, 2, none⟩ = some (.slice A' n' c') := by rw [← hW0]; simp [go_sem]
  have zm : W0.cell? ⟨w.heap.size + 1, 0, none⟩ = some (.int .i64 x) := by rw [← hW0]; simp [go_sem]
  have Z := Lib.hid (And.intro z0 (And.intro z1 (And.intro z2 zm)))
  rw [hW0] at HV0 HB0
  clear hv
  by_cases hx : 0 ≤ x ∧ x ≤ 24
  case neg =>
    have HE := Lib.hid (show termsO p T F x = [] by unfold termsO; rw [if_neg (by simp only [not_and]; intro _; omega)])
    have hc : (x < 0) ∨ (¬ x < 0 ∧ 24 < x) := by omega
    clear hx
    go_enter Try.func23, Try.ntmps23
    rcases hc with hc | ⟨hc, hc2⟩
    · go_wp2_with (go_at_call 16; refine (implRecValid _ p T F _ HV0.out).mono ?_; rintro e w1 ⟨rfl, hB⟩; rw [HV.out]; have zm := (keep_of_below hB).cell Z.out.2.2.2 (fun h => h); have HB := Lib.hid hB; clear hB)
      go_ret
      rw [HE.out]
      exact ⟨none, 0, rfl, World.ownsRow_nil _ _ _ _, below_more HB0.out HB.out⟩
    · go_wp2_with (go_at_call 16; refine (implRecValid _ p T F _ HV0.out).mono ?_; rintro e w1 ⟨rfl, hB⟩; rw [HV.out]; have zm := (keep_of_below hB).cell Z.out.2.2.2 (fun h => h); have HB := Lib.hid hB; clear hB)
      go_ret
      rw [HE.out]
      exact ⟨none, 0, rfl, World.ownsRow_nil _ _ _ _, below_more HB0.out HB.out⟩
  obtain ⟨m, rfl⟩ : ∃ m : Nat, x = (m : Int) := ⟨x.toNat, by omega⟩
  have hm : m ≤ 24 := by omega
  have HE := Lib.hid (show termsO p T F (m : Int) = trm p T F m by unfold termsO; rw [if_pos ⟨HV.out, hx⟩]; rfl)
  have hmk : ∀ W : World, (Instr.makeSlice 23 (.int .i64 0) (.int .i64 (m : Int))).run Try.prog W = .ok (.slice (some ⟨W.heap.size, 0, none⟩) 0 m) (W.alloc (.cells (madeCells #[.int .i64 0] m) 3)) := by
    intro W
    obtain ⟨i0, hi, hz0, hz1, hz2⟩ := info_parts infoInt
    have hr := run_make (P := Try.prog) W 23 3 i0 (.int .i64 0) Try.underlying23 hi hz0 .i64 .i64 0 m (Int.le_refl _) (by omega) (by rw [hz2]; omega) (by omega)
    have e1 : madeCells (Value.int IntKind.i64 0).cells m = madeCells #[.int .i64 0] m := rfl
    rw [← e1]
    simpa [hz1] using hr
  refine (callsIn_wide (n := 9)).1 ?_
  refine callsIn_of_wp_marks Try.func23 rfl trivial ?_ rfl
  simp only [Try.ntmps23, List.size_toArray, List.length_cons, List.length_nil, Nat.reduceAdd, Nat.reduceSub, Array.replicate_succ, Array.replicate_zero, List.push_toArray, List.append_toArray, List.nil_append, List.cons_append]
  refine wpIn_wide.2 ?_
  go_wp2_with (go_at_call 16; refine (implRecValid _ p T F _ HV0.out).mono ?_; rintro e w1 ⟨rfl, hB⟩; rw [HV.out]; have zm := (keep_of_below hB).cell Z.out.2.2.2 (fun h => h); have k0 := (keep_of_below hB).cell Z.out.1 (fun h => h); have k1 := (keep_of_below hB).cell Z.out.2.1 (fun h => h); have k2 := (keep_of_below hB).cell Z.out.2.2.1 (fun h => h); have hsz := hB.size; have q0 := cell_two k0; have q1 := cell_two k1; have q2 := cell_two k2; have HB := Lib.hid hB; clear hB)
  refine (stream_any _ _ _ _).mono ?_
  rintro e w2 ⟨rfl, rfl⟩
  go_wp2_with (fail)
  refine (wpIn_wide (n := 9)).1 ?_
  obtain ⟨Wl, hWl⟩ : ∃ Wl, ((w1.alloc (.cells (madeCells #[.int .i64 0] m) 3)).alloc (.cells #[.slice (some ⟨w1.heap.size, 0, none⟩) 0 m] 23)).alloc (.cells #[.int .i64 p, .slice A n c, .slice A' n' c'] 25) = Wl := ⟨_, rfl⟩
  have hBl : Below w1.heap.size w1 Wl := by rw [← hWl]; exact (((Below.refl _ w1).alloc (Nat.le_refl _) _).alloc (by simp) _).alloc (by simp; omega) _
  have hsl : Wl.heap.size = w1.heap.size + 3 := by rw [← hWl]; simp
  have r0 : Wl.cell? ⟨w1.heap.size + 2, 0, none⟩ = some (.int .i64 p) := by rw [← hWl]; simp [go_sem]
  have r1 : Wl.cell? ⟨w1.heap.size + 2, 1, none⟩ = some (.slice A n c) := by rw [← hWl]; simp [go_sem]
  have r2 : Wl.cell? ⟨w1.heap.size + 2, 2, none⟩ = some (.slice A' n' c') := by rw [← hWl]; simp [go_sem]
  have hB1 : Below w.heap.size w w1 := below_more HB0.out HB.out
  have hBw : Below w.heap.size w Wl := below_more hB1 hBl
  have hbox : Boxed Wl (w1.heap.size + 1) 23 (.slice (some ⟨w1.heap.size, 0, none⟩) 0 m) := by
    rw [← hWl]
    have := (Boxed.new (w1.alloc (.cells (madeCells #[.int .i64 0] m) 3)) 23 (.slice (some ⟨w1.heap.size, 0, none⟩) 0 m)).alloc (.cells #[.int .i64 p, .slice A n c, .slice A' n' c'] 25)
    rwa [World.size_alloc] at this
  have hrow : OI Wl (w.heap.size + 1 + 1) (some ⟨w1.heap.size, 0, none⟩) 0 m [] := by
    have h1 := World.ownsRow_made (base := w.heap.size + 1 + 1) (e := 3) (size := 1) w1 (madeCells #[.int .i64 0] m) m (by omega) (by unfold maxLen; omega) (by simp [madeCells])
    rw [← hWl]
    exact owns_below (owns_below h1 ((Below.refl _ _).alloc (Nat.le_refl _) _)) ((Below.refl _ _).alloc (Nat.le_refl _) _)
  have hzm := (keep_of_below hBl).cell zm (fun h => h)
  have hnn : n' = n := by have h1 := H.out.len; have h2 := H'.out.len; have h3 := (recB_true HV.out).2.2.1; omega
  subst hnn
  have hbt : 0 < n' → b < w.heap.size := fun hn => by obtain ⟨_, _, hc⟩ := H.out.cell 0 hn; exact cell_lt hc
  have hbf : 0 < n' → b' < w.heap.size := fun hn => by obtain ⟨_, _, hc⟩ := H'.out.cell 0 hn; exact cell_lt hc
  have hR2 : BoxR Wl (w1.heap.size + 2) w.heap.size p T F A n' c b o A' c' b' o' := ⟨r0, r1, r2, H.out.below hBw, H'.out.below hBw, hbt, hbf, HV.out⟩
  have hWle : Wl.heap.size = (w1.heap.size + 2) + 1 := hsl
  rw [hWl]
  have hlo : Wl.heap.size = w1.heap.size + 2 + 1 := hsl
  have hn1 : w.heap.size ≤ w1.heap.size := hB1.size
  refine wpIn_endless (n₀ := w.heap.size) (Br := w1.heap.size + 2) (by decide) (gf := 75) (lb := #[.pointer (some ⟨w1.heap.size + 2, 0, none⟩)]) ?hg (enters_of Try.func75 (by kernel_rfl) rfl) (enc := fun k => #[.int .i64 k, .int .i64 (wf p T F k 0)]) (fun _ => rfl) (by omega) (by omega)
    (fun W1 hG => stream_endless (w1.heap.size + 2) w.heap.size p T F A n' c b o A' c' b' o' W1 (hR2.kept ⟨hG.os, hG.tape, hG.output, hG.size, fun k hk => hG.block k (by omega) (by simp)⟩ (hG.block _ (by omega) (by simp))) (by have := hG.size; omega) (by have := hG.size; omega)) m (by omega)
    (fun hi k Wc => Nums w Wc (w1.heap.size + 1) (w1.heap.size + 2) (w.heap.size + 1) hi m p T F k)
    (fun cd hi k Wc => cd = .exit 0 ∧ k = m ∧ Nums w Wc (w1.heap.size + 1) (w1.heap.size + 2) (w.heap.size + 1) hi m p T F k)
    (fun hi k a1 Wc => a1 = { tmps := #[.agg #[.int .i64 p, .slice A n' c, .slice A' n' c'], .int .i64 m, .pointer (some ⟨w.heap.size, 0, none⟩), .pointer (some ⟨w.heap.size + 1, 0, none⟩), .slice none 0 0, .pointer (some ⟨w1.heap.size + 1, 0, none⟩), .int .i64 k, .int .i64 (stm p T F k), .agg #[.int .i64 p, .slice A n' c, .slice A' n' c'], .bool true, .bool false, .bool false, .int .i64 m, .bool (decide ((m : Int) < 0)), .bool (decide ((m : Int) < 0)), .bool (decide ((m : Int) < 0)), .int .i64 m, .bool (decide (24 < (m : Int))), .bool (decide ((m : Int) < 0) || decide (24 < (m : Int))), .int .i64 m, .slice (some ⟨w1.heap.size, 0, none⟩) 0 m, .agg #[.int .i64 p, .slice A n' c, .slice A' n' c'], .func (.func 75) #[] #[.pointer (some ⟨w1.heap.size + 2, 0, none⟩)], .int .i64 k, .int .i64 (stm p T F k), undef, undef, undef, undef, undef, undef, undef, undef], defers := [] })
    (fun hi k Wc h => by obtain ⟨_, _, _, _, _, _, _, h⟩ := h; exact h)
    ?hI ?hIx (fun _ _ _ _ _ _ _ h _ => h) ?h0 ?assign ?body ?stop
  case hg => rfl
  case hI =>
    intro hi k Wa Wb h1 h2 h3 hk
    rw [hlo] at hk
    exact h3.keep hk (by omega) (by omega) (by omega)
  case hIx =>
    rintro cd hi k Wa Wb h1 h2 ⟨rfl, h4, h3⟩ hk
    rw [hlo] at hk
    exact ⟨rfl, h4, h3.keep hk (by omega) (by omega) (by omega)⟩
  case h0 =>
    intro hi Wa h1 h2 hg
    refine ⟨_, _, hbox.kept hg (by simp), OIk hrow (keep_grown_none (S := fun _ => False) hg) (fun _ _ h => h), fun g hgg => .inl (by simp [Value.ownBlock] at hgg; omega), hg.cell hzm (by simp), hBw.trans ((grown_below hg).mono hBw.size), by omega⟩
  case assign =>
    intro l2 hi k Wa K h1 h2 h3 hK
    rw [wf_zero HV.out]
    gi_wp2
    exact hK _ _ (World.grownBy.refl _ _) rfl
  case body =>
    rintro l2 hi k a1 Wa h1 h2 ⟨A5, c5, g1, g2, g3, g4, g5, g6⟩ rfl
    have hb1 := g1.cell
    by_cases hkm : k = m
    · subst hkm
      have hq : ((k : Int) == (k : Int)) = true := by simp
      gi_wp2
      exact ⟨⟨rfl, rfl, A5, c5, g1, g2, g3, g4, g5, g6⟩, fun _ _ => rfl⟩
    · have hq : ((k : Int) == (m : Int)) = false := by rw [beq_eq_false_iff_ne]; omega
      have hzW := g5.size
      have hnr : some (w1.heap.size + 1) ≠ (Value.slice A5 k c5).ownBlock := g1.not_row (by decide) g2
      have hBal : Below Wa.heap.size Wa (Wa.alloc (.cells #[.int .i64 (stm p T F k)] 3)) := (Below.refl _ Wa).alloc (Nat.le_refl _) _
      have HOA := Lib.hid (OIb g2 hBal)
      have HNC := Lib.hid (show (Wa.alloc (.cells #[.int .i64 (stm p T F k)] 3)).cell? ⟨Wa.heap.size, 0, none⟩ = some (.int .i64 (stm p T F k)) by simp [go_sem])
      have HG1 := Lib.hid (g1.alloc (.cells #[.int .i64 (stm p T F k)] 3))
      have HG2 := Lib.hid g2
      have HG4 := Lib.hid g4
      have HG5 := Lib.hid g5
      clear g2 g5
      gi_wp2_with (gi_at_builtin; refine wpListIn_app_int rfl (.tmp 28) (.tmp 30) rfl (w.heap.size + 1 + 1) A5 k c5 (trm p T F k) rfl HOA.out (stm p T F k) Wa.heap.size 1 rfl HNC.out (by omega) (by simp; omega) ?_; intro q c6 W6 hO6 hK6 hq6; have hb6 : Boxed W6 (w1.heap.size + 1) 23 (.slice A5 k c5) := ((hK6.block (w1.heap.size + 1) HG1.out.lt (fun h => hnr h.symm)).trans HG1.out); have hb7 := hb6.cell; have hb8 := hb6.frozen; have HO6 := Lib.hid hO6; have HK6 := Lib.hid hK6; have HQ6 := Lib.hid hq6; clear hO6 hK6 hq6)
      have hkA : Keep (fun g => (Value.slice A5 k c5).ownBlock = some g) Wa W6 := (keep_of_below hBal |>.mono (fun _ _ h => h.elim)).trans HK6.out
      have hne6 : some (w1.heap.size + 1) ≠ (Value.slice (some ⟨q, 0, none⟩) (k + 1) c6).ownBlock := hb6.not_row (by decide) HO6.out
      have hsc := setCell_keep W6 ⟨w1.heap.size + 1, 0, none⟩ (.slice (some ⟨q, 0, none⟩) (k + 1) c6)
      have hq7 : q < w1.heap.size + 2 ∨ hi ≤ q := by
        rcases HQ6.out with h | h
        · exact g3 q h
        · right; rw [h]; simp; omega
      have hall : Keep (fun g => (Value.slice A5 k c5).ownBlock = some g ∨ g = w1.heap.size + 1) Wa (W6.setCell ⟨w1.heap.size + 1, 0, none⟩ (.slice (some ⟨q, 0, none⟩) (k + 1) c6)) := (hkA.mono (fun _ _ h => .inl h)).trans (hsc.mono (fun _ _ h => .inr h))
      have hst := trm_step p T F k
      refine ⟨⟨some ⟨q, 0, none⟩, c6, hb6.set _, ?_, ?_, ?_, ?_, by omega⟩, ?_, ?_, ?_⟩
      · rw [hst]
        exact OIk HO6.out hsc (fun g hg hs => hne6 (by rw [hg]; exact congrArg some hs.symm))
      · intro g hg
        simp only [Value.ownBlock, Option.some.injEq] at hg
        omega
      · exact hall.cell HG4.out (fun h => by
          rcases h with h | h
          · have h2 := (HG2.out.lt _ h).1
            have h3 : w.heap.size + 1 + 1 ≤ w.heap.size + 1 := h2
            omega
          · simp at h; omega)
      · exact HG5.out.trans (hall.below hzW (fun g hg => by
          rcases hg with h | h
          · have := (HG2.out.lt g h).1; omega
          · omega))
      · exact hall.below hzW (fun g hg => by
          rcases hg with h | h
          · have := (HG2.out.lt g h).1; omega
          · omega)
      · exact hall.block (w1.heap.size + 2) (by omega) (fun h => by
          rcases h with h | h
          · have := g3 _ h; omega
          · omega)
      · intro g hg
        have e1 := hg.1
        have e2 := hg.2
        exact hall.block g (by omega) (fun h => by
          rcases h with h | h
          · have := g3 _ h; omega
          · omega)
  case stop =>
    rintro D cd hi k Wa h1 h2 h3 ⟨rfl, hkm, A5, c5, g1, g2, g3, g4, g5, g6⟩ hD
    subst hkm
    have hb1 := g1.cell
    have HG2 := Lib.hid g2
    have HG5 := Lib.hid g5
    clear g2 g5
    gi_wp2
    go_wp2_with (fail)
    refine ⟨by simp, .inl ⟨_, _, rfl, run_takeDeferred hD, ?_⟩⟩
    refine ⟨.slice A5 k c5, ?_, A5, c5, by rw [HE.out, trm_len], ?_, ?_⟩
    · simp [results, Try.f23, go_sem]
    · rw [HE.out, trm_len]
      exact owns_mono (OIk HG2.out (keep_putObj (S := fun g => g = D) Wa _ rfl) (fun g hg hs => by have := g3 g hg; omega)) (by omega)
    · exact HG5.out.trans ((keep_putObj (S := fun g => g = D) Wa (.deferred none) rfl).below (HG5.out.size) (fun g hg => by omega))
end Go.Proofs.Ytjpmncpbghlkaaa

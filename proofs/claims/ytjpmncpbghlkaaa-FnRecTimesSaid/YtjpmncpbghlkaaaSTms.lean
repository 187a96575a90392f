/-
  The contract of the model's RecTimes.
-/
import Derived.Deep.DeepCutAuto
import Derived.Test.YtjpmncpbghlkaaaTail
import Derived.Test.YtjpmncpbghlkaaaTms
import Derived.Test.YtjpmncpbghlkaaaDrawRec
namespace Go.Proofs.Ytjpmncpbghlkaaa
open Go.RowKit
/-- the boxes and the rows of an answer under way -/
structure TR (w wr : World) (B bo : Nat) (v0 v1 v2 : Value) (p : Int) (A1 : Option Addr) (m1 c1 : Nat) (T : List Int) (A2 : Option Addr) (m2 c2 : Nat) (F : List Int) : Prop where
  arg : Bx wr w.heap.size v0 v1 v2
  res : BxW wr (w.heap.size + 1) (.int .i64 0) (.slice none 0 0) (.slice none 0 0)
  box : BxW wr bo (.int .i64 p) (.slice A1 m1 c1) (.slice A2 m2 c2)
  t : OI wr B A1 m1 c1 T
  f : OI wr B A2 m2 c2 F
  ap : Apart (.slice A1 m1 c1) (.slice A2 m2 c2)
  ne1 : ∀ g, (Value.slice A1 m1 c1).ownBlock = some g → g ≠ bo
  ne2 : ∀ g, (Value.slice A2 m2 c2).ownBlock = some g → g ≠ bo
  bel : Below w.heap.size w wr
  hB : w.heap.size + 2 ≤ B
  hbo : B ≤ bo
section
variable {w wr : World} {B bo : Nat} {v0 v1 v2 : Value} {p : Int} {A1 : Option Addr} {m1 c1 : Nat} {T : List Int} {A2 : Option Addr} {m2 c2 : Nat} {F : List Int}
theorem TR.below (h : TR w wr B bo v0 v1 v2 p A1 m1 c1 T A2 m2 c2 F) {w' : World} (k : Below wr.heap.size wr w') : TR w w' B bo v0 v1 v2 p A1 m1 c1 T A2 m2 c2 F :=
  ⟨h.arg.below k, h.res.below k, h.box.below k, OIb h.t k, OIb h.f k, h.ap, h.ne1, h.ne2, below_more h.bel k, h.hB, h.hbo⟩
theorem TR.lt (h : TR w wr B bo v0 v1 v2 p A1 m1 c1 T A2 m2 c2 F) : bo < wr.heap.size := h.box.c.lt
theorem TR.mid (h : TR w wr B bo v0 v1 v2 p A1 m1 c1 T A2 m2 c2 F) {w' : World} (hK : Keep (fun k => (Value.slice A2 m2 c2).ownBlock = some k) wr w') : BxW w' bo (.int .i64 p) (.slice A1 m1 c1) (.slice A2 m2 c2) :=
  h.box.keep hK (fun hs => h.ne2 _ hs rfl)
theorem TR.app (h : TR w wr B bo v0 v1 v2 p A1 m1 c1 T A2 m2 c2 F) {w' : World} {q c' : Nat} {z : Int} (hO : OI w' B (some ⟨q, 0, none⟩) (m2 + 1) c' (F ++ [z])) (hK : Keep (fun k => (Value.slice A2 m2 c2).ownBlock = some k) wr w') (hq : (Value.slice A2 m2 c2).ownBlock = some q ∨ q = wr.heap.size) :
    TR w (w'.setCell ⟨bo, 2, none⟩ (.slice (some ⟨q, 0, none⟩) (m2 + 1) c')) B bo v0 v1 v2 p A1 m1 c1 T (some ⟨q, 0, none⟩) (m2 + 1) c' (F ++ [z]) := by
  have hst : ∀ g, (Value.slice A2 m2 c2).ownBlock = some g → B ≤ g := fun g hg => (h.f.lt g hg).1
  have hmid := h.mid hK
  have hBw := h.hB
  have hbo := h.hbo
  have hlt := h.lt
  have hsc := setCell_keep w' ⟨bo, 2, none⟩ (.slice (some ⟨q, 0, none⟩) (m2 + 1) c')
  have hk2 : Keep (fun g => (Value.slice A2 m2 c2).ownBlock = some g ∨ g = bo) wr (w'.setCell ⟨bo, 2, none⟩ (.slice (some ⟨q, 0, none⟩) (m2 + 1) c')) := (hK.mono (fun _ _ h => .inl h)).trans (hsc.mono (fun _ _ h => .inr h))
  have hqb : q ≠ bo := by
    rcases hq with hq | hq
    · exact h.ne2 q hq
    · omega
  refine ⟨h.arg.keep hk2 (fun e => ?_), h.res.keep hk2 (fun e => ?_), ⟨⟨?_, ?_, ?_⟩, fun o' => ?_⟩, OIk h.t hk2 (fun g hg e => ?_), ?_, ?_, h.ne1, ?_, h.bel.trans (hk2.below h.bel.size (fun g e => ?_)), h.hB, h.hbo⟩
  · rcases e with e | e
    · have := hst _ e; omega
    · omega
  · rcases e with e | e
    · have := hst _ e; omega
    · omega
  · exact (World.cell?_setCell_other w' ⟨bo, 2, none⟩ ⟨bo, 0, none⟩ _ (by simp)).trans hmid.c.1
  · exact (World.cell?_setCell_other w' ⟨bo, 2, none⟩ ⟨bo, 1, none⟩ _ (by simp)).trans hmid.c.2.1
  · exact World.cell?_setCell_same' w' ⟨bo, 2, none⟩ _ (by rw [hmid.c.2.2]; rfl)
  · exact (World.frozen?_setCell w' ⟨bo, 2, none⟩ ⟨bo, o', none⟩ _).trans (hmid.fz o')
  · rcases e with e | e
    · exact ap1 h.ap hg e
    · exact h.ne1 g hg e
  · exact OIk hO hsc (fun g hg e => by
      have e1 : q = g := Option.some.inj hg
      have e2 : g = bo := e
      exact hqb (e1.trans e2))
  · rcases hg : (Value.slice A1 m1 c1).ownBlock with _ | g
    · exact .inl hg
    · right
      rw [hg]
      intro e
      have e' : g = q := Option.some.inj e
      subst e'
      rcases hq with hq | hq
      · exact ap1 h.ap hg hq
      · have := (h.t.lt g hg).2
        omega
  · intro g hg
    have e1 : q = g := Option.some.inj hg
    rw [← e1]; exact hqb
  · rcases e with e | e
    · have := hst _ e; omega
    · omega
end
theorem apart_nil (u : Value) : Apart u (.slice none 0 0) := by
  rcases h : u.ownBlock with _ | g
  · exact .inl h
  · exact .inr (fun e => by rw [h] at e; cases e)
theorem run_app_anyB (w : World) (B : Nat) (g n c : Nat) (xs : List Int) (hown : OI w B (some ⟨g, 0, none⟩) n c xs) (A2 : Option Addr) (m c2 b2 o2 : Nat) (ys : List Int) (h2 : IA w A2 m b2 o2 ys) (hA : A2 = none → m = 0) (hn : n + m ≤ 1000000000) (hB : B ≤ w.heap.size) :
    ∃ (A' : Option Addr) (c' : Nat) (w' : World), (Builtin.append_ #[23, 23] 23 #[.slice (some ⟨g, 0, none⟩) n c, .slice A2 m c2]).run Try.prog w = .ok (.slice A' (n + m) c') w' ∧ OI w' B A' (n + m) c' (xs ++ ys) ∧ w.grownBy w' (some g) ∧ (∀ k, (Value.slice A' (n + m) c').ownBlock = some k → k = g ∨ k = w.heap.size) := by
  obtain ⟨i0, hi, hz0, hz1, hz2⟩ := info_parts infoInt
  by_cases hm : m = 0
  · subst hm
    obtain rfl : ys = [] := List.eq_nil_of_length_eq_zero h2.len
    have hcap : n ≤ c := OI.capLe hown
    have hsrc : Src Try.prog i0.size 23 (.slice A2 0 c2) 0 [] w := by
      cases A2 with
      | none => exact Src.ofNil w Try.underlying23 c2
      | some a => exact Src.ofSlice w Try.underlying23 a 0 c2 [] (by simp) (fun j u h => by simp at h) (fun u h => by cases h)
    have hr := run_append_room_src (P := Try.prog) w 23 23 23 3 i0 Try.underlying23 hi g 0 n c (.slice A2 0 c2) 0 [] hsrc (by omega) (fun j h => by simp at h) (fun j h => by simp at h)
    refine ⟨_, _, _, hr, ?_, World.grownBy.refl _ _, fun k hk => .inl ?_⟩
    · rw [List.append_nil]; exact hown
    · exact (Option.some.inj hk).symm
  · obtain rfl := h2.adr (by omega)
    obtain ⟨v', w', hr, h3, h4, _, h5⟩ := run_append_own_at (P := Try.prog) w B 23 23 3 i0 (.int .i64 0) 1 8 Try.underlying23 hi hz0 hz1 hz2 rfl (by decide) _ n (ints xs) hown ⟨b2, o2, none⟩ m c2 (ints ys) (by rw [ints_len, h2.len]; omega) h2.src (ints_one ys) (by unfold maxLen; omega) (by omega) hB
    obtain ⟨A', c', rfl⟩ := owns_shape h3
    refine ⟨A', c', w', hr, ?_, h4, fun k hk => ?_⟩
    · unfold OI
      simpa [ints] using h3
    · rcases h5 with h5 | h5
      · rw [hk] at h5; exact .inl (Option.some.inj h5)
      · rw [hk] at h5; exact .inr (Option.some.inj h5)
theorem step_app_anyB {ops : Array Oper} {o : Oper} {a : Act} {w : World} {K : Act → World → Prop} {Q : Exit → Act → World → Prop} {E : Prop} (hg : o.guard = none) (s x : Operand)
    (ho : o.op = .call { callee := .builtin .append, args := #[s, x], argTypes := #[23, 23] }) (hty : o.type = 23)
    (B g n c : Nat) (xs : List Int) (hs : a.eval s = .slice (some ⟨g, 0, none⟩) n c) (hown : OI w B (some ⟨g, 0, none⟩) n c xs) (A2 : Option Addr) (m c2 b2 o2 : Nat) (ys : List Int) (hx : a.eval x = .slice A2 m c2) (h2 : IA w A2 m b2 o2 ys) (hA : A2 = none → m = 0)
    (hn : n + m ≤ 1000000000) (hB : B ≤ w.heap.size)
    (h : ∀ (A' : Option Addr) (c' : Nat) (w' : World), OI w' B A' (n + m) c' (xs ++ ys) → w.grownBy w' (some g) → (∀ k, (Value.slice A' (n + m) c').ownBlock = some k → k = g ∨ k = w.heap.size) → K (a.put o.dst (.slice A' (n + m) c')) w') :
    if Region.wanted o (yielded ops a.tmps) = true then Oper.wp Try.prog o a w K Q else E := by
  have hw : Region.wanted o (yielded ops a.tmps) = true := by simp [Region.wanted, hg]
  rw [if_pos hw]
  obtain ⟨A', c', w', hr, h3, h4, h5⟩ := run_app_anyB w B g n c xs hown A2 m c2 b2 o2 ys h2 hA hn hB
  unfold Oper.wp execOp
  simp only [ho, hty, resolve, invoke, builtin, Sem.run_bind, Sem.run_pure, Result.andThen_ok, List.map_toArray, List.map_cons, List.map_nil, hs, hx, hr]
  exact h A' c' w' h3 h4 h5
theorem below_row {w1 W w6 : World} {g : Nat} (hW : Below w1.heap.size w1 W) (hg : W.grownBy w6 (some g)) (h : w1.heap.size ≤ g) : Below w1.heap.size w1 w6 :=
  hW.trans ((keep_grown hg).below hW.size (fun k hk => by cases hk; exact h))
theorem tr_set3 {w w1 w6 : World} {bo : Nat} {v0 v1 v2 u0 u1 u2 : Value} {p : Int} {A6 : Option Addr} {n c6 : Nat} {T : List Int} (ha : Bx w1 w.heap.size v0 v1 v2) (hr : BxW w1 (w.heap.size + 1) (.int .i64 0) (.slice none 0 0) (.slice none 0 0)) (hb1 : Below w.heap.size w w1) (hb6 : Below w1.heap.size w1 w6) (hz : BxW w6 bo u0 u1 u2) (hO : OI w6 w1.heap.size A6 n c6 T) (hne : ∀ k, (Value.slice A6 n c6).ownBlock = some k → k ≠ bo) (hbo : w1.heap.size ≤ bo) :
    TR w (set3 w6 bo (.int .i64 p) (.slice A6 n c6) (.slice none 0 0)) w1.heap.size bo v0 v1 v2 p A6 n c6 T none 0 0 [] := by
  have h1 := hr.c.lt
  have hk := set3_keep w6 bo (.int .i64 p) (.slice A6 n c6) (.slice none 0 0)
  refine ⟨(ha.below hb6).keep hk (by omega), (hr.below hb6).keep hk (by omega), ⟨⟨?_, ?_, ?_⟩, fun o => ?_⟩, OIk hO hk (fun g hg e => hne g hg e), World.ownsRow_nil _ _ _ _, apart_nil _, hne, fun g hg => (by cases hg), (below_more hb1 hb6).trans (set3_far w6 bo _ _ _ (by omega) (by have := (below_more hb1 hb6).size; omega)), by omega, hbo⟩
  · unfold set3
    rw [World.cell?_setCell_other _ ⟨bo, 2, none⟩ ⟨bo, 0, none⟩ _ (by simp), World.cell?_setCell_other _ ⟨bo, 1, none⟩ ⟨bo, 0, none⟩ _ (by simp)]
    exact World.cell?_setCell_same' w6 ⟨bo, 0, none⟩ _ (by rw [hz.c.1]; rfl)
  · unfold set3
    rw [World.cell?_setCell_other _ ⟨bo, 2, none⟩ ⟨bo, 1, none⟩ _ (by simp)]
    exact World.cell?_setCell_same' _ ⟨bo, 1, none⟩ _ (by rw [World.cell?_setCell_other _ ⟨bo, 0, none⟩ ⟨bo, 1, none⟩ _ (by simp), hz.c.2.1]; rfl)
  · unfold set3
    exact World.cell?_setCell_same' _ ⟨bo, 2, none⟩ _ (by rw [World.cell?_setCell_other _ ⟨bo, 1, none⟩ ⟨bo, 2, none⟩ _ (by simp), World.cell?_setCell_other _ ⟨bo, 0, none⟩ ⟨bo, 2, none⟩ _ (by simp), hz.c.2.2]; rfl)
  · unfold set3
    rw [World.frozen?_setCell, World.frozen?_setCell, World.frozen?_setCell]
    exact hz.fz o
theorem tr_new {w w1 w6 : World} {v0 v1 v2 : Value} {p : Int} {A6 : Option Addr} {n c6 : Nat} {T : List Int} (ha : Bx w1 w.heap.size v0 v1 v2) (hr : BxW w1 (w.heap.size + 1) (.int .i64 0) (.slice none 0 0) (.slice none 0 0)) (hb1 : Below w.heap.size w w1) (hb6 : Below w1.heap.size w1 w6) (hO : OI w6 w1.heap.size A6 n c6 T) :
    TR w (w6.alloc (.cells #[.int .i64 p, .slice A6 n c6, .slice none 0 0] 25)) w1.heap.size w6.heap.size v0 v1 v2 p A6 n c6 T none 0 0 [] := by
  have h1 := hr.c.lt
  have hn := below_new w6 (.cells #[.int .i64 p, .slice A6 n c6, .slice none 0 0] 25)
  exact ⟨(ha.below hb6).below hn, (hr.below hb6).below hn, BxW.new _ _ _ _ _, OIb hO hn, World.ownsRow_nil _ _ _ _, apart_nil _, fun g hg => (by have := (hO.lt g hg).2; omega), fun g hg => (by cases hg), below_more (below_more hb1 hb6) hn, by omega, hb6.size⟩
set_option maxRecDepth 100000 in
set_option maxHeartbeats 2000000 in
theorem specRecTimes (v : Value) (p : Int) (T F : List Int) (t : Int) (w : World) (h : RV w v p T F) :
    Calls Try.prog 45 #[v, .int .i64 t] w (MadeR (timesO p T F t).1 (timesO p T F t).2.1 (timesO p T F t).2.2 w) := by
  obtain ⟨A, n, c, b, o, A', n', c', b', o', rfl, g1, g2⟩ := h
  have H := Lib.hid (show RV w (.agg #[.int .i64 p, .slice A n c, .slice A' n' c']) p T F from ⟨_, _, _, _, _, _, _, _, _, _, rfl, g1, g2⟩)
  have HT2 := Lib.hid g1
  have HF2 := Lib.hid g2
  have HL := Lib.hid g1.len
  have HL' := Lib.hid g2.len
  have hbx := (Bx.new w (.int .i64 p) (.slice A n c) (.slice A' n' c') 25).below (below_new _ (.cells #[.int .i64 0, .slice none 0 0, .slice none 0 0] 25))
  have hbw := BxW.new (w.alloc (.cells #[.int .i64 p, .slice A n c, .slice A' n' c'] 25)) (.int .i64 0) (.slice none 0 0) (.slice none 0 0) 25
  rw [World.size_alloc] at hbw
  have hB0 := ((Below.refl w.heap.size w).alloc (Nat.le_refl _) (.cells #[.int .i64 p, .slice A n c, .slice A' n' c'] 25)).alloc (by simp) (.cells #[.int .i64 0, .slice none 0 0, .slice none 0 0] 25)
  have HV0 := Lib.hid (H.out.below hB0)
  have HBX := Lib.hid hbx
  have HBW := Lib.hid hbw
  have HB0 := Lib.hid hB0
  clear g1 g2 hbx hbw hB0
  rcases hv : recB p T F
  · have HV := Lib.hid hv
    have HE := Lib.hid (show timesO p T F t = (0, [], []) by unfold timesO; rw [if_neg (by simp [hv])])
    clear hv
    go_enter Try.func45, Try.ntmps45
    go_wp2_with (go_at_call 17; refine (specRecValid _ p T F _ HV0.out).mono ?_; rintro e w1 ⟨rfl, hB⟩; rw [HV.out]; have HB1 := Lib.hid (below_more HB0.out hB); have hbw := HBW.out.below hB; have x0 := hbw.c.1; have x1 := hbw.c.2.1; have x2 := hbw.c.2.2; have fz := hbw.fz; clear hB hbw)
    refine bodyPost_ret (v := .agg #[.int .i64 0, .slice none 0 0, .slice none 0 0]) (by simp [results, Try.f45, go_sem, x0, x1, x2]) rfl ?_
    rw [HE.out]
    exact made_zero HB1.out (by omega)
  have HV := Lib.hid hv
  rcases ht : numB p t
  · have HN := Lib.hid ht
    have HE := Lib.hid (show timesO p T F t = (0, [], []) by unfold timesO; rw [if_neg (by simp [ht])])
    clear hv ht
    go_enter Try.func45, Try.ntmps45
    go_wp2_with (first | (go_at_call 17; refine (specRecValid _ p T F _ HV0.out).mono ?_; rintro e w1 ⟨rfl, hB⟩; rw [HV.out]; have HB1 := Lib.hid (below_more HB0.out hB); have hbx := HBX.out.below hB; have y0 := hbx.1; have hbw := HBW.out.below hB; have x0 := hbw.c.1; have x1 := hbw.c.2.1; have x2 := hbw.c.2.2; have fz := hbw.fz; clear hB hbx hbw) | (go_at_call 71; refine (specNumValid _ _ _).mono ?_; rintro e w1' ⟨rfl, rfl⟩; rw [HN.out]))
    refine bodyPost_ret (v := .agg #[.int .i64 0, .slice none 0 0, .slice none 0 0]) (by simp [results, Try.f45, go_sem, x0, x1, x2]) rfl ?_
    rw [HE.out]
    exact made_zero HB1.out (by omega)
  obtain ⟨hp, h6, hl, hT, hF⟩ := recB_true hv
  have hpb := prime_ge hp
  have hp0 : p ≠ 0 := by omega
  have htb := numB_bd ht
  have HN := Lib.hid ht
  have HF := Lib.hid hF
  have HE := Lib.hid (show timesO p T F t = (p, T, scaleRow p t F) by unfold timesO; rw [if_pos ⟨hv, ht⟩])
  have hn6 : n' ≤ 8 := by rw [← HL'.out]; omega
  have hn6' : n ≤ 8 := by rw [← HL.out]; omega
  clear hv ht hp hT hF hl h6
  go_enter Try.func45, Try.ntmps45
  go_upto_region 3 with (first | (go_at_call 17; refine (specRecValid _ p T F _ HV0.out).mono ?_; rintro e w1 ⟨rfl, hB⟩; rw [HV.out]; have HB1 := Lib.hid (below_more HB0.out hB); have hbx := HBX.out.below hB; have y0 := hbx.1; have y1 := hbx.2.1; have y2 := hbx.2.2; have HBX1 := Lib.hid hbx; have HBW1 := Lib.hid (HBW.out.below hB); clear hB hbx) | (go_at_call 71; refine (specNumValid _ _ _).mono ?_; rintro e w1' ⟨rfl, rfl⟩; rw [HN.out]))
  have hs1 := HBW1.out.c.lt
  have hs0 : w.heap.size < w1.heap.size := by omega
  have hs0' : w.heap.size ≠ w1.heap.size := by omega
  go_cut [5] (fun v wx => ∃ (bo : Nat) (A6 : Option Addr) (c6 : Nat), v = .pointer (some ⟨bo, 0, none⟩) ∧ TR w wx w1.heap.size bo (.int .i64 p) (.slice A n c) (.slice A' n' c') p A6 n c6 T none 0 0 [])
  case first =>
    obtain ⟨d0, d1, d2⟩ := HBX1.out.drew
    have HTd := Lib.hid (HT2.out.below HB1.out.drew)
    have hz1 := (BxW.new (w1.alloc (.cells #[] 3)) (.int .i64 0) (.slice none 0 0) (.slice none 0 0) 25).drew
    rw [World.size_alloc] at hz1
    have HZ1 := Lib.hid hz1
    have HZ2 := Lib.hid ((BxW.new w1 (.int .i64 0) (.slice none 0 0) (.slice none 0 0) 25).below (below_new _ (.cells #[] 3))).drew
    have ho1 := oi_empty (w1.alloc (.cells #[.int .i64 0, .slice none 0 0, .slice none 0 0] 25)) w1.heap.size (below_new w1 _).size
    rw [World.size_alloc] at ho1
    have HOa := Lib.hid (OIb ho1 (below_new_drew _))
    have ho2 := oi_empty w1 w1.heap.size (Nat.le_refl _)
    have HOb := Lib.hid (OIb ho2 (below_new_drew _))
    have HOc := Lib.hid (OIb (OIb ho2 (below_new _ (.cells #[.int .i64 0, .slice none 0 0, .slice none 0 0] 25))) (below_new_drew _))
    have hT1 := HT2.out.below HB1.out
    have HTa := Lib.hid (((hT1.below (below_new _ (.cells #[.int .i64 0, .slice none 0 0, .slice none 0 0] 25))).below (below_new _ (.cells #[] 3))).below (below_new_drew _))
    have HTb := Lib.hid ((hT1.below (below_new _ (.cells #[] 3))).below (below_new_drew _))
    have HTc := Lib.hid (((hT1.below (below_new _ (.cells #[] 3))).below (below_new _ (.cells #[.int .i64 0, .slice none 0 0, .slice none 0 0] 25))).below (below_new_drew _))
    clear hz1 ho1 ho2 hT1
    have ZS := And.intro y0 (And.intro y1 y2)
    have Zd := And.intro d0 (And.intro d1 d2)
    have hfa : ∀ (W : World) (o o' : Nat) (v : Value), (W.setCell ⟨w1.heap.size, o, none⟩ v).cell? ⟨w.heap.size, o', none⟩ = W.cell? ⟨w.heap.size, o', none⟩ := fun W o o' v => World.cell?_setCell_far _ _ _ _ (by show w1.heap.size ≠ w.heap.size; omega)
    have hfb : ∀ (W : World) (o o' : Nat) (v : Value), (W.setCell ⟨w1.heap.size + 1, o, none⟩ v).cell? ⟨w.heap.size, o', none⟩ = W.cell? ⟨w.heap.size, o', none⟩ := fun W o o' v => World.cell?_setCell_far _ _ _ _ (by show w1.heap.size + 1 ≠ w.heap.size; omega)
    go_region_held3 (fun w' => w'.cell? ⟨w.heap.size, 0, none⟩ = some (.int .i64 p) ∧ w'.cell? ⟨w.heap.size, 1, none⟩ = some (.slice A n c) ∧ w'.cell? ⟨w.heap.size, 2, none⟩ = some (.slice A' n' c')) (first | assumption | exact ZF | exact Zd | exact ZS | (refine ⟨?_, ?_, ?_⟩ <;> (simp only [hfa]; assumption)) | (refine ⟨?_, ?_, ?_⟩ <;> (simp only [hfb]; assumption)) | (refine ⟨?_, ?_, ?_⟩ <;> (simp only [hf6]; assumption)) | go_keep)
      ((refine step_app_anyB rfl (.tmp 20) (.tmp 22) rfl rfl w1.heap.size _ 0 0 [] rfl (by first | exact HOa.out | exact HOb.out | exact HOc.out) A n c b o T rfl (by first | exact HTa.out | exact HTb.out | exact HTc.out) (fun hA => Classical.byContradiction fun hc => by have := HT2.out.adr (by omega); rw [hA] at this; cases this) (by omega) (by first | exact (below_new w1 _).size | exact Nat.le_trans (below_new w1 _).size (below_new _ _).size | (simp; omega)) ?_; intro A6 c6 w6 hO6 hg6 hq6; have hb6 : Below w1.heap.size w1 w6 := (by first | exact below_row (below_new w1 _).drew hg6 (by omega) | exact below_row (below_more (below_new w1 _) (below_new _ _)).drew hg6 (by omega)); have hx6 := HBX1.out.below hb6; have v0 := hx6.1; have v1 := hx6.2.1; have v2 := hx6.2.2; have hs6 : w.heap.size < w6.heap.size := (by have := hb6.size; omega); have hs6' : w.heap.size ≠ w6.heap.size := (by omega); (first | (have hbz := HZ1.out.keep (keep_grown hg6) (by simp); have z0 := hbz.c.1; have z1 := hbz.c.2.1; have z2 := hbz.c.2.2; have zf := hbz.fz; have HQ := Lib.hid (fun k hk => show k ≠ w1.heap.size + 1 from by have := hq6 k hk; simp at this; omega)) | (have hbz := HZ2.out.keep (keep_grown hg6) (by simp); have z0 := hbz.c.1; have z1 := hbz.c.2.1; have z2 := hbz.c.2.2; have zf := hbz.fz; have HQ := Lib.hid (fun k hk => show k ≠ w1.heap.size from by have := hq6 k hk; simp at this; omega)) | skip); have hO6' := hO6; rw [Nat.zero_add, List.nil_append] at hO6'; have HO6 := Lib.hid hO6'; have HB6 := Lib.hid hb6; have ZF := And.intro v0 (And.intro v1 v2); have hf6 : ∀ (W : World) (o o' : Nat) (v : Value), (W.setCell ⟨w6.heap.size, o, none⟩ v).cell? ⟨w.heap.size, o', none⟩ = W.cell? ⟨w.heap.size, o', none⟩ := (fun W o o' v => World.cell?_setCell_far _ _ _ _ (by show w6.heap.size ≠ w.heap.size; omega)); clear hO6 hO6' hg6 hq6 hb6))
    all_goals
      go_wp2_with (fail)
      go_meet
      first
        | exact ⟨_, _, _, rfl, tr_new HBX1.out HBW1.out HB1.out HB6.out HO6.out⟩
        | exact ⟨_, _, _, rfl, tr_set3 HBX1.out HBW1.out HB1.out HB6.out hbz HO6.out (by have := HQ.out; rwa [Nat.zero_add] at this) (by omega)⟩
  case rest =>
  obtain ⟨bo, A6, c6, rfl, hTR⟩ := hcut
  have HTR := Lib.hid hTR
  clear hTR y0 y1 y2
  go_wp2_with (fail)
  go_loopw [6] (fun i wr => ∃ (k : Nat) (A7 : Option Addr) (c7 : Nat), k ≤ n' ∧ i = .int .i64 (k : Int) ∧ Hid (TR w wr w1.heap.size bo (.int .i64 p) (.slice A n c) (.slice A' n' c') p A6 n c6 T A7 k c7 ((scaleRow p t F).take k))) (fun i _ => n' - (intOf i).toNat)
  case atStart => exact ⟨0, none, 0, by omega, rfl, HTR.out⟩
  case round =>
    obtain ⟨k, A7, c7, hk, rfl, hh⟩ := hrel
    obtain ⟨wo, rfl⟩ : ∃ wo : World, wo = wr := ⟨_, rfl⟩
    obtain ⟨y0, y1, y2⟩ := hh.out.arg
    obtain ⟨x0, x1, x2⟩ := hh.out.box.c
    by_cases hlt : k < n'
    · obtain rfl := HF2.out.adr (by omega)
      obtain ⟨x, hx, hc⟩ := (HF2.out.below hh.out.bel).cell k hlt
      have hxb := numB_bd (HF.out x (List.mem_of_getElem? hx))
      have hmb := mul_bd hxb.1 (by omega) htb.1 (by omega)
      have hw3 : IntKind.i64.wrap (x * t) = x * t := IntWalk.i64_in _ ⟨by omega, by omega⟩
      obtain ⟨r, hr⟩ : ∃ r, x * t % p = r := ⟨_, rfl⟩
      have htm : (x * t).tmod p = r := by rw [Int.tmod_eq_emod_of_nonneg hmb.1]; exact hr
      have HST := Lib.hid (show (scaleRow p t F).take k ++ [r] = (scaleRow p t F).take (k + 1) by
        rw [List.take_add_one, scaleI_get hx, hr]; rfl)
      have HR := Lib.hid hr
      clear hx
      go_wp2_with (fail)
      have HTQ := Lib.hid ((hh.out.below (below_new wo (.cells #[.int .i64 r] 3))).below (below_new_drew _))
      have HCL := Lib.hid (show (wo.alloc (.cells #[.int .i64 r] 3)).drew.cell? ⟨wo.heap.size, 0, none⟩ = some (.int .i64 r) from cellNew wo (.int .i64 r) 3)
      have hltb := hh.out.lt
      have hltb' : bo ≠ wo.heap.size := by omega
      have hlta : w.heap.size < wo.heap.size := hh.out.arg.lt
      have hlta' : w.heap.size ≠ wo.heap.size := by omega
      have hltf : b' < wo.heap.size := cell_lt hc
      have hltf' : b' ≠ wo.heap.size := by omega
      go_region_law (refine step_app_own rfl (.tmp 33) (.tmp 44) rfl rfl w1.heap.size A7 k c7 ((scaleRow p t F).take k) rfl HTQ.out.f r wo.heap.size 1 rfl HCL.out (by omega) (Nat.le_of_lt (Nat.lt_of_le_of_lt HTQ.out.hbo HTQ.out.lt)) ?_; intro q7 c8 w7 hO7 hK7 hq7; have hm7 := HTQ.out.mid hK7; have z0 := hm7.c.1; have z1 := hm7.c.2.1; have z2 := hm7.c.2.2; have zf := hm7.fz; have HT7 := Lib.hid (HTQ.out.app hO7 hK7 hq7); clear hO7 hK7 hq7 hm7)
      all_goals
        go_wp2_with (fail)
        go_roundw
        case rel => exact ⟨k + 1, _, _, by omega, by go_num, by rw [← HST.out]; exact HT7.out⟩
        case measure => simp [intOf]; omega
    · obtain rfl : k = n' := by omega
      obtain ⟨r0, r1, r2⟩ := hh.out.res.c
      have rf := hh.out.res.fz
      have hfull : (scaleRow p t F).take k = scaleRow p t F := List.take_of_length_le (by rw [scaleRow_len, HL'.out]; exact Nat.le_refl _)
      have HH := Lib.hid (hfull ▸ hh.out)
      clear hfull
      go_wp2_with (fail)
      refine bodyPost_ret (v := .agg #[.int .i64 p, .slice A6 n c6, .slice A7 k c7]) (by simp [results, Try.f45, go_sem, r0, r1, r2]) rfl ?_
      rw [HE.out]
      have h2 := HH.out.hB
      exact made_set3 HH.out.bel HL.out (by rw [scaleRow_len]; exact HL'.out) HH.out.t HH.out.f (by omega) (by omega) (by omega) (fun g hg => by have := (HH.out.t.lt g hg).1; omega) (fun g hg => by have := (HH.out.f.lt g hg).1; omega) HH.out.ap
end Go.Proofs.Ytjpmncpbghlkaaa

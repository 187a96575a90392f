/-
  The contracts of l20RecOf, l20Rec and of the draws of one recurrence.
-/
import Derived.Deep.RegionLaw
import Derived.Maps.AppendAt
import Derived.RangeFuncBox
import Derived.Test.YtllakclbgmingaaDrawQ
import Derived.Test.YtllakclbgmingaaBxs
namespace Go.Proofs.Ytllakclbgmingaa
open Go.RowKit
theorem run_app_own1 (w : World) (B : Nat) (A : Option Addr) (n c : Nat) (xs : List Int) (hown : OI w B A n c xs) (z : Int) (g c1 : Nat) (hcell : w.cell? ⟨g, 0, none⟩ = some (.int .i64 z)) (hn : n ≤ 1000000000) (hB : B ≤ w.heap.size) :
    ∃ (q c' : Nat) (w' : World), (Builtin.append_ #[23, 23] 23 #[.slice A n c, .slice (some ⟨g, 0, none⟩) 1 c1]).run Try.prog w = .ok (.slice (some ⟨q, 0, none⟩) (n + 1) c') w' ∧ OI w' B (some ⟨q, 0, none⟩) (n + 1) c' (xs ++ [z]) ∧ Keep (fun k => (Value.slice A n c).ownBlock = some k) w w' ∧ ((Value.slice A n c).ownBlock = some q ∨ q = w.heap.size) := by
  obtain ⟨i0, hi, hz0, hz1, hz2⟩ := info_parts infoInt
  obtain ⟨v', w', hr, h3, h4, _, h5⟩ := run_append_own_at (P := Try.prog) w B 23 23 3 i0 (.int .i64 0) 1 8 Try.underlying23 hi hz0 hz1 hz2 rfl (by decide) _ n (ints xs) hown ⟨g, 0, none⟩ 1 c1 [.int .i64 z] (by simp) (fun j u hj => by
    match j, hj with
    | 0, hj => simp at hj; subst hj; simpa [Addr.add] using hcell) (fun u hu => by simp at hu; subst hu; rfl) (by unfold maxLen; omega) (by omega) hB
  obtain ⟨q, c', rfl⟩ := ownsRow_succ h3
  refine ⟨q, c', w', hr, by unfold OI; simpa [ints] using h3, keep_grown h4, ?_⟩
  rcases h5 with h5 | h5
  · exact .inl h5.symm
  · right; simpa [Value.ownBlock] using h5
theorem step_app_own {ops : Array Oper} {o : Oper} {a : Act} {w : World} {K : Act → World → Prop} {Q : Exit → Act → World → Prop} {E : Prop} (hg : o.guard = none) (s x : Operand)
    (ho : o.op = .call { callee := .builtin .append, args := #[s, x], argTypes := #[23, 23] }) (hty : o.type = 23)
    (B : Nat) (A : Option Addr) (n c : Nat) (xs : List Int) (hs : a.eval s = .slice A n c) (hown : OI w B A n c xs) (z : Int) (g c1 : Nat) (hx : a.eval x = .slice (some ⟨g, 0, none⟩) 1 c1) (hcell : w.cell? ⟨g, 0, none⟩ = some (.int .i64 z))
    (hn : n ≤ 1000000000) (hB : B ≤ w.heap.size)
    (h : ∀ (q c' : Nat) (w' : World), OI w' B (some ⟨q, 0, none⟩) (n + 1) c' (xs ++ [z]) → Keep (fun k => (Value.slice A n c).ownBlock = some k) w w' → ((Value.slice A n c).ownBlock = some q ∨ q = w.heap.size) → K (a.put o.dst (.slice (some ⟨q, 0, none⟩) (n + 1) c')) w') :
    if Region.wanted o (yielded ops a.tmps) = true then Oper.wp Try.prog o a w K Q else E := by
  have hw : Region.wanted o (yielded ops a.tmps) = true := by simp [Region.wanted, hg]
  rw [if_pos hw]
  obtain ⟨q, c', w', hr, h3, h4, h5⟩ := run_app_own1 w B A n c xs hown z g c1 hcell hn hB
  unfold Oper.wp execOp
  simp only [ho, hty, resolve, invoke, builtin, Sem.run_bind, Sem.run_pure, Result.andThen_ok, List.map_toArray, List.map_cons, List.map_nil, hs, hx, hr]
  exact h q c' w' h3 h4 h5
theorem wpList_app_own {ops : Array Oper} {rest : List Oper} {o : Oper} {a : Act} {Q : Exit → Act → World → Prop} {w : World} (hgd : o.guard = none) (s x : Operand)
    (ho : o.op = .call { callee := .builtin .append, args := #[s, x], argTypes := #[23, 23] }) (hty : o.type = 23)
    (B : Nat) (A : Option Addr) (n c : Nat) (xs : List Int) (hs : a.eval s = .slice A n c) (hown : OI w B A n c xs) (z : Int) (g c1 : Nat) (hx : a.eval x = .slice (some ⟨g, 0, none⟩) 1 c1) (hcell : w.cell? ⟨g, 0, none⟩ = some (.int .i64 z))
    (hn : n ≤ 1000000000) (hB : B ≤ w.heap.size)
    (h : ∀ (q c' : Nat) (w' : World), OI w' B (some ⟨q, 0, none⟩) (n + 1) c' (xs ++ [z]) → Keep (fun k => (Value.slice A n c).ownBlock = some k) w w' → ((Value.slice A n c).ownBlock = some q ∨ q = w.heap.size) → wpList Try.prog ops Q rest (a.put o.dst (.slice (some ⟨q, 0, none⟩) (n + 1) c')) w') :
    wpList Try.prog ops Q (o :: rest) a w := by
  refine wpList_plain hgd fun K hK => ?_
  obtain ⟨q, c', w', hr, h3, h4, h5⟩ := run_app_own1 w B A n c xs hown z g c1 hcell hn hB
  unfold Oper.wp execOp
  simp only [ho, hty, resolve, invoke, builtin, Sem.run_bind, Sem.run_pure, Result.andThen_ok, List.map_toArray, List.map_cons, List.map_nil, hs, hx, hr]
  exact hK _ _ (h q c' w' h3 h4 h5)
/-- the reader, the two boxes and the two rows of a recurrence that is drawn -/
structure DR (w wr : World) (rb : Nat) (A : Option Addr) (n c cb co M : Nat) (p : Int) (A1 : Option Addr) (m1 c1 : Nat) (T : List Int) (A2 : Option Addr) (m2 c2 : Nat) (F : List Int) : Prop where
  rd : Rd wr rb A n c cb co M
  res : BxW wr w.heap.size (.int .i64 0) (.slice none 0 0) (.slice none 0 0)
  box : BxW wr (w.heap.size + 1) (.int .i64 p) (.slice A1 m1 c1) (.slice A2 m2 c2)
  t : OI wr (w.heap.size + 2) A1 m1 c1 T
  f : OI wr (w.heap.size + 2) A2 m2 c2 F
  ap : Apart (.slice A1 m1 c1) (.slice A2 m2 c2)
  k : Keep (Drw rb w.heap.size) w wr
  hrb : rb < w.heap.size
  hcb : 0 < n → cb < w.heap.size
section
variable {w wr : World} {rb : Nat} {A : Option Addr} {n c cb co M : Nat} {p : Int} {A1 : Option Addr} {m1 c1 : Nat} {T : List Int} {A2 : Option Addr} {m2 c2 : Nat} {F : List Int}
theorem DR.lt (h : DR w wr rb A n c cb co M p A1 m1 c1 T A2 m2 c2 F) : w.heap.size + 1 < wr.heap.size := h.box.c.lt
theorem DR.pick (h : DR w wr rb A n c cb co M p A1 m1 c1 T A2 m2 c2 F) {w' : World} {M' : Nat} (hR : Rd w' rb A n c cb co M') (hK : Keep (· = rb) wr w') : DR w w' rb A n c cb co M' p A1 m1 c1 T A2 m2 c2 F := by
  have hr := h.hrb
  exact ⟨hR, h.res.keep hK (by omega), h.box.keep hK (by omega), OIk h.t hK (fun g hg e => by have := (h.t.lt g hg).1; omega), OIk h.f hK (fun g hg e => by have := (h.f.lt g hg).1; omega), h.ap, h.k.trans hK.drwR, h.hrb, h.hcb⟩
theorem DR.draw (h : DR w wr rb A n c cb co M p A1 m1 c1 T A2 m2 c2 F) : DR w wr.drew rb A n c cb co M p A1 m1 c1 T A2 m2 c2 F := by
  have hb := below_new_drew wr
  have hk := keep_of_below hb
  exact ⟨h.rd.keep hk (fun h => h) (fun _ h => h), h.res.drew, h.box.drew, OIb h.t hb, OIb h.f hb, h.ap, h.k.trans (hk.mono (fun _ _ h => h.elim)), h.hrb, h.hcb⟩
theorem DR.own1 (h : DR w wr rb A n c cb co M p A1 m1 c1 T A2 m2 c2 F) (z : Int) : OI (wr.alloc (.cells #[.int .i64 z] 3)) (w.heap.size + 2) A1 m1 c1 T := World.ownsRow.alloc h.t _
theorem DR.own2 (h : DR w wr rb A n c cb co M p A1 m1 c1 T A2 m2 c2 F) (z : Int) : OI (wr.alloc (.cells #[.int .i64 z] 3)) (w.heap.size + 2) A2 m2 c2 F := World.ownsRow.alloc h.f _
theorem DR.mid (h : DR w wr rb A n c cb co M p A1 m1 c1 T A2 m2 c2 F) {o : Obj} {w' : World} {S : Nat → Prop} (hK : Keep S (wr.alloc o) w') (hS : ∀ g, S g → w.heap.size + 2 ≤ g) : BxW w' (w.heap.size + 1) (.int .i64 p) (.slice A1 m1 c1) (.slice A2 m2 c2) :=
  (h.box.below (below_new wr o)).keep hK (fun hs => by have := hS _ hs; omega)
theorem DR.app1 (h : DR w wr rb A n c cb co M p A1 m1 c1 T A2 m2 c2 F) {o : Obj} {w' : World} {q c' : Nat} {z : Int} (hO : OI w' (w.heap.size + 2) (some ⟨q, 0, none⟩) (m1 + 1) c' (T ++ [z])) (hK : Keep (fun k => (Value.slice A1 m1 c1).ownBlock = some k) (wr.alloc o) w') (hq : (Value.slice A1 m1 c1).ownBlock = some q ∨ q = (wr.alloc o).heap.size) :
    DR w (w'.setCell ⟨w.heap.size + 1, 1, none⟩ (.slice (some ⟨q, 0, none⟩) (m1 + 1) c')) rb A n c cb co M p (some ⟨q, 0, none⟩) (m1 + 1) c' (T ++ [z]) A2 m2 c2 F := by
  have hst : ∀ g, (Value.slice A1 m1 c1).ownBlock = some g → w.heap.size + 2 ≤ g := fun g hg => (h.t.lt g hg).1
  have hr := h.hrb
  have hmid := h.mid hK hst
  have hsc := setCell_keep w' ⟨w.heap.size + 1, 1, none⟩ (.slice (some ⟨q, 0, none⟩) (m1 + 1) c')
  have hkk : Keep (fun g => (Value.slice A1 m1 c1).ownBlock = some g ∨ g = w.heap.size + 1) (wr.alloc o) (w'.setCell ⟨w.heap.size + 1, 1, none⟩ (.slice (some ⟨q, 0, none⟩) (m1 + 1) c')) := (hK.mono (fun _ _ h => .inl h)).trans (hsc.mono (fun _ _ h => .inr h))
  have hk2 : Keep (fun g => (Value.slice A1 m1 c1).ownBlock = some g ∨ g = w.heap.size + 1) wr (w'.setCell ⟨w.heap.size + 1, 1, none⟩ (.slice (some ⟨q, 0, none⟩) (m1 + 1) c')) := (keep_of_below (below_new wr o) |>.mono (fun _ _ h => h.elim)).trans hkk
  refine ⟨h.rd.keep hk2 (fun e => ?_) (fun hn e => ?_), h.res.keep hk2 (fun e => ?_), ⟨⟨?_, ?_, ?_⟩, fun o' => ?_⟩, ?_, OIk h.f hk2 (fun g hg e => ?_), ?_, h.k.trans (hk2.drwB (fun g e => ?_)), h.hrb, h.hcb⟩
  · rcases e with e | e
    · have := hst _ e; omega
    · omega
  · have := h.hcb hn
    rcases e with e | e
    · have := hst _ e; omega
    · omega
  · rcases e with e | e
    · have := hst _ e; omega
    · omega
  · exact (World.cell?_setCell_other w' ⟨w.heap.size + 1, 1, none⟩ ⟨w.heap.size + 1, 0, none⟩ _ (by simp)).trans hmid.c.1
  · exact World.cell?_setCell_same' w' ⟨w.heap.size + 1, 1, none⟩ _ (by rw [hmid.c.2.1]; rfl)
  · exact (World.cell?_setCell_other w' ⟨w.heap.size + 1, 1, none⟩ ⟨w.heap.size + 1, 2, none⟩ _ (by simp)).trans hmid.c.2.2
  · exact (World.frozen?_setCell w' ⟨w.heap.size + 1, 1, none⟩ ⟨w.heap.size + 1, o', none⟩ _).trans (hmid.fz o')
  · exact OIk hO hsc (fun g hg e => by have := (hO.lt g hg).1; have e' : g = w.heap.size + 1 := e; omega)
  · rcases e with e | e
    · exact ap1 h.ap e hg
    · have := (h.f.lt g hg).1; omega
  · right
    intro e
    have e' : (Value.slice A2 m2 c2).ownBlock = some q := e.symm
    rcases hq with hq | hq
    · exact ap1 h.ap hq e'
    · have := (h.f.lt q e').2
      rw [World.size_alloc] at hq
      omega
  · rcases e with e | e
    · have := hst _ e; omega
    · omega
theorem DR.app2 (h : DR w wr rb A n c cb co M p A1 m1 c1 T A2 m2 c2 F) {o : Obj} {w' : World} {q c' : Nat} {z : Int} (hO : OI w' (w.heap.size + 2) (some ⟨q, 0, none⟩) (m2 + 1) c' (F ++ [z])) (hK : Keep (fun k => (Value.slice A2 m2 c2).ownBlock = some k) (wr.alloc o) w') (hq : (Value.slice A2 m2 c2).ownBlock = some q ∨ q = (wr.alloc o).heap.size) :
    DR w (w'.setCell ⟨w.heap.size + 1, 2, none⟩ (.slice (some ⟨q, 0, none⟩) (m2 + 1) c')) rb A n c cb co M p A1 m1 c1 T (some ⟨q, 0, none⟩) (m2 + 1) c' (F ++ [z]) := by
  have hst : ∀ g, (Value.slice A2 m2 c2).ownBlock = some g → w.heap.size + 2 ≤ g := fun g hg => (h.f.lt g hg).1
  have hr := h.hrb
  have hmid := h.mid hK hst
  have hsc := setCell_keep w' ⟨w.heap.size + 1, 2, none⟩ (.slice (some ⟨q, 0, none⟩) (m2 + 1) c')
  have hkk : Keep (fun g => (Value.slice A2 m2 c2).ownBlock = some g ∨ g = w.heap.size + 1) (wr.alloc o) (w'.setCell ⟨w.heap.size + 1, 2, none⟩ (.slice (some ⟨q, 0, none⟩) (m2 + 1) c')) := (hK.mono (fun _ _ h => .inl h)).trans (hsc.mono (fun _ _ h => .inr h))
  have hk2 : Keep (fun g => (Value.slice A2 m2 c2).ownBlock = some g ∨ g = w.heap.size + 1) wr (w'.setCell ⟨w.heap.size + 1, 2, none⟩ (.slice (some ⟨q, 0, none⟩) (m2 + 1) c')) := (keep_of_below (below_new wr o) |>.mono (fun _ _ h => h.elim)).trans hkk
  refine ⟨h.rd.keep hk2 (fun e => ?_) (fun hn e => ?_), h.res.keep hk2 (fun e => ?_), ⟨⟨?_, ?_, ?_⟩, fun o' => ?_⟩, OIk h.t hk2 (fun g hg e => ?_), ?_, ?_, h.k.trans (hk2.drwB (fun g e => ?_)), h.hrb, h.hcb⟩
  · rcases e with e | e
    · have := hst _ e; omega
    · omega
  · have := h.hcb hn
    rcases e with e | e
    · have := hst _ e; omega
    · omega
  · rcases e with e | e
    · have := hst _ e; omega
    · omega
  · exact (World.cell?_setCell_other w' ⟨w.heap.size + 1, 2, none⟩ ⟨w.heap.size + 1, 0, none⟩ _ (by simp)).trans hmid.c.1
  · exact (World.cell?_setCell_other w' ⟨w.heap.size + 1, 2, none⟩ ⟨w.heap.size + 1, 1, none⟩ _ (by simp)).trans hmid.c.2.1
  · exact World.cell?_setCell_same' w' ⟨w.heap.size + 1, 2, none⟩ _ (by rw [hmid.c.2.2]; rfl)
  · exact (World.frozen?_setCell w' ⟨w.heap.size + 1, 2, none⟩ ⟨w.heap.size + 1, o', none⟩ _).trans (hmid.fz o')
  · rcases e with e | e
    · exact ap1 h.ap hg e
    · have := (h.t.lt g hg).1; omega
  · exact OIk hO hsc (fun g hg e => by have := (hO.lt g hg).1; have e' : g = w.heap.size + 1 := e; omega)
  · rcases hg : (Value.slice A1 m1 c1).ownBlock with _ | g
    · exact .inl hg
    · right
      rw [hg]
      intro e
      have e' : g = q := Option.some.inj e
      subst e'
      rcases hq with hq | hq
      · exact ap1 h.ap hg hq
      · have := (h.t.lt g hg).2
        rw [World.size_alloc] at hq
        omega
  · rcases e with e | e
    · have := hst _ e; omega
    · omega
theorem DR.prime (h : DR w wr rb A n c cb co M p A1 m1 c1 T A2 m2 c2 F) (q : Int) : DR w (wr.setCell ⟨w.heap.size + 1, 0, none⟩ (.int .i64 q)) rb A n c cb co M q A1 m1 c1 T A2 m2 c2 F := by
  have hr := h.hrb
  have hsc := setCell_keep wr ⟨w.heap.size + 1, 0, none⟩ (.int .i64 q)
  refine ⟨h.rd.keep hsc (by simp; omega) (fun hn => by have := h.hcb hn; simp; omega), h.res.keep hsc (by simp), ⟨⟨?_, ?_, ?_⟩, fun o' => ?_⟩, OIk h.t hsc (fun g hg e => by have := (h.t.lt g hg).1; have e' : g = w.heap.size + 1 := e; omega), OIk h.f hsc (fun g hg e => by have := (h.f.lt g hg).1; have e' : g = w.heap.size + 1 := e; omega), h.ap, h.k.trans (hsc.drwB (fun g e => by have e' : g = w.heap.size + 1 := e; omega)), h.hrb, h.hcb⟩
  · exact World.cell?_setCell_same' wr ⟨w.heap.size + 1, 0, none⟩ _ (by rw [h.box.c.1]; rfl)
  · exact (World.cell?_setCell_other wr ⟨w.heap.size + 1, 0, none⟩ ⟨w.heap.size + 1, 1, none⟩ _ (by simp)).trans h.box.c.2.1
  · exact (World.cell?_setCell_other wr ⟨w.heap.size + 1, 0, none⟩ ⟨w.heap.size + 1, 2, none⟩ _ (by simp)).trans h.box.c.2.2
  · exact (World.frozen?_setCell wr ⟨w.heap.size + 1, 0, none⟩ ⟨w.heap.size + 1, o', none⟩ _).trans (h.box.fz o')
/-- a drawn recurrence -/
def RecPost (rb n c cb co N L : Nat) (A : Option Addr) (w : World) (e : Ending) (w' : World) : Prop :=
  ∃ (v : Value) (q : Int) (T F : List Int), e = .returned v ∧ RO w' w.heap.size v q T F ∧ T.length ≤ L ∧ F.length ≤ L ∧ 0 ≤ q ∧ q ≤ 17 ∧ Rd w' rb A n c cb co N ∧ Keep (Drw rb w.heap.size) w w'
theorem DR.done (h : DR w wr rb A n c cb co M p A1 m1 c1 T A2 m2 c2 F) {N L : Nat} (hT : T.length ≤ L) (hF : F.length ≤ L) (hN : M ≤ N) (hp : 0 ≤ p) (hp' : p ≤ 17) :
    RecPost rb n c cb co N L A w (.returned (.agg #[.int .i64 p, .slice A1 m1 c1, .slice A2 m2 c2])) (set3 wr w.heap.size (.int .i64 p) (.slice A1 m1 c1) (.slice A2 m2 c2)) := by
  have hr := h.hrb
  have hk := set3_keep wr w.heap.size (.int .i64 p) (.slice A1 m1 c1) (.slice A2 m2 c2)
  have h1 := h.t.len
  have h2 := h.f.len
  subst h1; subst h2
  refine ⟨_, p, T, F, rfl, ⟨A1, c1, A2, c2, rfl, owns_mono (OIk h.t hk (fun g hg e => by have := (h.t.lt g hg).1; omega)) (by omega), owns_mono (OIk h.f hk (fun g hg e => by have := (h.f.lt g hg).1; omega)) (by omega), h.ap⟩, hT, hF, hp, hp', (h.rd.keep hk (by omega) (fun hn => by have := h.hcb hn; omega)).mono hN, h.k.trans (hk.drwB (fun g e => by omega))⟩
end
end Go.Proofs.Ytllakclbgmingaa

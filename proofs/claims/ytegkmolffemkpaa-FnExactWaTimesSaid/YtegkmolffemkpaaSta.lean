/-
  One step of a region: append of a row that is read behind a row of the call's own, in whatever world.
-/
import Derived.Deep.AppendSrc
import Derived.Deep.AppendLies
import Derived.Test.YtegkmolffemkpaaApG
import Derived.Maps.AppendAt
import Derived.RangeFuncBox
import Derived.Deep.RegionLawGrows
import Derived.Test.YtegkmolffemkpaaTrim
namespace Go.Proofs.Ytegkmolffemkpaa
open Go.RowKit
theorem run_app_anyB (w : World) (B : Nat) (g n c : Nat) (xs : List Int) (hown : OI w B (some ⟨g, 0, none⟩) n c xs) (A2 : Option Addr) (m c2 b2 o2 : Nat) (ys : List Int) (h2 : IA w A2 m b2 o2 ys) (hA : A2 = none → m = 0) (hn : n + m ≤ 1000000000) (hB : B ≤ w.heap.size) :
    ∃ (A' : Option Addr) (c' : Nat) (w' : World), (Builtin.append_ #[23, 23] 23 #[.slice (some ⟨g, 0, none⟩) n c, .slice A2 m c2]).run Try.prog w = .ok (.slice A' (n + m) c') w' ∧ OI w' B A' (n + m) c' (xs ++ ys) ∧ w.grownBy w' (some g) ∧ (∀ k, (Value.slice A' (n + m) c').ownBlock = some k → k = g ∨ k = w.heap.size) := by
  obtain ⟨i0, hi, hz0, hz1, hz2⟩ := info_parts infoInt
  by_cases hm : m = 0
  · subst hm
    obtain rfl : ys = [] := List.eq_nil_of_length_eq_zero h2.len
    have hcap : n ≤ c := OI.capLe hown
    have hsrc : Src Try.prog i0.size 23 (.slice A2 0 c2) 0 [] w := by
      cases A2 with
      | none => exact Src.ofNil w Try.underlying23 c2
      | some a => exact Src.ofSlice w Try.underlying23 a 0 c2 [] (by simp) (fun j u h => by simp at h) (fun u h => by cases h)
    have hr := run_append_room_src (P := Try.prog) w 23 23 23 3 i0 Try.underlying23 hi g 0 n c (.slice A2 0 c2) 0 [] hsrc (by omega) (fun j h => by simp at h) (fun j h => by simp at h)
    refine ⟨_, _, _, hr, ?_, World.grownBy.refl _ _, fun k hk => .inl ?_⟩
    · rw [List.append_nil]; exact hown
    · exact (Option.some.inj hk).symm
  · obtain rfl := h2.adr (by omega)
    obtain ⟨v', w', hr, h3, h4, _, h5⟩ := run_append_own_at (P := Try.prog) w B 23 23 3 i0 (.int .i64 0) 1 8 Try.underlying23 hi hz0 hz1 hz2 rfl (by decide) _ n (ints xs) hown ⟨b2, o2, none⟩ m c2 (ints ys) (by rw [ints_len, h2.len]; omega) h2.src (ints_one ys) (by unfold maxLen; omega) (by omega) hB
    obtain ⟨A', c', rfl⟩ := owns_shape h3
    refine ⟨A', c', w', hr, ?_, h4, fun k hk => ?_⟩
    · unfold OI
      simpa [ints] using h3
    · rcases h5 with h5 | h5
      · rw [hk] at h5; exact .inl (Option.some.inj h5)
      · rw [hk] at h5; exact .inr (Option.some.inj h5)
theorem step_app_anyB {ops : Array Oper} {o : Oper} {a : Act} {w : World} {K : Act → World → Prop} {Q : Exit → Act → World → Prop} {E : Prop} (hg : o.guard = none) (s x : Operand)
    (ho : o.op = .call { callee := .builtin .append, args := #[s, x], argTypes := #[23, 23] }) (hty : o.type = 23)
    (B g n c : Nat) (xs : List Int) (hs : a.eval s = .slice (some ⟨g, 0, none⟩) n c) (hown : OI w B (some ⟨g, 0, none⟩) n c xs) (A2 : Option Addr) (m c2 b2 o2 : Nat) (ys : List Int) (hx : a.eval x = .slice A2 m c2) (h2 : IA w A2 m b2 o2 ys) (hA : A2 = none → m = 0)
    (hn : n + m ≤ 1000000000) (hB : B ≤ w.heap.size)
    (h : ∀ (A' : Option Addr) (c' : Nat) (w' : World), OI w' B A' (n + m) c' (xs ++ ys) → w.grownBy w' (some g) → (∀ k, (Value.slice A' (n + m) c').ownBlock = some k → k = g ∨ k = w.heap.size) → K (a.put o.dst (.slice A' (n + m) c')) w') :
    if Region.wanted o (yielded ops a.tmps) = true then Oper.wp Try.prog o a w K Q else E := by
  have hw : Region.wanted o (yielded ops a.tmps) = true := by simp [Region.wanted, hg]
  rw [if_pos hw]
  obtain ⟨A', c', w', hr, h3, h4, h5⟩ := run_app_anyB w B g n c xs hown A2 m c2 b2 o2 ys h2 hA hn hB
  unfold Oper.wp execOp
  simp only [ho, hty, resolve, invoke, builtin, Sem.run_bind, Sem.run_pure, Result.andThen_ok, List.map_toArray, List.map_cons, List.map_nil, hs, hx, hr]
  exact h A' c' w' h3 h4 h5
theorem below_row {w1 W w6 : World} {g : Nat} (hW : Below w1.heap.size w1 W) (hg : W.grownBy w6 (some g)) (h : w1.heap.size ≤ g) : Below w1.heap.size w1 w6 :=
  hW.trans ((keep_grown hg).below hW.size (fun k hk => by cases hk; exact h))
theorem ia_zero (w : World) (A : Option Addr) : IA w A 0 0 0 [] := ⟨rfl, by omega, by omega, by omega⟩
theorem IA.keepB {w w' : World} {A : Option Addr} {n b o : Nat} {xs : List Int} {S : Nat → Prop} (h : IA w A n b o xs) (k : Keep S w w') (hs : 0 < n → ¬ S b) : IA w' A n b o xs :=
  ⟨h.len, h.adr, h.big, fun i hi => let ⟨x, h1, h2⟩ := h.cell i hi; ⟨x, h1, k.cell h2 (hs (by omega))⟩⟩
/-- behind an empty row without room: what is appended comes back as a row that reads so; nothing of before is written to -/
theorem step_app_copy {ops : Array Oper} {o : Oper} {a : Act} {w : World} {K : Act → World → Prop} {Q : Exit → Act → World → Prop} {E : Prop} (hg : o.guard = none) (s x : Operand)
    (ho : o.op = .call { callee := .builtin .append, args := #[s, x], argTypes := #[23, 23] })
    (g : Nat) (hs : a.eval s = .slice (some ⟨g, 0, none⟩) 0 0) (A2 : Option Addr) (m c2 b2 o2 : Nat) (ys : List Int) (hx : a.eval x = .slice A2 m c2) (h2 : IA w A2 m b2 o2 ys) (hn : m ≤ 1000000000)
    (h : ∀ (A' : Option Addr) (c' : Nat) (w' : World), (∃ b', IA w' A' m b' 0 ys ∧ (0 < m → w.heap.size ≤ b')) → Below w.heap.size w w' → K (a.put o.dst (.slice A' m c')) w') :
    if Region.wanted o (yielded ops a.tmps) = true then Oper.wp Try.prog o a w K Q else E := by
  obtain ⟨i0, hi, hz0, hz1, hz2⟩ := info_parts infoInt
  by_cases hm : m = 0
  · subst hm
    obtain rfl : ys = [] := List.eq_nil_of_length_eq_zero h2.len
    have hw : Region.wanted o (yielded ops a.tmps) = true := by simp [Region.wanted, hg]
    rw [if_pos hw]
    have hsrc : Src Try.prog i0.size 23 (.slice A2 0 c2) 0 [] w := by
      cases A2 with
      | none => exact Src.ofNil w Try.underlying23 c2
      | some a => exact Src.ofSlice w Try.underlying23 a 0 c2 [] (by simp) (fun j u h => by simp at h) (fun u h => by cases h)
    have hr := run_append_room_src (P := Try.prog) w 23 23 o.type 3 i0 Try.underlying23 hi g 0 0 0 (.slice A2 0 c2) 0 [] hsrc (by omega) (fun j h => by simp at h) (fun j h => by simp at h)
    unfold Oper.wp execOp
    simp only [ho, resolve, invoke, builtin, Sem.run_bind, Sem.run_pure, Result.andThen_ok, List.map_toArray, List.map_cons, List.map_nil, hs, hx, hr]
    exact h (some ⟨g, 0, none⟩) 0 _ ⟨0, ia_zero _ _, by omega⟩ (Below.refl _ _)
  · have hA := h2.adr (by omega)
    subst hA
    refine step_append_grows hg s x 23 ho 3 i0 (.int .i64 0) 1 8 Try.underlying23 hi hz0 hz1 hz2 rfl (by decide) (some ⟨g, 0, none⟩) 0 0 [] hs (by intro hc; cases hc) rfl (by intro b hb j u hj; simp at hj) ⟨b2, o2, none⟩ m c2 (ints ys) hx (by rw [ints_len, h2.len]; omega) h2.src (ints_one ys) (by omega) (by unfold maxLen; omega) (by omega) ?_
    intro v' w' h3 h4
    obtain ⟨A', c', rfl⟩ := owns_shape h3
    have e : 0 + m = m := by omega
    rw [e, List.nil_append] at h3
    rw [e]
    obtain ⟨b', hia⟩ := OI.ia (B := w.heap.size) h3
    have hb' : w.heap.size ≤ b' := by
      rcases OI.adr (B := w.heap.size) h3 with ⟨_, h0, _⟩ | ⟨g', hg', hb', _⟩
      · omega
      · have h5 := hia.adr (by omega)
        rw [hg'] at h5
        simp only [Option.some.injEq, Addr.mk.injEq] at h5
        omega
    exact h A' c' w' ⟨b', hia, fun _ => hb'⟩ (Below.grown (Below.refl _ _) h4 (Nat.le_refl _) (by intro k hk; cases hk))
theorem run_app_ownS (w : World) (B : Nat) (A : Option Addr) (n c : Nat) (xs : List Int) (hown : OI w B A n c xs) (z : Int) (g c1 : Nat) (hcell : w.cell? ⟨g, 0, none⟩ = some (.int .i64 z)) (hn : n ≤ 1000000000) (hB : B ≤ w.heap.size) :
    ∃ (q c' : Nat) (w' : World), (Builtin.append_ #[23, 23] 23 #[.slice A n c, .slice (some ⟨g, 0, none⟩) 1 c1]).run Try.prog w = .ok (.slice (some ⟨q, 0, none⟩) (n + 1) c') w' ∧ OI w' B (some ⟨q, 0, none⟩) (n + 1) c' (xs ++ [z]) ∧ Keep (fun k => (Value.slice A n c).ownBlock = some k) w w' ∧ ((Value.slice A n c).ownBlock = some q ∨ q = w.heap.size) := by
  obtain ⟨i0, hi, hz0, hz1, hz2⟩ := info_parts infoInt
  obtain ⟨v', w', hr, h3, h4, _, h5⟩ := run_append_own_at (P := Try.prog) w B 23 23 3 i0 (.int .i64 0) 1 8 Try.underlying23 hi hz0 hz1 hz2 rfl (by decide) _ n (ints xs) hown ⟨g, 0, none⟩ 1 c1 [.int .i64 z] (by simp) (fun j u hj => by
    match j, hj with
    | 0, hj => simp at hj; subst hj; simpa [Addr.add] using hcell) (fun u hu => by simp at hu; subst hu; rfl) (by unfold maxLen; omega) (by omega) hB
  obtain ⟨q, c', rfl⟩ := ownsRow_succ h3
  refine ⟨q, c', w', hr, by unfold OI; simpa [ints] using h3, keep_grown h4, ?_⟩
  rcases h5 with h5 | h5
  · exact .inl h5.symm
  · right; simpa [Value.ownBlock] using h5
theorem step_app_ownS {ops : Array Oper} {o : Oper} {a : Act} {w : World} {K : Act → World → Prop} {Q : Exit → Act → World → Prop} {E : Prop} (hg : o.guard = none) (s x : Operand)
    (ho : o.op = .call { callee := .builtin .append, args := #[s, x], argTypes := #[23, 23] }) (hty : o.type = 23)
    (B : Nat) (A : Option Addr) (n c : Nat) (xs : List Int) (hs : a.eval s = .slice A n c) (hown : OI w B A n c xs) (z : Int) (g c1 : Nat) (hx : a.eval x = .slice (some ⟨g, 0, none⟩) 1 c1) (hcell : w.cell? ⟨g, 0, none⟩ = some (.int .i64 z))
    (hn : n ≤ 1000000000) (hB : B ≤ w.heap.size)
    (h : ∀ (q c' : Nat) (w' : World), OI w' B (some ⟨q, 0, none⟩) (n + 1) c' (xs ++ [z]) → Keep (fun k => (Value.slice A n c).ownBlock = some k) w w' → ((Value.slice A n c).ownBlock = some q ∨ q = w.heap.size) → K (a.put o.dst (.slice (some ⟨q, 0, none⟩) (n + 1) c')) w') :
    if Region.wanted o (yielded ops a.tmps) = true then Oper.wp Try.prog o a w K Q else E := by
  have hw : Region.wanted o (yielded ops a.tmps) = true := by simp [Region.wanted, hg]
  rw [if_pos hw]
  obtain ⟨q, c', w', hr, h3, h4, h5⟩ := run_app_ownS w B A n c xs hown z g c1 hcell hn hB
  unfold Oper.wp execOp
  simp only [ho, hty, resolve, invoke, builtin, Sem.run_bind, Sem.run_pure, Result.andThen_ok, List.map_toArray, List.map_cons, List.map_nil, hs, hx, hr]
  exact h q c' w' h3 h4 h5
theorem wpList_app_ownS {ops : Array Oper} {rest : List Oper} {o : Oper} {a : Act} {Q : Exit → Act → World → Prop} {w : World} (hgd : o.guard = none) (s x : Operand)
    (ho : o.op = .call { callee := .builtin .append, args := #[s, x], argTypes := #[23, 23] }) (hty : o.type = 23)
    (B : Nat) (A : Option Addr) (n c : Nat) (xs : List Int) (hs : a.eval s = .slice A n c) (hown : OI w B A n c xs) (z : Int) (g c1 : Nat) (hx : a.eval x = .slice (some ⟨g, 0, none⟩) 1 c1) (hcell : w.cell? ⟨g, 0, none⟩ = some (.int .i64 z))
    (hn : n ≤ 1000000000) (hB : B ≤ w.heap.size)
    (h : ∀ (q c' : Nat) (w' : World), OI w' B (some ⟨q, 0, none⟩) (n + 1) c' (xs ++ [z]) → Keep (fun k => (Value.slice A n c).ownBlock = some k) w w' → ((Value.slice A n c).ownBlock = some q ∨ q = w.heap.size) → wpList Try.prog ops Q rest (a.put o.dst (.slice (some ⟨q, 0, none⟩) (n + 1) c')) w') :
    wpList Try.prog ops Q (o :: rest) a w := by
  refine wpList_plain hgd fun K hK => ?_
  obtain ⟨q, c', w', hr, h3, h4, h5⟩ := run_app_ownS w B A n c xs hown z g c1 hcell hn hB
  unfold Oper.wp execOp
  simp only [ho, hty, resolve, invoke, builtin, Sem.run_bind, Sem.run_pure, Result.andThen_ok, List.map_toArray, List.map_cons, List.map_nil, hs, hx, hr]
  exact hK _ _ (h q c' w' h3 h4 h5)
theorem step_app_rowS {ops : Array Oper} {o : Oper} {a : Act} {w : World} {K : Act → World → Prop} {Q : Exit → Act → World → Prop} {E : Prop} (hg : o.guard = none) (s x : Operand)
    (ho : o.op = .call { callee := .builtin .append, args := #[s, x], argTypes := #[24, 24] }) (hty : o.type = 24)
    (B : Nat) (A : Option Addr) (n c : Nat) (vs : List Value) (hs : a.eval s = .slice A n c) (hown : w.ownsRow B 23 1 (.slice A n c) n vs) (A1 : Option Addr) (n1 c1 : Nat) (g c2 : Nat) (hx : a.eval x = .slice (some ⟨g, 0, none⟩) 1 c2) (hcell : w.cell? ⟨g, 0, none⟩ = some (.slice A1 n1 c1))
    (hn : n ≤ 1000000000) (hB : B ≤ w.heap.size)
    (h : ∀ (A' : Option Addr) (c' : Nat) (w' : World), w'.ownsRow B 23 1 (.slice A' (n + 1) c') (n + 1) (vs ++ [.slice A1 n1 c1]) → Keep (fun k => (Value.slice A n c).ownBlock = some k) w w' → K (a.put o.dst (.slice A' (n + 1) c')) w') :
    if Region.wanted o (yielded ops a.tmps) = true then Oper.wp Try.prog o a w K Q else E := by
  have hw : Region.wanted o (yielded ops a.tmps) = true := by simp [Region.wanted, hg]
  rw [if_pos hw]
  obtain ⟨i0, hi, hz0, hz1, hz2⟩ := info_parts infoInts
  obtain ⟨v', w', hr, h3, h4, _, _⟩ := run_append_own_at (P := Try.prog) w B 24 24 23 i0 (.slice none 0 0) 1 24 Try.underlying24 hi hz0 hz1 hz2 rfl (by decide) _ n vs hown ⟨g, 0, none⟩ 1 c2 [.slice A1 n1 c1] (by simp) (fun j u hj => by
    match j, hj with
    | 0, hj => simp at hj; subst hj; simpa [Addr.add] using hcell) (fun u hu => by simp at hu; subst hu; rfl) (by unfold maxLen; omega) (by omega) hB
  obtain ⟨A', c', rfl⟩ := owns_shape h3
  unfold Oper.wp execOp
  simp only [ho, hty, resolve, invoke, builtin, Sem.run_bind, Sem.run_pure, Result.andThen_ok, List.map_toArray, List.map_cons, List.map_nil, hs, hx, hr]
  exact h A' c' w' h3 (keep_grown h4)
end Go.Proofs.Ytegkmolffemkpaa

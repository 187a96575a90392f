/-
  The contracts of negativeBackwards, RecPoly.
  append of a row that is read, of whatever length, to a slice of integers of the call's own, at a step of a region that draws its order.
  The contract of the model's RecPoly.
  The contracts of slices.Clone over numbers, RecTimes of the program.
  The contracts of TableOf of the program and of the model.
-/
import Derived.Test.YtcjpjcigjljplaaRes
import Derived.Test.YtcjpjcigjljplaaSRt
import Derived.Deep.RegionHeld3
import Derived.Deep.AppendSrc
import Derived.Test.YtcjpjcigjljplaaRules
import Derived.Test.YtcjpjcigjljplaaTrim
import Derived.Test.YtcjpjcigjljplaaMod
import Derived.Test.YtcjpjcigjljplaaBxs
import Derived.Test.YtcjpjcigjljplaaElim
import Derived.Test.YtcjpjcigjljplaaCpyS
import Derived.Test.YtcjpjcigjljplaaCpy
import Derived.Test.YtcjpjcigjljplaaVal
namespace Go.Proofs.Ytcjpjcigjljplaa
open Go.RowKit
/-- the numbers' negatives, the last one first -/
def negB (p : Int) (xs : List Int) : List Int := xs.reverse.map fun x => (p - x) % p
theorem negB_len (p : Int) (xs : List Int) : (negB p xs).length = xs.length := by simp [negB]
theorem negB_get {p : Int} {xs : List Int} {k m : Nat} {x : Int} (hx : xs[k]? = some x) (h : m + k + 1 = xs.length) : (negB p xs)[m]? = some ((p - x) % p) := by
  unfold negB
  rw [List.getElem?_map, List.getElem?_reverse (by omega), show xs.length - 1 - m = k by omega, hx]
  rfl
theorem recP_eq (p : Int) (T : List Int) : recP p T = negB p T ++ [1] := rfl
theorem unP_eq (p : Int) (f : List Int) : unP p f = negB p (f.take (f.length - 1)) := rfl
theorem back_set {G : List Int} {m : Nat} {g : Int} (hg : G[m]? = some g) : (List.replicate (m + 1) (0 : Int) ++ G.drop (m + 1)).set m g = List.replicate m 0 ++ G.drop m := by
  have hm := (List.getElem?_eq_some_iff.1 hg).1
  rw [List.set_append_left _ _ (by simp), List.drop_eq_getElem_cons hm, (List.getElem?_eq_some_iff.1 hg).2]
  rw [List.replicate_succ', List.set_append_right _ _ (by simp)]
  simp
set_option maxHeartbeats 1000000 in
theorem negBack_any (p : Int) (A : Option Addr) (n c b o : Nat) (xs : List Int) (w : World) (h : IA w A n b o xs) (hp : primeB p = true) (hv : ∀ x ∈ xs, numB p x = true) (hn : n ≤ 1000000) :
    Calls Try.prog 105 #[.int .i64 p, .slice A n c] w (MadeI n (negB p xs) w) := by
  have hpb := prime_ge hp
  have hlen := h.len
  have HL := Lib.hid hlen
  have H := Lib.hid h
  have HV := Lib.hid hv
  obtain ⟨G, hG⟩ : ∃ G, negB p xs = G := ⟨_, rfl⟩
  have hGl : G.length = n := by rw [← hG, negB_len, hlen]
  rw [hG]
  have HG := Lib.hid hG
  have HGL := Lib.hid hGl
  have hmk := run_make_row' (P := Try.prog) 23 3 (.int .i64 0) 8 Try.underlying23 infoInt rfl .i64 .i64 n (by omega) (by omega)
  clear h hlen hv hG hGl hp
  go_enter Try.func105, Try.ntmps105
  go_wp2_with (fail)
  go_loopw [13] (fun i wr => ∃ k : Nat, k ≤ n ∧ i = .int .i64 k ∧ OI wr w.heap.size (some ⟨w.heap.size, 0, none⟩) n n (List.replicate (n - k) 0 ++ G.drop (n - k)) ∧ Below w.heap.size w wr) (fun i _ => n - (intOf i).toNat)
  case atStart => exact ⟨0, by omega, rfl, by rw [Nat.sub_zero, List.drop_of_length_le (by have := HGL.out; omega)]; simpa using made_ints w n (by omega), (Below.refl _ _).alloc (Nat.le_refl _) _⟩
  case round =>
    obtain ⟨k, hk, rfl, hown, hbel⟩ := hrel
    by_cases hlt : k < n
    · obtain rfl := H.out.adr (by omega)
      obtain ⟨x, hx, hc⟩ := (H.out.below hbel).cell k hlt
      obtain ⟨m, hm⟩ : ∃ m : Nat, m + k + 1 = n := ⟨n - k - 1, by omega⟩
      have hxb := numB_bd (HV.out x (List.mem_of_getElem? hx))
      have hg : G[m]? = some ((p - x) % p) := by rw [← HG.out]; exact negB_get hx (by rw [HL.out]; exact hm)
      rw [show n - k = m + 1 by omega] at hown
      have hcell := World.ownsRow.cellAt hown m (by omega)
      have hfr := World.ownsRow.frozenAt hown m
      have hst := World.ownsRow.stored hown m (.int .i64 ((p - x) % p))
      rw [ints_set, back_set hg] at hst
      obtain ⟨v0, hv0⟩ : ∃ v0, wr.cell? ⟨w.heap.size, m, none⟩ = some v0 := by
        rw [hcell]; exact ⟨_, List.getElem?_eq_getElem (by have := HGL.out; simp [ints]; omega)⟩
      have hw1 : IntKind.i64.wrap ((n : Int) - 1) = (n : Int) - 1 := IntWalk.i64_in _ ⟨by omega, by omega⟩
      have hw2 : IntKind.i64.wrap ((n : Int) - 1 - (k : Int)) = (m : Int) := by rw [show (n : Int) - 1 - (k : Int) = (m : Int) by omega]; exact IntWalk.i64_in _ ⟨by omega, by omega⟩
      have hmn : m < n := by omega
      have HO := Lib.hid hst
      have HB := Lib.hid hbel
      have HX := Lib.hid hxb
      have HM := Lib.hid hm
      clear hx hcell hst hown hbel hg hxb hm
      go_wp2_with (go_at_call 83; refine (negative_any2 p x _ HX.out.2.2.1 HX.out.2.2.2 HX.out.1 HX.out.2.1).mono ?_; rintro e w' ⟨rfl, rfl⟩)
      go_roundw
      case rel =>
        refine ⟨k + 1, by omega, by go_num, ?_, HB.out.setCell (Nat.le_refl _) _⟩
        have e : (p - x) % p = -x % p := by simp
        rw [show n - (k + 1) = m by have := HM.out; omega, ← e]
        exact HO.out.1
      case measure => simp [intOf]; omega
    · obtain rfl : k = n := by omega
      have HO := Lib.hid hown
      clear hown
      go_wp2_with (fail)
      go_ret
      exact ⟨_, _, rfl, by have := HO.out; simpa using this, hbel⟩
def polyO (p : Int) (T F : List Int) : List Int := if recB p T F = true then recP p T else []
theorem polyO_len (p : Int) (T F : List Int) : (polyO p T F).length ≤ 1048576 := by
  unfold polyO
  split
  · rename_i h
    rw [recP_len]
    have := (recB_true h).2.1
    omega
  · simp
theorem implRecPoly (v : Value) (p : Int) (T F : List Int) (w : World) (h : RV w v p T F) :
    Calls Try.prog 89 #[v] w (MadeI (polyO p T F).length (polyO p T F) w) := by
  obtain ⟨A, n, c, b, o, A', n', c', b', o', rfl, g1, g2⟩ := h
  have hB0 : Below w.heap.size w (w.alloc (.cells #[.int .i64 p, .slice A n c, .slice A' n' c'] 42)) := (Below.refl _ w).alloc (Nat.le_refl _) _
  have HV0 := Lib.hid (show RV _ (.agg #[.int .i64 p, .slice A n c, .slice A' n' c']) p T F from ⟨_, _, _, _, _, _, _, _, _, _, rfl, g1.below hB0, g2.below hB0⟩)
  have H := Lib.hid g1
  have HL := Lib.hid g1.len
  have HZ := Lib.hid (box3 w (.int .i64 p) (.slice A n c) (.slice A' n' c') 42)
  have HB0 := Lib.hid hB0
  clear g1 g2 hB0
  rcases hv : recB p T F
  · have HV := Lib.hid hv
    have HE := Lib.hid (show polyO p T F = [] by unfold polyO; rw [if_neg (by simp [hv])])
    clear hv
    go_enter Try.func89, Try.ntmps89
    go_wp2_with (go_at_call 54; refine (implRecValid _ p T F _ HV0.out).mono ?_; rintro e w1 ⟨rfl, hB⟩; rw [HV.out]; have HB := Lib.hid hB; clear hB)
    go_ret
    rw [HE.out]
    exact ⟨none, 0, rfl, World.ownsRow_nil _ _ _ _, below_more HB0.out HB.out⟩
  obtain ⟨hp, h6, hl, hT, _⟩ := recB_true hv
  have HV := Lib.hid hv
  have HP := Lib.hid hp
  have HT := Lib.hid hT
  have HE := Lib.hid (show polyO p T F = negB p T ++ [1] by unfold polyO; rw [if_pos hv]; rfl)
  rw [HL.out] at h6
  clear hv hp hT hl
  go_enter Try.func89, Try.ntmps89
  go_wp2_with (go_at_call 54; refine (implRecValid _ p T F _ HV0.out).mono ?_; rintro e w1 ⟨rfl, hB⟩; rw [HV.out]; have k0 := (keep_of_below hB).cell HZ.out.1 (fun h => h); have k1 := (keep_of_below hB).cell HZ.out.2.1 (fun h => h); have HB := Lib.hid hB; clear hB)
  have hB1 := below_more HB0.out HB.out
  refine (negBack_any p A n c b o T _ (H.out.below hB1) HP.out HT.out (by omega)).mono ?_
  rintro e w3 ⟨A3, c3, rfl, hO, hB3⟩
  have HO := Lib.hid (owns_mono hO hB1.size)
  have HB3 := Lib.hid (below_more hB1 hB3)
  have hs3 := (below_more hB1 hB3).size
  clear hO hB3 hB1
  go_wp2_with (at_builtin; refine wpList_app_int rfl (.tmp 10) (.tmp 11) rfl w.heap.size A3 n c3 (negB p T) rfl (World.ownsRow.alloc HO.out _) 1 w3.heap.size 1 rfl (by simp [go_sem]) (by omega) (by simp; omega) ?_)
  intro A4 c4 w4 hO4 hK4
  have HO4 := Lib.hid hO4
  have HB4 := Lib.hid (show Below w.heap.size w w4 from HB3.out.trans (((keep_of_below ((Below.refl _ w3).alloc (Nat.le_refl _) (.cells #[.int .i64 1] 3)) |>.mono (T := fun k => (Value.slice A3 n c3).ownBlock = some k) (fun _ _ h => h.elim)).trans hK4).below hs3 (fun g hg => (HO.out.lt g hg).1)))
  clear hO4 hK4
  go_wp2_with (fail)
  go_ret
  rw [HE.out, List.length_append, negB_len, HL.out]
  exact ⟨_, _, rfl, HO4.out, HB4.out⟩
end Go.Proofs.Ytcjpjcigjljplaa
namespace Go.Proofs.Ytcjpjcigjljplaa
open Go.RowKit
theorem run_app_any (w : World) (B : Nat) (g n c : Nat) (xs : List Int) (hown : OI w B (some ⟨g, 0, none⟩) n c xs) (A2 : Option Addr) (m c2 b2 o2 : Nat) (ys : List Int) (h2 : IA w A2 m b2 o2 ys) (hA : A2 = none → m = 0) (hn : n + m ≤ 1000000000) (hB : B ≤ w.heap.size) :
    ∃ (A' : Option Addr) (c' : Nat) (w' : World), (Builtin.append_ #[23, 23] 23 #[.slice (some ⟨g, 0, none⟩) n c, .slice A2 m c2]).run Try.prog w = .ok (.slice A' (n + m) c') w' ∧ OI w' B A' (n + m) c' (xs ++ ys) ∧ w.grownBy w' (some g) := by
  obtain ⟨i0, hi, hz0, hz1, hz2⟩ := info_parts infoInt
  by_cases hm : m = 0
  · subst hm
    obtain rfl : ys = [] := List.eq_nil_of_length_eq_zero h2.len
    have hcap : n ≤ c := OI.capLe hown
    have hsrc : Src Try.prog i0.size 23 (.slice A2 0 c2) 0 [] w := by
      cases A2 with
      | none => exact Src.ofNil w Try.underlying23 c2
      | some a => exact Src.ofSlice w Try.underlying23 a 0 c2 [] (by simp) (fun j u h => by simp at h) (fun u h => by cases h)
    have hr := run_append_room_src (P := Try.prog) w 23 23 23 3 i0 Try.underlying23 hi g 0 n c (.slice A2 0 c2) 0 [] hsrc (by omega) (fun j h => by simp at h) (fun j h => by simp at h)
    refine ⟨_, _, _, hr, ?_, World.grownBy.refl _ _⟩
    rw [List.append_nil]; exact hown
  · obtain rfl := h2.adr (by omega)
    obtain ⟨v', w', hr, h3, h4, _⟩ := run_append_own (P := Try.prog) w B 23 23 3 i0 (.int .i64 0) 1 8 Try.underlying23 hi hz0 hz1 hz2 rfl (by decide) _ n (ints xs) hown ⟨b2, o2, none⟩ m c2 (ints ys) (by rw [ints_len, h2.len]; omega) h2.src (ints_one ys) (by unfold maxLen; omega) (by omega) hB
    obtain ⟨A', c', rfl⟩ := owns_shape h3
    refine ⟨A', c', w', hr, ?_, h4⟩
    unfold OI
    simpa [ints] using h3
theorem step_app_any {ops : Array Oper} {o : Oper} {a : Act} {w : World} {K : Act → World → Prop} {Q : Exit → Act → World → Prop} {E : Prop} (hg : o.guard = none) (s x : Operand)
    (ho : o.op = .call { callee := .builtin .append, args := #[s, x], argTypes := #[23, 23] }) (hty : o.type = 23)
    (B g n c : Nat) (xs : List Int) (hs : a.eval s = .slice (some ⟨g, 0, none⟩) n c) (hown : OI w B (some ⟨g, 0, none⟩) n c xs) (A2 : Option Addr) (m c2 b2 o2 : Nat) (ys : List Int) (hx : a.eval x = .slice A2 m c2) (h2 : IA w A2 m b2 o2 ys) (hA : A2 = none → m = 0)
    (hn : n + m ≤ 1000000000) (hB : B ≤ w.heap.size)
    (h : ∀ (A' : Option Addr) (c' : Nat) (w' : World), OI w' B A' (n + m) c' (xs ++ ys) → w.grownBy w' (some g) → K (a.put o.dst (.slice A' (n + m) c')) w') :
    if Region.wanted o (yielded ops a.tmps) = true then Oper.wp Try.prog o a w K Q else E := by
  have hw : Region.wanted o (yielded ops a.tmps) = true := by simp [Region.wanted, hg]
  rw [if_pos hw]
  obtain ⟨A', c', w', hr, h3, h4⟩ := run_app_any w B g n c xs hown A2 m c2 b2 o2 ys h2 hA hn hB
  unfold Oper.wp execOp
  simp only [ho, hty, resolve, invoke, builtin, Sem.run_bind, Sem.run_pure, Result.andThen_ok, List.map_toArray, List.map_cons, List.map_nil, hs, hx, hr]
  exact h A' c' w' h3 h4
theorem wpList_app_rowI {ops : Array Oper} {rest : List Oper} {o : Oper} {a : Act} {Q : Exit → Act → World → Prop} {w : World} (hgd : o.guard = none) (s x : Operand)
    (ho : o.op = .call { callee := .builtin .append, args := #[s, x], argTypes := #[23, 23] }) (hty : o.type = 23)
    (B g n c : Nat) (xs : List Int) (hs : a.eval s = .slice (some ⟨g, 0, none⟩) n c) (hown : OI w B (some ⟨g, 0, none⟩) n c xs) (A2 : Option Addr) (m c2 b2 o2 : Nat) (ys : List Int) (hx : a.eval x = .slice A2 m c2) (h2 : IA w A2 m b2 o2 ys) (hA : A2 = none → m = 0)
    (hn : n + m ≤ 1000000000) (hB : B ≤ w.heap.size)
    (h : ∀ (A' : Option Addr) (c' : Nat) (w' : World), OI w' B A' (n + m) c' (xs ++ ys) → w.grownBy w' (some g) → wpList Try.prog ops Q rest (a.put o.dst (.slice A' (n + m) c')) w') :
    wpList Try.prog ops Q (o :: rest) a w := by
  refine wpList_plain hgd fun K hK => ?_
  obtain ⟨A', c', w', hr, h3, h4⟩ := run_app_any w B g n c xs hown A2 m c2 b2 o2 ys h2 hA hn hB
  unfold Oper.wp execOp
  simp only [ho, hty, resolve, invoke, builtin, Sem.run_bind, Sem.run_pure, Result.andThen_ok, List.map_toArray, List.map_cons, List.map_nil, hs, hx, hr]
  exact hK _ _ (h A' c' w' h3 h4)
end Go.Proofs.Ytcjpjcigjljplaa
namespace Go.Proofs.Ytcjpjcigjljplaa
open Go.RowKit
theorem oi_some {w : World} {B n c : Nat} {A : Option Addr} {xs : List Int} (h : OI w B A n c xs) (hn : 0 < n) : ∃ g, A = some ⟨g, 0, none⟩ := by
  rcases h.adr with ⟨_, h0, _⟩ | ⟨g, h1, _⟩
  · omega
  · exact ⟨g, h1⟩
/-- the box of a recurrence, and the numbers so far -/
structure HoldR (w wr : World) (v0 v1 v2 : Value) : Prop where
  bel : Below w.heap.size w wr
  c0 : wr.cell? ⟨w.heap.size, 0, none⟩ = some v0
  c1 : wr.cell? ⟨w.heap.size, 1, none⟩ = some v1
  c2 : wr.cell? ⟨w.heap.size, 2, none⟩ = some v2
theorem HoldR.lt {w wr : World} {v0 v1 v2 : Value} (h : HoldR w wr v0 v1 v2) : w.heap.size < wr.heap.size := cell_lt h.c0
theorem HoldR.below {w w1 w2 : World} {v0 v1 v2 : Value} (h : HoldR w w1 v0 v1 v2) (k : Below w1.heap.size w1 w2) : HoldR w w2 v0 v1 v2 :=
  ⟨below_more h.bel k, (keep_of_below k).cell h.c0 (fun h => h), (keep_of_below k).cell h.c1 (fun h => h), (keep_of_below k).cell h.c2 (fun h => h)⟩
theorem HoldR.grown {w w1 w2 : World} {v0 v1 v2 : Value} {row : Option Nat} (h : HoldR w w1 v0 v1 v2) (k : w1.grownBy w2 row) (hr : ∀ g, row = some g → w.heap.size < g) : HoldR w w2 v0 v1 v2 := by
  have hk := keep_grown k
  have hn : ¬ row = some w.heap.size := fun e => by have := hr _ e; omega
  exact ⟨h.bel.grown k h.bel.size (fun g hg => by have := hr g hg; omega), hk.cell h.c0 hn, hk.cell h.c1 hn, hk.cell h.c2 hn⟩
theorem HoldR.start (w : World) (v0 v1 v2 : Value) (t : TypeId) : HoldR w (w.alloc (.cells #[v0, v1, v2] t)) v0 v1 v2 := by
  obtain ⟨h0, h1, h2⟩ := box3 w v0 v1 v2 t
  exact ⟨(Below.refl _ _).alloc (Nat.le_refl _) _, h0, h1, h2⟩
theorem HoldR.drew {w wr : World} {v0 v1 v2 : Value} (h : HoldR w wr v0 v1 v2) : HoldR w wr.drew v0 v1 v2 := ⟨h.bel.drew, h.c0, h.c1, h.c2⟩
theorem below_undrewI {B : Nat} {w w' : World} (h : Below B w.drew w') : Below B w w' := ⟨h.os, h.tape, h.output, h.size, h.block⟩
theorem IA.freshI {w : World} (x : Int) : IA (w.alloc (.cells #[.int .i64 x] 3)) (some ⟨w.heap.size, 0, none⟩) 1 w.heap.size 0 [x] := by
  refine ⟨rfl, fun _ => rfl, by omega, fun i hi => ?_⟩
  obtain rfl : i = 0 := by omega
  exact ⟨x, rfl, by simp⟩
end Go.Proofs.Ytcjpjcigjljplaa
namespace Go.Proofs.Ytcjpjcigjljplaa
open Go.RowKit
theorem mixI_set {xs ys : List Int} {k : Nat} {y : Int} (hl : ys.length = xs.length) (hy : ys[k]? = some y) : (ys.take k ++ xs.drop k).set k y = ys.take (k + 1) ++ xs.drop (k + 1) := set_step ys xs k y hl hy
def RowPostI (B n c : Nat) (A : Option Addr) (ys : List Int) (w : World) (e : Ending) (w' : World) : Prop :=
  e = .returned (.tuple #[]) ∧ OI w' B A n c ys ∧ Keep (fun g => (Value.slice A n c).ownBlock = some g) w w'
theorem scaleI_get {p t : Int} {row : List Int} {k : Nat} {x : Int} (h : row[k]? = some x) : (scaleRow p t row)[k]? = some (x * t % p) := by simp [scaleRow, h]
theorem multiplyI_any (p t : Int) (B : Nat) (A : Option Addr) (n c : Nat) (xs : List Int) (w : World) (h : OI w B A n c xs) (ht : numB p t = true) (hx : ∀ x ∈ xs, numB p x = true) (hn : n ≤ 1000) :
    Calls Try.prog 98 #[.int .i64 p, .slice A n c, .int .i64 t] w (RowPostI B n c A (scaleRow p t xs) w) := by
  have htb := numB_bd ht
  have hlen := h.len
  have hadr := h.adr
  have H := Lib.hid h
  have HX := Lib.hid hx
  have HL := Lib.hid hlen
  have HA := Lib.hid hadr
  clear h hlen hadr hx ht
  go_enter Try.func98, Try.ntmps98
  go_wp2_with (fail)
  go_loopw [9] (fun i wr => ∃ j : Nat, j ≤ n ∧ i = .int .i64 j ∧ OI wr B A n c ((scaleRow p t xs).take j ++ xs.drop j) ∧ Keep (fun g => (Value.slice A n c).ownBlock = some g) w wr) (fun i _ => n - (intOf i).toNat)
  case atStart => exact ⟨0, by omega, rfl, by simpa using H.out, Keep.refl _ _⟩
  case round =>
    obtain ⟨j, hj, rfl, hown, hkeep⟩ := hrel
    by_cases hlt : j < n
    · obtain ⟨g, hg, hBg⟩ : ∃ g, A = some ⟨g, 0, none⟩ ∧ B ≤ g := by
        rcases HA.out with ⟨_, h0, _⟩ | ⟨g, h1, h2, _⟩
        · omega
        · exact ⟨g, h1, h2⟩
      subst hg
      have hl := HL.out
      have hxj : xs[j]? = some (xs[j]'(by omega)) := List.getElem?_eq_getElem (by omega)
      obtain ⟨x, hxx⟩ : ∃ x, xs[j]'(by omega) = x := ⟨_, rfl⟩
      rw [hxx] at hxj
      have hxb := numB_bd (HX.out x (List.mem_of_getElem? hxj))
      have hm := mul_bd hxb.1 (by omega) htb.1 (by omega)
      have hcell := World.ownsRow.cellAt hown j (by omega)
      have hmx : (ints ((scaleRow p t xs).take j ++ xs.drop j))[j]? = some (.int .i64 x) := by
        unfold ints; rw [List.getElem?_map, mix_get _ _ _ (scaleRow_len p t xs) (by rw [scaleRow_len]; omega), hxj]; rfl
      rw [hmx] at hcell
      have hfr := World.ownsRow.frozenAt hown j
      have hst := World.ownsRow.stored hown j (.int .i64 (x * t % p))
      rw [ints_set, mixI_set (scaleRow_len p t xs) (scaleI_get hxj)] at hst
      have HO := Lib.hid hst.1
      have HK := Lib.hid (hkeep.trans ((setCell_keep wr ⟨g, j, none⟩ (.int .i64 (x * t % p))).mono (fun q _ hq => by rw [hq]; rfl)))
      clear hmx hst hown hkeep hl hxj hxx
      go_wp2_with (fail)
      go_roundw
      case rel => exact ⟨j + 1, by omega, by go_num, HO.out, HK.out⟩
      case measure => simp [intOf]; omega
    · obtain rfl : j = n := by omega
      have e : (scaleRow p t xs).take j ++ xs.drop j = scaleRow p t xs := by
        rw [List.take_of_length_le (by rw [scaleRow_len, HL.out]; omega), List.drop_of_length_le (by rw [HL.out]; omega)]; simp
      rw [e] at hown
      have HO := Lib.hid hown
      clear e hown
      go_wp2_with (fail)
      go_end0
      exact ⟨rfl, HO.out, hkeep⟩
theorem nilI1 (A : Addr) (n c : Nat) : ∀ w, (binOp BinOp.eql 23 (Value.slice (some A) n c) (Value.slice none 0 0)).run Try.prog w = .ok (.bool false) w := by
  intro w
  first | kernel_rfl | rfl
theorem nilI0 (n c : Nat) : ∀ w, (binOp BinOp.eql 23 (Value.slice none n c) (Value.slice none 0 0)).run Try.prog w = .ok (.bool true) w := by
  intro w
  first | kernel_rfl | rfl
theorem cloneI_any (A : Option Addr) (n c b o : Nat) (xs : List Int) (w : World) (h : IA w A n b o xs) (hn : n ≤ 1000000) :
    Calls Try.prog 43 #[.slice A n c] w (MadeI n xs w) := by
  have HL := Lib.hid h.len
  have H := Lib.hid h
  cases A with
  | none =>
    have h0 : n = 0 := by
      by_cases h0 : n = 0
      · exact h0
      · have := h.adr (by omega); cases this
    clear h
    subst h0
    have HX := Lib.hid (List.eq_nil_of_length_eq_zero HL.out)
    have hq := nilI0 0 c
    go_enter Try.func43, Try.ntmps43
    go_wp2_with (fail)
    go_ret
    rw [HX.out]
    exact ⟨none, 0, rfl, World.ownsRow_nil _ _ _ _, Below.refl _ _⟩
  | some a =>
    clear h
    have hq := nilI1 a n c
    go_enter Try.func43, Try.ntmps43
    go_wp2_with (at_builtin; refine wpList_app_rowI rfl (.tmp 5) (.tmp 6) rfl rfl w.heap.size w.heap.size 0 0 [] rfl (oi_empty w _ (Nat.le_refl _)) (some a) n c b o xs rfl (H.out.below ((Below.refl _ _).alloc (Nat.le_refl _) _)) (by simp) (by omega) (by simp) ?_)
    intro A' c' w' h2 h3
    have HO := Lib.hid h2
    have HB := Lib.hid (((Below.refl w.heap.size w).alloc (Nat.le_refl _) (.cells #[] 3)).grown h3 (by simp) (by intro k hk; simp at hk; omega))
    clear h2 h3
    go_wp2_with (fail)
    go_ret
    exact ⟨A', c', rfl, HO.out, HB.out⟩
def timesO (p : Int) (T F : List Int) (t : Int) : Int × List Int × List Int := if recB p T F = true ∧ numB p t = true then (p, T, scaleRow p t F) else (0, [], [])
theorem timesO_len (p : Int) (T F : List Int) (t : Int) : (timesO p T F t).2.1.length ≤ 1048576 ∧ (timesO p T F t).2.2.length ≤ 1048576 := by
  unfold timesO
  split
  · rename_i h
    obtain ⟨_, h6, hl, _, _⟩ := recB_true h.1
    simp only [scaleRow_len]
    omega
  · simp
end Go.Proofs.Ytcjpjcigjljplaa
namespace Go.Proofs.Ytcjpjcigjljplaa
open Go.RowKit
def tabOk (p : Int) (s : List Int) (r q : Int) : Bool := serB p s && (inB r 1 8 && (inB q 1 8 && decide (r + q - 1 ≤ (s.length : Int))))
def winL (s : List Int) (Q k : Nat) : List Int := (s.drop k).take Q
def tabL (s : List Int) (R Q : Nat) : List (List Int) := (List.range R).map (winL s Q)
def tabR (p : Int) (s : List Int) (r q : Int) : List (List Int) := if tabOk p s r q = true then tabL s r.toNat q.toNat else []
theorem tabL_len (s : List Int) (R Q : Nat) : (tabL s R Q).length = R := by simp [tabL]
theorem tabL_get (s : List Int) {R Q k : Nat} (h : k < R) : (tabL s R Q)[k]? = some (winL s Q k) := by unfold tabL; rw [List.getElem?_map, List.getElem?_range h]; rfl
theorem winL_len {s : List Int} {Q k : Nat} (h : k + Q ≤ s.length) : (winL s Q k).length = Q := by unfold winL; rw [List.length_take, List.length_drop]; omega
theorem IA.win {w : World} {A : Option Addr} {n b o : Nat} {xs : List Int} (h : IA w A n b o xs) {k m : Nat} (hk : k + m ≤ n) : IA w (some ⟨b, o + k, none⟩) m b (o + k) (winL xs m k) := by
  refine ⟨winL_len (by rw [h.len]; exact hk), fun _ => rfl, by have := h.big; omega, fun i hi => ?_⟩
  obtain ⟨x, hx, hc⟩ := h.cell (k + i) (by omega)
  refine ⟨x, ?_, by rw [Nat.add_assoc]; exact hc⟩
  unfold winL
  rw [List.getElem?_take_of_lt hi, List.getElem?_drop]
  exact hx
theorem tabOk_true {p : Int} {s : List Int} {r q : Int} (h : tabOk p s r q = true) : serB p s = true ∧ ∃ R Q : Nat, r = R ∧ q = Q ∧ 1 ≤ R ∧ R ≤ 8 ∧ 1 ≤ Q ∧ Q ≤ 8 ∧ R + Q - 1 ≤ s.length := by
  unfold tabOk inB at h
  simp only [Bool.and_eq_true, decide_eq_true_eq] at h
  obtain ⟨h1, ⟨h2, h3⟩, ⟨h4, h5⟩, h6⟩ := h
  exact ⟨h1, r.toNat, q.toNat, by omega, by omega, by omega, by omega, by omega, by omega, by omega⟩
theorem tabOk_false {p : Int} {s : List Int} {r q : Int} (h : tabOk p s r q = false) : serB p s = false ∨ (serB p s = true ∧ (r < 1 ∨ (¬ r < 1 ∧ (8 < r ∨ (¬ 8 < r ∧ (q < 1 ∨ (¬ q < 1 ∧ (8 < q ∨ (¬ 8 < q ∧ (s.length : Int) < r + q - 1))))))))) := by
  cases hs : serB p s
  · exact .inl rfl
  right
  refine ⟨rfl, ?_⟩
  unfold tabOk inB at h
  rw [hs] at h
  simp only [Bool.true_and, Bool.and_eq_false_iff, decide_eq_false_iff_not] at h
  omega
theorem tabR_bd (p : Int) (s : List Int) (r q : Int) : tot (tabR p s r q) ≤ 1048576 := by
  rcases h : tabOk p s r q
  · unfold tabR; rw [if_neg (by simp [h])]; decide
  obtain ⟨_, R, Q, rfl, rfl, h1, h2, h3, h4, h5⟩ := tabOk_true h
  unfold tabR; rw [if_pos h]
  simp only [Int.toNat_natCast]
  have h6 := tot_rows (tabL s R Q) 8 (fun row hr => by
    obtain ⟨k, hk, rfl⟩ := List.mem_map.1 hr
    unfold winL; rw [List.length_take]; omega)
  rw [tabL_len] at h6
  omega
set_option maxRecDepth 100000 in
set_option maxHeartbeats 4000000 in
theorem implTableOf (p : Int) (A : Option Addr) (n c b o : Nat) (s : List Int) (r q : Int) (w : World) (h : IA w A n b o s) (hcp : n ≤ c) :
    Calls Try.prog 11 #[.int .i64 p, .slice A n c, .int .i64 r, .int .i64 q] w (MadeM (tabR p s r q).length (tabR p s r q) w) := by
  have hbig := h.big
  have hlen := h.len
  have H := Lib.hid h
  rcases hv : tabOk p s r q
  · have HE := Lib.hid (show tabR p s r q = [] by unfold tabR; rw [if_neg (by simp [hv])])
    have hc := tabOk_false hv
    rw [hlen] at hc
    clear h hv hlen
    rcases hc with hc | ⟨hs, hc⟩
    · have HV := Lib.hid hc
      clear hc
      go_enter Try.func11, Try.ntmps11
      go_wp2_with (go_at_call 42; refine (implSeriesValidB p A n c b o s _ H.out).mono ?_; rintro e w1 ⟨rfl, hB⟩; rw [HV.out]; have HB1 := Lib.hid hB; clear hB)
      go_ret
      rw [HE.out]
      exact ⟨none, 0, [], rfl, OM.none _ _, HB1.out⟩
    have HV := Lib.hid hs
    clear hs
    rcases hc with hc | ⟨h1, hc | ⟨h2, hc | ⟨h3, hc | ⟨h4, hc⟩⟩⟩⟩
    case inr.inr.inr.inr =>
      have hw1 : IntKind.i64.wrap (r + q) = r + q := IntWalk.i64_in _ ⟨by omega, by omega⟩
      have hw2 : IntKind.i64.wrap (r + q - 1) = r + q - 1 := IntWalk.i64_in _ ⟨by omega, by omega⟩
      go_enter Try.func11, Try.ntmps11
      go_wp2_with (go_at_call 42; refine (implSeriesValidB p A n c b o s _ H.out).mono ?_; rintro e w1 ⟨rfl, hB⟩; rw [HV.out]; have HB1 := Lib.hid hB; clear hB)
      go_ret
      rw [HE.out]
      exact ⟨none, 0, [], rfl, OM.none _ _, HB1.out⟩
    all_goals
      go_enter Try.func11, Try.ntmps11
      go_wp2_with (go_at_call 42; refine (implSeriesValidB p A n c b o s _ H.out).mono ?_; rintro e w1 ⟨rfl, hB⟩; rw [HV.out]; have HB1 := Lib.hid hB; clear hB)
      go_ret
      rw [HE.out]
      exact ⟨none, 0, [], rfl, OM.none _ _, HB1.out⟩
  obtain ⟨hs, R, Q, rfl, rfl, r1, r8, q1, q8, hrq⟩ := tabOk_true hv
  rw [hlen] at hrq
  have HV := Lib.hid hs
  have HE := Lib.hid (show tabR p s (R : Int) (Q : Int) = tabL s R Q by unfold tabR; rw [if_pos hv]; rfl)
  obtain ⟨T, hT⟩ : ∃ T, tabL s R Q = T := ⟨_, rfl⟩
  have HT := Lib.hid hT
  have HTL := Lib.hid (show T.length = R by rw [← hT, tabL_len])
  have HTG := Lib.hid (show ∀ k, k < R → T[k]? = some (winL s Q k) from fun k hk => by rw [← hT, tabL_get s hk])
  have HSL := Lib.hid hlen
  obtain rfl := h.adr (by omega)
  have hw1 : IntKind.i64.wrap ((R : Int) + Q) = (R : Int) + Q := IntWalk.i64_in _ ⟨by omega, by omega⟩
  have hw2 : IntKind.i64.wrap ((R : Int) + Q - 1) = (R : Int) + Q - 1 := IntWalk.i64_in _ ⟨by omega, by omega⟩
  have hmk := run_make_row' (P := Try.prog) 26 23 (.slice none 0 0) 24 Try.underlying26 infoInts rfl .i64 .i64 R (by omega) (by omega)
  clear h hs hv hT hlen
  go_enter Try.func11, Try.ntmps11
  go_wp2_with (go_at_call 42; refine (implSeriesValidB p _ n c b o s _ H.out).mono ?_; rintro e w1 ⟨rfl, hB⟩; rw [HV.out]; have HB1 := Lib.hid hB; clear hB)
  go_loopw [44] (fun i wr => ∃ (k : Nat) (vs : List Value), k ≤ R ∧ i = .int .i64 k ∧ Half wr w1.heap.size R k T vs ∧ Below w1.heap.size w1 wr) (fun i _ => R - (intOf i).toNat)
  case atStart => exact ⟨0, [], by omega, rfl, Half.start w1 R T (by omega), (Below.refl _ _).alloc (Nat.le_refl _) _⟩
  case round =>
    obtain ⟨k, vs, hk, rfl, hown, hbel⟩ := hrel
    by_cases hlt : k < R
    · have HI := Lib.hid ((((H.out.below HB1.out)).below hbel).win (k := k) (m := Q) (by omega))
      have HO := Lib.hid hown
      have HB := Lib.hid hbel
      have HRR := Lib.hid (HTG.out k hlt)
      have hwl := winL_len (s := s) (Q := Q) (k := k) (by rw [HSL.out]; omega)
      have HWL := Lib.hid hwl
      have hkq : IntKind.i64.wrap ((k : Int) + Q) = (k : Int) + Q := IntWalk.i64_in _ ⟨by omega, by omega⟩
      have hkc : k + Q ≤ c := by omega
      clear hown hbel hwl
      go_wp2_with (fail)
      refine (cloneI_any (some ⟨b, o + k, none⟩) Q (c - k) b (o + k) (winL s Q k) _ HI.out (by omega)).mono ?_
      rintro e w2 ⟨A2, c2, rfl, hI2, hB2⟩
      have hI2' : OI w2 wr.heap.size A2 (winL s Q k).length c2 (winL s Q k) := by rw [HWL.out]; exact hI2
      obtain ⟨hst, hgr⟩ := HO.out.step hlt HTL.out hB2 HRR.out hI2'
      rw [HWL.out] at hst
      have ho := owns_below HO.out.out hB2
      have hcell := World.ownsRow.cellAt ho k (by omega)
      have hfr := World.ownsRow.frozenAt ho k
      obtain ⟨v0, hv0⟩ : ∃ v0, w2.cell? ⟨w1.heap.size, k, none⟩ = some v0 := by
        rw [hcell]; exact ⟨_, List.getElem?_eq_getElem (by have := HO.out.vlen; simp; omega)⟩
      have hs0 := HB.out.size
      have HS := Lib.hid hst
      have HB2 := Lib.hid (HB.out.trans (hB2.mono hs0))
      clear hcell ho hst hgr hB2 hI2 hI2'
      go_wp2_with (fail)
      go_roundw
      case rel => exact ⟨k + 1, _, by omega, by go_num, HS.out, HB2.out.setCell (Nat.le_refl _) _⟩
      case measure => simp [intOf]; omega
    · obtain rfl : k = R := by omega
      have HO := Lib.hid (hown.done HTL.out)
      have HB := Lib.hid hbel
      clear hown hbel
      go_wp2_with (fail)
      go_ret
      rw [HE.out, HT.out, HTL.out]
      exact ⟨_, _, _, rfl, HO.out.mono HB1.out.size, below_more HB1.out HB.out⟩
set_option maxRecDepth 100000 in
set_option maxHeartbeats 4000000 in
theorem specTableOf (p : Int) (A : Option Addr) (n c b o : Nat) (s : List Int) (r q : Int) (w : World) (h : IA w A n b o s) (hcp : n ≤ c) :
    Calls Try.prog 13 #[.int .i64 p, .slice A n c, .int .i64 r, .int .i64 q] w (MadeM (tabR p s r q).length (tabR p s r q) w) := by
  have hbig := h.big
  have hlen := h.len
  have HB0 := Lib.hid ((Below.refl w.heap.size w).alloc (Nat.le_refl _) (.cells #[] 23))
  have H := Lib.hid (h.below HB0.out)
  have H0 := Lib.hid h
  obtain ⟨ir, hir⟩ : ∃ i, inB r 1 8 = i := ⟨_, rfl⟩
  obtain ⟨iq, hiq⟩ : ∃ i, inB q 1 8 = i := ⟨_, rfl⟩
  have HIR := Lib.hid hir
  have HIQ := Lib.hid hiq
  rcases hv : tabOk p s r q
  · have HE := Lib.hid (show tabR p s r q = [] by unfold tabR; rw [if_neg (by simp [hv])])
    have hc : serB p s = false ∨ (serB p s = true ∧ (ir = false ∨ (ir = true ∧ (iq = false ∨ (iq = true ∧ (r ≤ 8 ∧ 1 ≤ r ∧ q ≤ 8 ∧ 1 ≤ q ∧ (n : Int) < r + q - 1)))))) := by
      rcases tabOk_false hv with hc | ⟨hc, h1⟩
      · exact .inl hc
      refine .inr ⟨hc, ?_⟩
      rw [hlen] at h1
      rw [← hir, ← hiq]
      unfold inB
      simp only [Bool.and_eq_true, Bool.and_eq_false_iff, decide_eq_false_iff_not, decide_eq_true_eq]
      omega
    clear h hv hlen hir hiq
    rcases hc with hc | ⟨hs, hc⟩
    · have HV := Lib.hid hc
      clear hc
      go_enter Try.func13, Try.ntmps13
      go_wp2_with (go_at_call 45; refine (specSeriesValidB p A n c b o s _ H.out).mono ?_; rintro e w1 ⟨rfl, hB⟩; rw [HV.out]; have HB1 := Lib.hid hB; clear hB)
      go_ret
      rw [HE.out]
      exact ⟨_, 0, [], rfl, (OM.empty w).below HB1.out, below_more HB0.out HB1.out⟩
    have HV := Lib.hid hs
    clear hs
    rcases hc with rfl | ⟨rfl, rfl | ⟨rfl, c1, c2, c3, c4, c5⟩⟩
    case inr.inr =>
      have hw1 : IntKind.i64.wrap (r + q) = r + q := IntWalk.i64_in _ ⟨by omega, by omega⟩
      have hw2 : IntKind.i64.wrap (r + q - 1) = r + q - 1 := IntWalk.i64_in _ ⟨by omega, by omega⟩
      go_enter Try.func13, Try.ntmps13
      go_wp2_with (first | (go_at_call 45; refine (specSeriesValidB p A n c b o s _ H.out).mono ?_; rintro e w1 ⟨rfl, hB⟩; rw [HV.out]; have HB1 := Lib.hid hB; clear hB) | (go_at_call 46; (with_reducible refine (specIn r _ _ _).mono ?_); rintro e w1 ⟨rfl, rfl⟩; rw [HIR.out]) | (go_at_call 46; (with_reducible refine (specIn q _ _ _).mono ?_); rintro e w1 ⟨rfl, rfl⟩; rw [HIQ.out]))
      go_ret
      rw [HE.out]
      exact ⟨_, 0, [], rfl, (OM.empty w).below HB1.out, below_more HB0.out HB1.out⟩
    all_goals
      go_enter Try.func13, Try.ntmps13
      go_wp2_with (first | (go_at_call 45; refine (specSeriesValidB p A n c b o s _ H.out).mono ?_; rintro e w1 ⟨rfl, hB⟩; rw [HV.out]; have HB1 := Lib.hid hB; clear hB) | (go_at_call 46; (with_reducible refine (specIn r _ _ _).mono ?_); rintro e w1 ⟨rfl, rfl⟩; rw [HIR.out]) | (go_at_call 46; (with_reducible refine (specIn q _ _ _).mono ?_); rintro e w1 ⟨rfl, rfl⟩; rw [HIQ.out]))
      go_ret
      rw [HE.out]
      exact ⟨_, 0, [], rfl, (OM.empty w).below HB1.out, below_more HB0.out HB1.out⟩
  obtain ⟨hs, R, Q, rfl, rfl, r1, r8, q1, q8, hrq⟩ := tabOk_true hv
  rw [hlen] at hrq
  have HV := Lib.hid hs
  have HE := Lib.hid (show tabR p s (R : Int) (Q : Int) = tabL s R Q by unfold tabR; rw [if_pos hv]; rfl)
  obtain rfl : ir = true := by rw [← hir]; unfold inB; simp only [Bool.and_eq_true, decide_eq_true_eq]; omega
  obtain rfl : iq = true := by rw [← hiq]; unfold inB; simp only [Bool.and_eq_true, decide_eq_true_eq]; omega
  obtain ⟨T, hT⟩ : ∃ T, tabL s R Q = T := ⟨_, rfl⟩
  have HT := Lib.hid hT
  have HTL := Lib.hid (show T.length = R by rw [← hT, tabL_len])
  have HTG := Lib.hid (show ∀ k, k < R → T[k]? = some (winL s Q k) from fun k hk => by rw [← hT, tabL_get s hk])
  have HSL := Lib.hid hlen
  obtain rfl := h.adr (by omega)
  have hw1 : IntKind.i64.wrap ((R : Int) + Q) = (R : Int) + Q := IntWalk.i64_in _ ⟨by omega, by omega⟩
  have hw2 : IntKind.i64.wrap ((R : Int) + Q - 1) = (R : Int) + Q - 1 := IntWalk.i64_in _ ⟨by omega, by omega⟩
  clear h hs hv hT hlen hir hiq
  go_enter Try.func13, Try.ntmps13
  go_wp2_with (first | (go_at_call 45; refine (specSeriesValidB p _ n c b o s _ H.out).mono ?_; rintro e w1 ⟨rfl, hB⟩; rw [HV.out]; have HB1 := Lib.hid hB; clear hB) | (go_at_call 46; (with_reducible refine (specIn (R : Int) _ _ _).mono ?_); rintro e w1 ⟨rfl, rfl⟩; rw [HIR.out]) | (go_at_call 46; (with_reducible refine (specIn (Q : Int) _ _ _).mono ?_); rintro e w1 ⟨rfl, rfl⟩; rw [HIQ.out]))
  go_loopw [9, 10] (fun v i wr => ∃ (k : Nat) (Ao : Option Addr) (co : Nat) (vs : List Value), k ≤ R ∧ i = .int .i64 k ∧ v = .slice Ao k co ∧ OM wr w.heap.size Ao k co (T.take k) vs ∧ Below w.heap.size w wr) (fun _ i _ => R - (intOf i).toNat)
  case atStart => exact ⟨0, _, _, [], by omega, rfl, rfl, (OM.empty w).below HB1.out, below_more HB0.out HB1.out⟩
  case round =>
    obtain ⟨k, Ao, co, vs, hk, rfl, rfl, hown, hbel⟩ := hrel
    obtain ⟨wo, rfl⟩ : ∃ wo : World, wo = wr := ⟨_, rfl⟩
    have hs0 := hbel.size
    by_cases hlt : k < R
    · have HI := Lib.hid ((H0.out.below hbel).win (k := k) (m := Q) (by omega))
      have hwl := winL_len (s := s) (Q := Q) (k := k) (by rw [HSL.out]; omega)
      have HO := Lib.hid hown
      have HB := Lib.hid hbel
      have HS := Lib.hid (take_snoc T k _ (HTG.out k hlt))
      have HRL := Lib.hid hwl
      have hkq : IntKind.i64.wrap ((k : Int) + Q) = (k : Int) + Q := IntWalk.i64_in _ ⟨by omega, by omega⟩
      have hkc : k + Q ≤ c := by omega
      clear hown hbel hwl
      go_wp2_with (at_builtin; refine wpList_app_ints rfl (.tmp 42) (.tmp 48) rfl wo.heap.size _ 0 0 [] rfl (OI.empty wo) (k + Q - k) (c - k) b (o + k) (winL s Q k) rfl (by rw [Nat.add_sub_cancel_left]; exact HI.out.below ((Below.refl _ wo).alloc (Nat.le_refl _) _)) (by omega) (by simp) ?_)
      intro A2 c2 w2 hI2 hK2
      have HI2 := Lib.hid (show OI w2 wo.heap.size A2 Q c2 (winL s Q k) by simpa using hI2)
      have hB2 : Below wo.heap.size wo w2 := ((Below.refl _ _).alloc (Nat.le_refl _) _).trans (hK2.below (by simp) (fun q hq => by simp [Value.ownBlock] at hq; omega))
      have HB2 := Lib.hid hB2
      have hs2 := hB2.size
      clear hI2 hK2 hB2
      go_wp2_with (at_builtin; refine wpList_app_row rfl (.tmp 41) (.tmp 50) rfl w.heap.size Ao k co vs rfl (World.ownsRow.alloc (owns_below HO.out.out HB2.out) _) A2 Q c2 _ _ rfl ?_ (by omega) ?_ ?_)
      · simp
      · simp; omega
      · intro A3 c3 w3 ho3 hK3
        have hp := HO.out.push (HB2.out.alloc hs2 (.cells #[.slice A2 Q c2] 23)) (row := winL s Q k) (A1 := A2) (c1 := c2) (by rw [HRL.out]; exact HI2.out.alloc _) (by rw [HRL.out]; exact ho3) hK3 hs0
        rw [HS.out] at hp
        have HP := Lib.hid hp
        have HB3 := Lib.hid (HB.out.trans (((HB2.out.alloc hs2 (.cells #[.slice A2 Q c2] 23)).mono hs0).trans (hK3.below (B := w.heap.size) (by simp; omega) (fun q hq => (HO.out.out.lt q hq).1))))
        clear hp ho3 hK3
        go_wp2_with (fail)
        go_roundw
        case rel => exact ⟨k + 1, _, _, _, by omega, by go_num, rfl, HP.out, HB3.out⟩
        case measure => simp [intOf]; omega
    · obtain rfl : k = R := by omega
      have e : T.take k = T := List.take_of_length_le (by rw [HTL.out]; omega)
      rw [e] at hown
      have HO := Lib.hid hown
      have HB := Lib.hid hbel
      clear e hown hbel
      go_wp2_with (fail)
      go_ret
      rw [HE.out, HT.out, HTL.out]
      exact ⟨_, _, _, rfl, HO.out, HB.out⟩
theorem specTableOfG (p : Int) (A : Option Addr) (n c b o : Nat) (s : List Int) (r q : Int) (w : World) (h : IA w A n b o s) (hcp : n ≤ c) :
    Calls Try.prog 13 #[.int .i64 p, .slice A n c, .int .i64 r, .int .i64 q] w (GivesM (tabR p s r q) w) := by
  refine (specTableOf p A n c b o s r q w h hcp).mono ?_
  rintro e w' ⟨A1, c1, vs, rfl, hO, hB⟩
  obtain ⟨b1, hR⟩ := hO.ra
  exact ⟨A1, c1, b1, 0, rfl, hR, hB⟩
theorem implTableOfG (p : Int) (A : Option Addr) (n c b o : Nat) (s : List Int) (r q : Int) (w : World) (h : IA w A n b o s) (hcp : n ≤ c) :
    Calls Try.prog 11 #[.int .i64 p, .slice A n c, .int .i64 r, .int .i64 q] w (MadeM (tabR p s r q).length (tabR p s r q) w) := implTableOf p A n c b o s r q w h hcp
end Go.Proofs.Ytcjpjcigjljplaa

/-
  The contracts of negativeBackwards, RecPoly.
  append of a row that is read, of whatever length, to a slice of integers of the call's own, at a step of a region that draws its order.
  The contract of the model's RecPoly.
-/
import Derived.Test.YtdecaokngedghaaRes
import Derived.Test.YtdecaokngedghaaSRt
import Derived.Deep.RegionHeld3
import Derived.Deep.AppendSrc
import Derived.Test.YtdecaokngedghaaRules
import Derived.Test.YtdecaokngedghaaTrim
import Derived.Test.YtdecaokngedghaaMod
namespace Go.Proofs.Ytdecaokngedghaa
open Go.RowKit
/-- the numbers' negatives, the last one first -/
def negB (p : Int) (xs : List Int) : List Int := xs.reverse.map fun x => (p - x) % p
theorem negB_len (p : Int) (xs : List Int) : (negB p xs).length = xs.length := by simp [negB]
theorem negB_get {p : Int} {xs : List Int} {k m : Nat} {x : Int} (hx : xs[k]? = some x) (h : m + k + 1 = xs.length) : (negB p xs)[m]? = some ((p - x) % p) := by
  unfold negB
  rw [List.getElem?_map, List.getElem?_reverse (by omega), show xs.length - 1 - m = k by omega, hx]
  rfl
theorem recP_eq (p : Int) (T : List Int) : recP p T = negB p T ++ [1] := rfl
theorem unP_eq (p : Int) (f : List Int) : unP p f = negB p (f.take (f.length - 1)) := rfl
theorem back_set {G : List Int} {m : Nat} {g : Int} (hg : G[m]? = some g) : (List.replicate (m + 1) (0 : Int) ++ G.drop (m + 1)).set m g = List.replicate m 0 ++ G.drop m := by
  have hm := (List.getElem?_eq_some_iff.1 hg).1
  rw [List.set_append_left _ _ (by simp), List.drop_eq_getElem_cons hm, (List.getElem?_eq_some_iff.1 hg).2]
  rw [List.replicate_succ', List.set_append_right _ _ (by simp)]
  simp
set_option maxHeartbeats 1000000 in
theorem negBack_any (p : Int) (A : Option Addr) (n c b o : Nat) (xs : List Int) (w : World) (h : IA w A n b o xs) (hp : primeB p = true) (hv : ∀ x ∈ xs, numB p x = true) (hn : n ≤ 1000000) :
    Calls Try.prog 99 #[.int .i64 p, .slice A n c] w (MadeI n (negB p xs) w) := by
  have hpb := prime_ge hp
  have hlen := h.len
  have HL := Lib.hid hlen
  have H := Lib.hid h
  have HV := Lib.hid hv
  obtain ⟨G, hG⟩ : ∃ G, negB p xs = G := ⟨_, rfl⟩
  have hGl : G.length = n := by rw [← hG, negB_len, hlen]
  rw [hG]
  have HG := Lib.hid hG
  have HGL := Lib.hid hGl
  have hmk := run_make_row' (P := Try.prog) 23 3 (.int .i64 0) 8 Try.underlying23 infoInt rfl .i64 .i64 n (by omega) (by omega)
  clear h hlen hv hG hGl hp
  go_enter Try.func99, Try.ntmps99
  go_wp2_with (fail)
  go_loopw [13] (fun i wr => ∃ k : Nat, k ≤ n ∧ i = .int .i64 k ∧ OI wr w.heap.size (some ⟨w.heap.size, 0, none⟩) n n (List.replicate (n - k) 0 ++ G.drop (n - k)) ∧ Below w.heap.size w wr) (fun i _ => n - (intOf i).toNat)
  case atStart => exact ⟨0, by omega, rfl, by rw [Nat.sub_zero, List.drop_of_length_le (by have := HGL.out; omega)]; simpa using made_ints w n (by omega), (Below.refl _ _).alloc (Nat.le_refl _) _⟩
  case round =>
    obtain ⟨k, hk, rfl, hown, hbel⟩ := hrel
    by_cases hlt : k < n
    · obtain rfl := H.out.adr (by omega)
      obtain ⟨x, hx, hc⟩ := (H.out.below hbel).cell k hlt
      obtain ⟨m, hm⟩ : ∃ m : Nat, m + k + 1 = n := ⟨n - k - 1, by omega⟩
      have hxb := numB_bd (HV.out x (List.mem_of_getElem? hx))
      have hg : G[m]? = some ((p - x) % p) := by rw [← HG.out]; exact negB_get hx (by rw [HL.out]; exact hm)
      rw [show n - k = m + 1 by omega] at hown
      have hcell := World.ownsRow.cellAt hown m (by omega)
      have hfr := World.ownsRow.frozenAt hown m
      have hst := World.ownsRow.stored hown m (.int .i64 ((p - x) % p))
      rw [ints_set, back_set hg] at hst
      obtain ⟨v0, hv0⟩ : ∃ v0, wr.cell? ⟨w.heap.size, m, none⟩ = some v0 := by
        rw [hcell]; exact ⟨_, List.getElem?_eq_getElem (by have := HGL.out; simp [ints]; omega)⟩
      have hw1 : IntKind.i64.wrap ((n : Int) - 1) = (n : Int) - 1 := IntWalk.i64_in _ ⟨by omega, by omega⟩
      have hw2 : IntKind.i64.wrap ((n : Int) - 1 - (k : Int)) = (m : Int) := by rw [show (n : Int) - 1 - (k : Int) = (m : Int) by omega]; exact IntWalk.i64_in _ ⟨by omega, by omega⟩
      have hmn : m < n := by omega
      have HO := Lib.hid hst
      have HB := Lib.hid hbel
      have HX := Lib.hid hxb
      have HM := Lib.hid hm
      clear hx hcell hst hown hbel hg hxb hm
      go_wp2_with (go_at_call 80; refine (negative_any2 p x _ HX.out.2.2.1 HX.out.2.2.2 HX.out.1 HX.out.2.1).mono ?_; rintro e w' ⟨rfl, rfl⟩)
      go_roundw
      case rel =>
        refine ⟨k + 1, by omega, by go_num, ?_, HB.out.setCell (Nat.le_refl _) _⟩
        have e : (p - x) % p = -x % p := by simp
        rw [show n - (k + 1) = m by have := HM.out; omega, ← e]
        exact HO.out.1
      case measure => simp [intOf]; omega
    · obtain rfl : k = n := by omega
      have HO := Lib.hid hown
      clear hown
      go_wp2_with (fail)
      go_ret
      exact ⟨_, _, rfl, by have := HO.out; simpa using this, hbel⟩
def polyO (p : Int) (T F : List Int) : List Int := if recB p T F = true then recP p T else []
theorem polyO_len (p : Int) (T F : List Int) : (polyO p T F).length ≤ 1048576 := by
  unfold polyO
  split
  · rename_i h
    rw [recP_len]
    have := (recB_true h).2.1
    omega
  · simp
theorem implRecPoly (v : Value) (p : Int) (T F : List Int) (w : World) (h : RV w v p T F) :
    Calls Try.prog 75 #[v] w (MadeI (polyO p T F).length (polyO p T F) w) := by
  obtain ⟨A, n, c, b, o, A', n', c', b', o', rfl, g1, g2⟩ := h
  have hB0 : Below w.heap.size w (w.alloc (.cells #[.int .i64 p, .slice A n c, .slice A' n' c'] 27)) := (Below.refl _ w).alloc (Nat.le_refl _) _
  have HV0 := Lib.hid (show RV _ (.agg #[.int .i64 p, .slice A n c, .slice A' n' c']) p T F from ⟨_, _, _, _, _, _, _, _, _, _, rfl, g1.below hB0, g2.below hB0⟩)
  have H := Lib.hid g1
  have HL := Lib.hid g1.len
  have HZ := Lib.hid (box3 w (.int .i64 p) (.slice A n c) (.slice A' n' c') 27)
  have HB0 := Lib.hid hB0
  clear g1 g2 hB0
  rcases hv : recB p T F
  · have HV := Lib.hid hv
    have HE := Lib.hid (show polyO p T F = [] by unfold polyO; rw [if_neg (by simp [hv])])
    clear hv
    go_enter Try.func75, Try.ntmps75
    go_wp2_with (go_at_call 13; refine (implRecValid _ p T F _ HV0.out).mono ?_; rintro e w1 ⟨rfl, hB⟩; rw [HV.out]; have HB := Lib.hid hB; clear hB)
    go_ret
    rw [HE.out]
    exact ⟨none, 0, rfl, World.ownsRow_nil _ _ _ _, below_more HB0.out HB.out⟩
  obtain ⟨hp, h6, hl, hT, _⟩ := recB_true hv
  have HV := Lib.hid hv
  have HP := Lib.hid hp
  have HT := Lib.hid hT
  have HE := Lib.hid (show polyO p T F = negB p T ++ [1] by unfold polyO; rw [if_pos hv]; rfl)
  rw [HL.out] at h6
  clear hv hp hT hl
  go_enter Try.func75, Try.ntmps75
  go_wp2_with (go_at_call 13; refine (implRecValid _ p T F _ HV0.out).mono ?_; rintro e w1 ⟨rfl, hB⟩; rw [HV.out]; have k0 := (keep_of_below hB).cell HZ.out.1 (fun h => h); have k1 := (keep_of_below hB).cell HZ.out.2.1 (fun h => h); have HB := Lib.hid hB; clear hB)
  have hB1 := below_more HB0.out HB.out
  refine (negBack_any p A n c b o T _ (H.out.below hB1) HP.out HT.out (by omega)).mono ?_
  rintro e w3 ⟨A3, c3, rfl, hO, hB3⟩
  have HO := Lib.hid (owns_mono hO hB1.size)
  have HB3 := Lib.hid (below_more hB1 hB3)
  have hs3 := (below_more hB1 hB3).size
  clear hO hB3 hB1
  go_wp2_with (at_builtin; refine wpList_app_int rfl (.tmp 10) (.tmp 11) rfl w.heap.size A3 n c3 (negB p T) rfl (World.ownsRow.alloc HO.out _) 1 w3.heap.size 1 rfl (by simp [go_sem]) (by omega) (by simp; omega) ?_)
  intro A4 c4 w4 hO4 hK4
  have HO4 := Lib.hid hO4
  have HB4 := Lib.hid (show Below w.heap.size w w4 from HB3.out.trans (((keep_of_below ((Below.refl _ w3).alloc (Nat.le_refl _) (.cells #[.int .i64 1] 3)) |>.mono (T := fun k => (Value.slice A3 n c3).ownBlock = some k) (fun _ _ h => h.elim)).trans hK4).below hs3 (fun g hg => (HO.out.lt g hg).1)))
  clear hO4 hK4
  go_wp2_with (fail)
  go_ret
  rw [HE.out, List.length_append, negB_len, HL.out]
  exact ⟨_, _, rfl, HO4.out, HB4.out⟩
end Go.Proofs.Ytdecaokngedghaa
namespace Go.Proofs.Ytdecaokngedghaa
open Go.RowKit
theorem run_app_any (w : World) (B : Nat) (g n c : Nat) (xs : List Int) (hown : OI w B (some ⟨g, 0, none⟩) n c xs) (A2 : Option Addr) (m c2 b2 o2 : Nat) (ys : List Int) (h2 : IA w A2 m b2 o2 ys) (hA : A2 = none → m = 0) (hn : n + m ≤ 1000000000) (hB : B ≤ w.heap.size) :
    ∃ (A' : Option Addr) (c' : Nat) (w' : World), (Builtin.append_ #[23, 23] 23 #[.slice (some ⟨g, 0, none⟩) n c, .slice A2 m c2]).run Try.prog w = .ok (.slice A' (n + m) c') w' ∧ OI w' B A' (n + m) c' (xs ++ ys) ∧ w.grownBy w' (some g) := by
  obtain ⟨i0, hi, hz0, hz1, hz2⟩ := info_parts infoInt
  by_cases hm : m = 0
  · subst hm
    obtain rfl : ys = [] := List.eq_nil_of_length_eq_zero h2.len
    have hcap : n ≤ c := OI.capLe hown
    have hsrc : Src Try.prog i0.size 23 (.slice A2 0 c2) 0 [] w := by
      cases A2 with
      | none => exact Src.ofNil w Try.underlying23 c2
      | some a => exact Src.ofSlice w Try.underlying23 a 0 c2 [] (by simp) (fun j u h => by simp at h) (fun u h => by cases h)
    have hr := run_append_room_src (P := Try.prog) w 23 23 23 3 i0 Try.underlying23 hi g 0 n c (.slice A2 0 c2) 0 [] hsrc (by omega) (fun j h => by simp at h) (fun j h => by simp at h)
    refine ⟨_, _, _, hr, ?_, World.grownBy.refl _ _⟩
    rw [List.append_nil]; exact hown
  · obtain rfl := h2.adr (by omega)
    obtain ⟨v', w', hr, h3, h4, _⟩ := run_append_own (P := Try.prog) w B 23 23 3 i0 (.int .i64 0) 1 8 Try.underlying23 hi hz0 hz1 hz2 rfl (by decide) _ n (ints xs) hown ⟨b2, o2, none⟩ m c2 (ints ys) (by rw [ints_len, h2.len]; omega) h2.src (ints_one ys) (by unfold maxLen; omega) (by omega) hB
    obtain ⟨A', c', rfl⟩ := owns_shape h3
    refine ⟨A', c', w', hr, ?_, h4⟩
    unfold OI
    simpa [ints] using h3
theorem step_app_any {ops : Array Oper} {o : Oper} {a : Act} {w : World} {K : Act → World → Prop} {Q : Exit → Act → World → Prop} {E : Prop} (hg : o.guard = none) (s x : Operand)
    (ho : o.op = .call { callee := .builtin .append, args := #[s, x], argTypes := #[23, 23] }) (hty : o.type = 23)
    (B g n c : Nat) (xs : List Int) (hs : a.eval s = .slice (some ⟨g, 0, none⟩) n c) (hown : OI w B (some ⟨g, 0, none⟩) n c xs) (A2 : Option Addr) (m c2 b2 o2 : Nat) (ys : List Int) (hx : a.eval x = .slice A2 m c2) (h2 : IA w A2 m b2 o2 ys) (hA : A2 = none → m = 0)
    (hn : n + m ≤ 1000000000) (hB : B ≤ w.heap.size)
    (h : ∀ (A' : Option Addr) (c' : Nat) (w' : World), OI w' B A' (n + m) c' (xs ++ ys) → w.grownBy w' (some g) → K (a.put o.dst (.slice A' (n + m) c')) w') :
    if Region.wanted o (yielded ops a.tmps) = true then Oper.wp Try.prog o a w K Q else E := by
  have hw : Region.wanted o (yielded ops a.tmps) = true := by simp [Region.wanted, hg]
  rw [if_pos hw]
  obtain ⟨A', c', w', hr, h3, h4⟩ := run_app_any w B g n c xs hown A2 m c2 b2 o2 ys h2 hA hn hB
  unfold Oper.wp execOp
  simp only [ho, hty, resolve, invoke, builtin, Sem.run_bind, Sem.run_pure, Result.andThen_ok, List.map_toArray, List.map_cons, List.map_nil, hs, hx, hr]
  exact h A' c' w' h3 h4
theorem wpList_app_rowI {ops : Array Oper} {rest : List Oper} {o : Oper} {a : Act} {Q : Exit → Act → World → Prop} {w : World} (hgd : o.guard = none) (s x : Operand)
    (ho : o.op = .call { callee := .builtin .append, args := #[s, x], argTypes := #[23, 23] }) (hty : o.type = 23)
    (B g n c : Nat) (xs : List Int) (hs : a.eval s = .slice (some ⟨g, 0, none⟩) n c) (hown : OI w B (some ⟨g, 0, none⟩) n c xs) (A2 : Option Addr) (m c2 b2 o2 : Nat) (ys : List Int) (hx : a.eval x = .slice A2 m c2) (h2 : IA w A2 m b2 o2 ys) (hA : A2 = none → m = 0)
    (hn : n + m ≤ 1000000000) (hB : B ≤ w.heap.size)
    (h : ∀ (A' : Option Addr) (c' : Nat) (w' : World), OI w' B A' (n + m) c' (xs ++ ys) → w.grownBy w' (some g) → wpList Try.prog ops Q rest (a.put o.dst (.slice A' (n + m) c')) w') :
    wpList Try.prog ops Q (o :: rest) a w := by
  refine wpList_plain hgd fun K hK => ?_
  obtain ⟨A', c', w', hr, h3, h4⟩ := run_app_any w B g n c xs hown A2 m c2 b2 o2 ys h2 hA hn hB
  unfold Oper.wp execOp
  simp only [ho, hty, resolve, invoke, builtin, Sem.run_bind, Sem.run_pure, Result.andThen_ok, List.map_toArray, List.map_cons, List.map_nil, hs, hx, hr]
  exact hK _ _ (h A' c' w' h3 h4)
end Go.Proofs.Ytdecaokngedghaa
namespace Go.Proofs.Ytdecaokngedghaa
open Go.RowKit
theorem oi_some {w : World} {B n c : Nat} {A : Option Addr} {xs : List Int} (h : OI w B A n c xs) (hn : 0 < n) : ∃ g, A = some ⟨g, 0, none⟩ := by
  rcases h.adr with ⟨_, h0, _⟩ | ⟨g, h1, _⟩
  · omega
  · exact ⟨g, h1⟩
/-- the box of a recurrence, and the numbers so far -/
structure HoldR (w wr : World) (v0 v1 v2 : Value) : Prop where
  bel : Below w.heap.size w wr
  c0 : wr.cell? ⟨w.heap.size, 0, none⟩ = some v0
  c1 : wr.cell? ⟨w.heap.size, 1, none⟩ = some v1
  c2 : wr.cell? ⟨w.heap.size, 2, none⟩ = some v2
theorem HoldR.lt {w wr : World} {v0 v1 v2 : Value} (h : HoldR w wr v0 v1 v2) : w.heap.size < wr.heap.size := cell_lt h.c0
theorem HoldR.below {w w1 w2 : World} {v0 v1 v2 : Value} (h : HoldR w w1 v0 v1 v2) (k : Below w1.heap.size w1 w2) : HoldR w w2 v0 v1 v2 :=
  ⟨below_more h.bel k, (keep_of_below k).cell h.c0 (fun h => h), (keep_of_below k).cell h.c1 (fun h => h), (keep_of_below k).cell h.c2 (fun h => h)⟩
theorem HoldR.grown {w w1 w2 : World} {v0 v1 v2 : Value} {row : Option Nat} (h : HoldR w w1 v0 v1 v2) (k : w1.grownBy w2 row) (hr : ∀ g, row = some g → w.heap.size < g) : HoldR w w2 v0 v1 v2 := by
  have hk := keep_grown k
  have hn : ¬ row = some w.heap.size := fun e => by have := hr _ e; omega
  exact ⟨h.bel.grown k h.bel.size (fun g hg => by have := hr g hg; omega), hk.cell h.c0 hn, hk.cell h.c1 hn, hk.cell h.c2 hn⟩
theorem HoldR.start (w : World) (v0 v1 v2 : Value) (t : TypeId) : HoldR w (w.alloc (.cells #[v0, v1, v2] t)) v0 v1 v2 := by
  obtain ⟨h0, h1, h2⟩ := box3 w v0 v1 v2 t
  exact ⟨(Below.refl _ _).alloc (Nat.le_refl _) _, h0, h1, h2⟩
theorem HoldR.drew {w wr : World} {v0 v1 v2 : Value} (h : HoldR w wr v0 v1 v2) : HoldR w wr.drew v0 v1 v2 := ⟨h.bel.drew, h.c0, h.c1, h.c2⟩
theorem below_undrewI {B : Nat} {w w' : World} (h : Below B w.drew w') : Below B w w' := ⟨h.os, h.tape, h.output, h.size, h.block⟩
theorem IA.freshI {w : World} (x : Int) : IA (w.alloc (.cells #[.int .i64 x] 3)) (some ⟨w.heap.size, 0, none⟩) 1 w.heap.size 0 [x] := by
  refine ⟨rfl, fun _ => rfl, by omega, fun i hi => ?_⟩
  obtain rfl : i = 0 := by omega
  exact ⟨x, rfl, by simp⟩
end Go.Proofs.Ytdecaokngedghaa

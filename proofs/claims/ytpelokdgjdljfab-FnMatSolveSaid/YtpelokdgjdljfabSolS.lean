/-
  The contract of the model's MatSolve.
-/
import Derived.Test.YtpelokdgjdljfabSolve
import Derived.Deep.RegionHeld3
import Derived.Deep.AppendLies
namespace Go.Proofs.Ytpelokdgjdljfab
open Go.RowKit
theorem IA.nil (w : World) (A : Option Addr) (b o : Nat) : IA w A 0 b o [] := ⟨rfl, by omega, by omega, by omega⟩
/-- what the model's MatSolve answers -/
def GivesS (R : Option (List Int)) (w : World) (e : Ending) (w' : World) : Prop :=
  ∃ (A : Option Addr) (c b o : Nat), e = .returned (.tuple #[.slice A (R.getD []).length c, .bool R.isSome]) ∧ IA w' A (R.getD []).length b o (R.getD []) ∧ Below w.heap.size w w'
theorem GivesS.nil {w w' : World} (hb : Below w.heap.size w w') : GivesS none w (.returned (.tuple #[.slice (some ⟨w'.heap.size, 0, none⟩) 0 0, .bool false])) (w'.alloc (.cells #[] 3)) :=
  ⟨_, 0, w'.heap.size, 0, rfl, IA.nil _ _ _ _, hb.alloc hb.size _⟩
section
variable {w w0 : World} {ops : Array Oper} {o : Oper} {a : Act} {K : Act → World → Prop} {Q : Exit → Act → World → Prop} {E : Prop}
/-- at a step of a region that draws its order: append of integers to a slice of the call's own -/
theorem step_app_ints (hgd : o.guard = none) (s x : Operand) (ho : o.op = .call { callee := .builtin .append, args := #[s, x], argTypes := #[30, 30] })
    (B : Nat) (A : Option Addr) (n c : Nat) (xs : List Int) (hs : a.eval s = .slice A n c) (hown : OI w B A n c xs) (m c1 b1 o1 : Nat) (ys : List Int) (hx : a.eval x = .slice (some ⟨b1, o1, none⟩) m c1) (hsrc : IA w (some ⟨b1, o1, none⟩) m b1 o1 ys)
    (hm : 0 < m) (hn : n + m ≤ 1000000000) (hb : Below w0.heap.size w0 w) (hB : w0.heap.size = B) (nm : Nat) (hnm : n + m = nm) (zs : List Int) (hzs : xs ++ ys = zs)
    (h : ∀ (A' : Option Addr) (c' : Nat) (w' : World), OI w' B A' nm c' zs → Below w0.heap.size w0 w' → Keep (fun k => (Value.slice A n c).ownBlock = some k) w w' → K (a.put o.dst (.slice A' nm c')) w') :
    if Region.wanted o (yielded ops a.tmps) = true then Oper.wp Try.prog o a w K Q else E := by
  subst hB hnm hzs
  have hys := hsrc.len
  have hbs := hb.size
  obtain ⟨i0, hi, hz0, hz1, hz2⟩ := info_parts infoInt
  refine step_append_lies w hgd s x 30 ho w0.heap.size 3 i0 (.int .i64 0) 1 8 Try.underlying30 hi hz0 hz1 hz2 rfl (by decide) _ n (ints xs) hs hown ⟨b1, o1, none⟩ m c1 (ints ys) hx (by rw [ints_len, hys]; omega) hsrc.src (ints_one ys) hm (by unfold maxLen; omega) (by omega) hbs _ rfl ?_
  intro g cap w' h2 h3 h4 _
  have hk := keep_grown h3
  refine h (some ⟨g, 0, none⟩) cap w' (by unfold OI; simpa [ints] using h2) (hb.trans (hk.below hbs (fun q hq => (hown.lt q hq).1))) hk
/-- append of one slice of integers to a slice of such slices -/
theorem step_app_row (hgd : o.guard = none) (s x : Operand) (ho : o.op = .call { callee := .builtin .append, args := #[s, x], argTypes := #[23, 23] })
    (B : Nat) (A : Option Addr) (n c : Nat) (vs : List Value) (hs : a.eval s = .slice A n c) (hown : w.ownsRow B 30 1 (.slice A n c) n vs) (A1 : Option Addr) (n1 c1 : Nat) (g c2 : Nat) (hx : a.eval x = .slice (some ⟨g, 0, none⟩) 1 c2) (hcell : w.cell? ⟨g, 0, none⟩ = some (.slice A1 n1 c1))
    (hn : n ≤ 1000000000) (hB : B ≤ w.heap.size)
    (h : ∀ (A' : Option Addr) (c' : Nat) (w' : World), w'.ownsRow B 30 1 (.slice A' (n + 1) c') (n + 1) (vs ++ [.slice A1 n1 c1]) → Keep (fun k => (Value.slice A n c).ownBlock = some k) w w' → K (a.put o.dst (.slice A' (n + 1) c')) w') :
    if Region.wanted o (yielded ops a.tmps) = true then Oper.wp Try.prog o a w K Q else E := by
  obtain ⟨i0, hi, hz0, hz1, hz2⟩ := info_parts infoInts
  refine step_append_lies w hgd s x 23 ho B 30 i0 (.slice none 0 0) 1 24 Try.underlying23 hi hz0 hz1 hz2 rfl (by decide) _ n vs hs hown ⟨g, 0, none⟩ 1 c2 [.slice A1 n1 c1] hx rfl ?_ ?_ (by omega) ?_ (by omega) hB _ rfl ?_
  · intro j u hj
    match j, hj with
    | 0, hj => simp at hj; subst hj; simpa [Addr.add] using hcell
  · intro u hu; simp at hu; subst hu; rfl
  · unfold maxLen; omega
  · intro g' cap w' h2 h3 _ _
    exact h _ _ w' h2 (keep_grown h3)
end
theorem OI.emptyAt {w : World} {B g : Nat} (hg : g = w.heap.size) (hB : B ≤ g) : OI (w.alloc (.cells #[] 3)) B (some ⟨g, 0, none⟩) 0 0 [] := by
  subst hg; exact owns_mono (OI.empty w) hB
theorem OI.drewU {w : World} {B n c : Nat} {A : Option Addr} {xs : List Int} (h : OI w B A n c xs) : OI w.drew B A n c xs := owns_keep h (drewN_keep (S := fun _ => False) w 1) (fun _ _ h => h)
theorem IA.alloc {w : World} {n b o : Nat} {A : Option Addr} {xs : List Int} (h : IA w A n b o xs) (ob : Obj) : IA (w.alloc ob) A n b o xs := h.below ((Below.refl _ _).alloc (Nat.le_refl _) ob)
theorem IA.drewU {w : World} {n b o : Nat} {A : Option Addr} {xs : List Int} (h : IA w A n b o xs) : IA w.drew A n b o xs := h.drewN ⟨1, rfl⟩
theorem IA.freshAt {w : World} {g : Nat} (hg : g = w.heap.size) (x : Int) : IA (w.alloc (.cells #[.int .i64 x] 3)) (some ⟨g, 0, none⟩) 1 g 0 [x] := by
  subst hg
  refine ⟨rfl, fun _ => rfl, by omega, fun i hi => ?_⟩
  obtain rfl : i = 0 := by omega
  exact ⟨x, rfl, by simp⟩
theorem owns_drewU {w : World} {B e size n : Nat} {v : Value} {xs : List Value} (h : w.ownsRow B e size v n xs) : w.drew.ownsRow B e size v n xs := owns_keep h (drewN_keep (S := fun _ => False) w 1) (fun _ _ h => h)
theorem Below.drewU {B : Nat} {w0 w : World} (h : Below B w0 w) : Below B w0 w.drew := below_drawn h ⟨1, rfl⟩
/-- with the last column taken, too, a chosen row that begins there tells that there is no solution -/
theorem solve_none {p : Int} {W : List (List Int)} {l q : Nat} (hq : q < (elim p W (l + 1)).2.length) (h : (elim p W (l + 1)).2.getD q 0 = l) : solveW p W l = none := by
  rcases hf : firstW (elim p W l).1 l ((elim p W l).1.length - (elim p W l).2.length) (elim p W l).2.length with _ | r
  · have hs := elim_stay hf
    rw [hs] at h hq
    have := elim_heads p W l _ (getD_mem_nat hq)
    omega
  · exact solveW_no hf
theorem solve_some {p : Int} {W : List (List Int)} {l : Nat} (h : ∀ q, q < (elim p W (l + 1)).2.length → (elim p W (l + 1)).2.getD q 0 ≠ l) : solveW p W l = some (solFill (elim p W (l + 1)).1 (elim p W (l + 1)).2 l (elim p W (l + 1)).2.length) := by
  rcases hf : firstW (elim p W l).1 l ((elim p W l).1.length - (elim p W l).2.length) (elim p W l).2.length with _ | r
  · rw [elim_stay hf]; exact solveW_yes hf
  · exfalso
    have hg := elim_go (r := r) hf
    refine h (elim p W l).2.length (by rw [hg]; simp) ?_
    rw [hg]; simp [List.getD_eq_getElem?_getD]
set_option maxRecDepth 100000 in
set_option maxHeartbeats 1600000 in
theorem specMatSolve (p : Int) (A : Option Addr) (n c b o : Nat) (M : List (List Int)) (A' : Option Addr) (n' c' b' o' : Nat) (want : List Int) (w : World) (h : RA w A n b o M) (h' : IA w A' n' b' o' want) :
    Calls Try.prog 41 #[.int .i64 p, .slice A n c, .slice A' n' c'] w (GivesS (solveR p M want) w) := by
  have hbig := h.big
  have hbig' := h'.big
  have hwl := h'.len
  have hML := h.len
  have H := Lib.hid h
  have H' := Lib.hid h'
  clear h h'
  rcases hv : matB p M
  · have HV := Lib.hid hv
    have HR := Lib.hid (show solveR p M want = none from solveR_no (by unfold okS; rw [hv]; rfl))
    clear hv
    go_enter Try.func41, Try.ntmps41
    go_wp2_with (fail)
    refine (specMatValid p A n c b o M _ H.out).mono ?_
    rintro e w1 ⟨rfl, m, rfl⟩
    rw [HV.out]
    go_wp2_with (fail)
    go_ret2
    rw [HR.out]; exact GivesS.nil (below_drawn (Below.refl _ _) ⟨m, rfl⟩)
  · by_cases hnn : n' = n
    · subst hnn
      have hq : ((n' : Int) != (n' : Int)) = false := by simp
      obtain ⟨hn1, hn8, hl1, hl8, hrows⟩ := matB_true hv
      obtain ⟨l0, hl0⟩ : ∃ l0, (M.headD []).length = l0 := ⟨_, rfl⟩
      have hvm := VM_of_mat hv
      have hp := prime_of_mat hv
      rw [hl0] at hl1 hl8 hrows hvm
      rw [hML] at hn1 hn8
      have hpb := prime_ge hp
      have HRW := Lib.hid (show ∀ row ∈ M, row.length = l0 from fun row hr => (hrows row hr).1)
      have HWL := Lib.hid (show (widenM M want).length = n' by rw [widenM_len (by omega), hML])
      have HVW := Lib.hid (show (∀ x ∈ want, numB p x = true) → VM p (l0 + 1) (widenM M want) from fun h => hvm.widen h)
      have HRN := Lib.hid (show rowB p want = false → solveR p M want = none from fun h => solveR_no (by unfold okS; rw [hv, h]; simp))
      have HRY := Lib.hid (show rowB p want = true → solveR p M want = solveW p (widenM M want) l0 from fun h => by rw [solveR_yes (by unfold okS; rw [hv, h, decide_eq_true (by omega)]; rfl), hl0])
      have HGET := Lib.hid (show ∀ (k : Nat) (row : List Int) (x : Int), M[k]? = some row → want[k]? = some x → (widenM M want)[k]? = some (row ++ [x]) from fun k row x h1 h2 => widenM_get h1 h2)
      obtain ⟨L, hL⟩ : ∃ L, l0 + 1 = L := ⟨_, rfl⟩
      rw [hL] at HVW
      obtain ⟨W, hW⟩ : ∃ W, widenM M want = W := ⟨_, rfl⟩
      rw [hW] at HWL HVW HRY HGET
      have HV := Lib.hid hv
      have HP := Lib.hid hp
      have HML := Lib.hid hML
      obtain ⟨row0, A0, c0, b0, o0, hm0, hc0, hI0⟩ := H.out.row 0 (by omega)
      have hr0 := HRW.out row0 (List.mem_of_getElem? hm0)
      rw [hr0, Nat.add_zero] at hc0
      obtain rfl := H.out.adr (by omega)
      have hmk3 := run_make_row' (P := Try.prog) 30 3 (.int .i64 0) 8 Try.underlying30 infoInt rfl .i64 .i64 l0 (by omega) (by omega)
      clear hm0 hI0 hr0 hv hvm hp hML hrows hl0 hW
      go_enter Try.func41, Try.ntmps41
      go_wp2_with (fail)
      refine (specMatValid p _ n' c b o M _ H.out).mono ?_
      rintro e w1 ⟨rfl, md, rfl⟩
      rw [HV.out]
      go_wp2_with (fail)
      have hBS : Below w.heap.size w ((w.drewN md).alloc (.cells #[] 30)) := (below_drawn (Below.refl _ _) ⟨md, rfl⟩).alloc (Nat.le_refl _) _
      have hOS : OM ((w.drewN md).alloc (.cells #[] 30)) w.heap.size (some ⟨w.heap.size, 0, none⟩) 0 0 [] [] := OM.empty (w.drewN md)
      have HBS := Lib.hid hBS
      have HOS := Lib.hid hOS
      clear hBS hOS
      go_loopw [8, 9] (fun v i wr => ∃ (k : Nat) (A1 : Option Addr) (c1 : Nat) (vs : List Value), k ≤ n' ∧ i = .int .i64 k ∧ v = .slice A1 k c1 ∧ OM wr w.heap.size A1 k c1 (W.take k) vs ∧ Below w.heap.size w wr ∧ Hid (∀ x ∈ want.take k, numB p x = true)) (fun _ i _ => n' - (intOf i).toNat)
      case atStart => exact ⟨0, _, _, [], by omega, rfl, rfl, HOS.out, HBS.out, fun x h => by simp at h⟩
      case round =>
        obtain ⟨k, A1, c1, vs, hk, rfl, rfl, hown, hbel, hwv⟩ := hrel
        obtain ⟨wo, rfl⟩ : ∃ wo : World, wo = wr := ⟨_, rfl⟩
        have hs0 := hbel.size
        by_cases hlt : k < n'
        · obtain rfl := H'.out.adr (by omega)
          obtain ⟨x, hx, hxw⟩ := H'.out.cell k hlt
          have hxc := (keep_of_below hbel).cell hxw (fun h => h)
          rcases hnx : numB p x
          · have HN := Lib.hid hnx
            have HR := Lib.hid (HRN.out (by
              unfold rowB
              rw [List.all_eq_false]
              exact ⟨x, List.mem_of_getElem? hx, by rw [hnx]; simp⟩))
            clear hnx hx
            go_wp2_with (fail)
            refine (specNumValid p x _).mono ?_
            rintro e w3 ⟨rfl, rfl⟩
            rw [HN.out]
            go_wp2_with (fail)
            go_ret2
            rw [HR.out]; exact GivesS.nil hbel
          · obtain ⟨row, A2, c2, b2, o2, hrw, hcw, hI⟩ := H.out.row k hlt
            have hc := (keep_of_below hbel).cell hcw (fun h => h)
            have hrl := HRW.out row (List.mem_of_getElem? hrw)
            rw [hrl] at hc hcw hI
            obtain rfl := hI.adr (by omega)
            have HN := Lib.hid hnx
            have HS := Lib.hid (take_snoc W k (row ++ [x]) (HGET.out k row x hrw hx))
            have HWV := Lib.hid (show ∀ y ∈ want.take (k + 1), numB p y = true from fun y hy => by
              rw [← take_snoc want k x hx] at hy
              rcases List.mem_append.1 hy with hy | hy
              · exact hwv.out y hy
              · simp at hy; rw [hy]; exact hnx)
            have HO := Lib.hid hown
            have HB := Lib.hid hbel
            have HI := Lib.hid hI
            have HRL := Lib.hid hrl
            have HRL3 := Lib.hid (show (row ++ [x]).length = L by simp [hrl]; omega)
            clear hown hbel hI hrw hrl hnx hx hwv
            go_wp2_with (fail)
            refine (specNumValid p x _).mono ?_
            rintro e w3 ⟨rfl, rfl⟩
            rw [HN.out]
            go_wp2_with (fail)
            have hc9 : (World.drew wo).cell? ⟨b, o + k, none⟩ = some (.slice (some ⟨b2, o2, none⟩) l0 c2) := hc
            have hx9 : (World.drew wo).cell? ⟨b', o' + k, none⟩ = some (.int .i64 x) := hxc
            go_region_held3 (fun w' => w'.cell? ⟨b, o + k, none⟩ = some (.slice (some ⟨b2, o2, none⟩) l0 c2) ∧ w'.cell? ⟨b', o' + k, none⟩ = some (.int .i64 x))
              (first | exact ⟨hc, hxc⟩ | go_keep | exact ⟨(keep_of_below hb2).cell hc (fun h => h), (keep_of_below hb2).cell hxc (fun h => h)⟩ | exact ⟨(keep_of_below hb1).cell hc (fun h => h), (keep_of_below hb1).cell hxc (fun h => h)⟩ | exact ⟨(keep_of_below hb5).cell hcw (fun h => h), (keep_of_below hb5).cell hxw (fun h => h)⟩)
              (first
                | (refine step_app_row rfl (.tmp 42) (.tmp 55) (by rfl) w.heap.size A1 k c1 vs (by rfl) (by repeat' (first | exact owns_below HO.out.out hb2 | refine owns_drewU ?_ | refine World.ownsRow.alloc ?_ _)) A4 L c4 _ _ (by rfl) (by simp) (by omega) (by have := hb2.size; simp; omega) ?_; intro A5 c5 w5 ho5 hk5; have hb5 : Below w.heap.size w w5 := HB.out.trans (Below.trans (Below.mono (show Below wo.heap.size wo _ from (by repeat' (first | exact hb2 | refine Below.drewU ?_ | refine Below.alloc ?_ (by have := hb2.size; omega) _))) hs0) (hk5.below (B := w.heap.size) (by have := hb2.size; simp; omega) (fun q hq => (HO.out.out.lt q hq).1))))
                | (refine step_app_ints rfl (.tmp 48) (.tmp 53) (by rfl) (w0 := wo) wo.heap.size A3 l0 c3 row (by rfl) (by repeat' (first | exact hI1 | refine OI.drewU ?_ | refine OI.alloc ?_ _)) 1 _ _ _ [x] (by rfl) (by repeat' (first | exact IA.freshAt (by simp) _ | refine IA.drewU ?_ | refine IA.alloc ?_ _ | refine IA.keepb ?_ hk1 (by intro _ hq; simp [Value.ownBlock] at hq))) (by omega) (by omega) (by repeat' (first | exact hb1 | refine Below.drewU ?_ | refine Below.alloc ?_ (by have := hb1.size; omega) _)) rfl L (by omega) (row ++ [x]) rfl ?_; intro A4 c4 w4 hI2 hb2 hk2)
                | (refine step_app_ints rfl (.tmp 43) (.tmp 47) (by rfl) (w0 := wo) wo.heap.size _ 0 0 [] (by rfl) (by repeat' (first | exact OI.emptyAt (by simp) (by simp) | assumption | refine OI.alloc ?_ _ | refine OI.drewU ?_)) l0 c2 b2 o2 row (by rfl) (HI.out.below (HB.out.trans ((show Below wo.heap.size wo _ by repeat' (first | exact Below.refl _ _ | assumption | refine Below.alloc ?_ (by simp) _ | refine Below.drewU ?_)).mono hs0))) (by omega) (by omega) (by repeat' (first | exact Below.refl _ _ | assumption | refine Below.alloc ?_ (by simp) _ | refine Below.drewU ?_)) rfl l0 (by omega) row rfl ?_; intro A3 c3 w3 hI1 hb1 hk1))
            all_goals
              have hp := OM.push (row := row ++ [x]) (A1 := A4) (c1 := c4) HO.out (by repeat' (first | exact hb2 | refine Below.drewU ?_ | refine Below.alloc ?_ (by have := hb2.size; omega) _)) (by rw [HRL3.out]; repeat' (first | exact hI2 | refine OI.drewU ?_ | refine OI.alloc ?_ _)) (by rw [HRL3.out]; exact ho5) hk5 hs0
              rw [HS.out] at hp
              have HP5 := Lib.hid hp
              have HB5 := Lib.hid hb5
              clear hp ho5 hk5 hb5 hI2 hb2 hk2 hI1 hb1 hk1
              go_wp2_with (fail)
              go_roundw
              case rel => exact ⟨k + 1, _, _, _, by omega, by go_num, rfl, HP5.out, HB5.out, HWV.out⟩
              case measure => simp [intOf]; omega
        · obtain rfl : n' = k := by omega
          have hwt : want.take n' = want := List.take_of_length_le (by omega)
          rw [hwt] at hwv
          have hWt : W.take n' = W := List.take_of_length_le (by rw [HWL.out]; exact Nat.le_refl _)
          rw [hWt] at hown
          have hvw := HVW.out hwv.out
          have hR : solveR p M want = solveW p W l0 := HRY.out (List.all_eq_true.2 hwv.out)
          obtain ⟨br, hRA⟩ := hown.ra
          have HRA := Lib.hid hRA
          have HB := Lib.hid hbel
          have HVV := Lib.hid hvw
          have HNONE := Lib.hid (show ∀ q, q < (elim p W L).2.length → (elim p W L).2.getD q 0 = l0 → solveR p M want = none from fun q h1 h2 => by rw [hR]; exact solve_none (by rw [hL]; exact h1) (by rw [hL]; exact h2))
          have HSOME := Lib.hid (show (∀ q, q < (elim p W L).2.length → (elim p W L).2.getD q 0 ≠ l0) → solveR p M want = some (solFill (elim p W L).1 (elim p W L).2 l0 (elim p W L).2.length) from fun h => by
            rw [hR, solve_some (by rw [hL]; exact h), hL])
          have hinv := elim_inv HP.out hvw L
          have hhd := elim_heads p W L
          clear hwt hWt hown hbel hRA hvw hR hwv
          go_wp2_with (fail)
          refine (specForm p A1 n' c1 br 0 L W _ HRA.out HP.out HVV.out hn1 hn8 (by omega) (by omega)).mono ?_
          rintro e w2 ⟨A2, c2, vs2, A3, c3, rfl, hO2, hI2, hB2⟩
          obtain ⟨F, hF⟩ : ∃ F, (elim p W L).1 = F := ⟨_, rfl⟩
          obtain ⟨hs, hHS⟩ : ∃ hs, (elim p W L).2 = hs := ⟨_, rfl⟩
          obtain ⟨m, hm⟩ : ∃ m, hs.length = m := ⟨_, rfl⟩
          have hNO := HNONE.out
          have hSO := HSOME.out
          rw [hHS, hm] at hNO
          rw [hF, hHS, hm] at hSO
          rw [hF, hHS, hm, HWL.out] at hinv
          rw [hHS] at hhd
          rw [HWL.out, hF] at hO2
          rw [hHS, hm] at hI2
          simp only [HWL.out, hHS, hm]
          have hBT := HB.out.trans (hB2.mono hs0)
          have hc0' := (keep_of_below hBT).cell hc0 (fun h => h)
          have HNO := Lib.hid hNO
          have HSO := Lib.hid hSO
          have HOF := Lib.hid hO2
          have HOI := Lib.hid hI2
          have HBT := Lib.hid hBT
          have HD := Lib.hid hhd
          have HVF := Lib.hid hinv.2.1
          have hmn := hinv.2.2.1
          have HM := Lib.hid hm
          clear hNO hSO hO2 hI2 hBT hhd hinv hF hHS hm HNONE HSOME hB2
          have HI0 := Lib.hid (show OI (w2.alloc (.cells (madeCells #[.int .i64 0] l0) 3)) w2.heap.size (some ⟨w2.heap.size, 0, none⟩) l0 l0 (solFill F hs l0 0) from made_ints w2 l0 (by omega))
          have HB0 := Lib.hid (show Below w2.heap.size w2 (w2.alloc (.cells (madeCells #[.int .i64 0] l0) 3)) from (Below.refl _ _).alloc (Nat.le_refl _) _)
          have hsz := HBT.out.size
          go_wp2_with (fail)
          go_loopw [14] (fun i wi => ∃ s : Nat, s ≤ m ∧ i = .int .i64 s ∧ OI wi w2.heap.size (some ⟨w2.heap.size, 0, none⟩) l0 l0 (solFill F hs l0 s) ∧ Below w2.heap.size w2 wi ∧ Hid (∀ q, q < s → hs.getD q 0 ≠ l0)) (fun i _ => m - (intOf i).toNat)
          case atStart => exact ⟨0, by omega, rfl, HI0.out, HB0.out, fun q h => absurd h (by omega)⟩
          case round =>
            obtain ⟨s, hsm, rfl, hrow, hbi, hne⟩ := hrel
            by_cases hls : s < m
            · obtain ⟨b3, hIA3⟩ := HOI.out.ia
              obtain rfl := hIA3.adr (by omega)
              obtain ⟨q, hq⟩ : ∃ q, hs.getD s 0 = q := ⟨_, rfl⟩
              have hqL : q < L := hq ▸ HD.out _ (getD_mem_nat (by rw [HM.out]; exact hls))
              obtain ⟨y1, hy1, hyc⟩ := (hIA3.below hbi).cell s hls
              rw [headI_get (by rw [HM.out]; exact hls), hq] at hy1
              obtain rfl := Option.some.inj hy1
              rw [Nat.zero_add] at hyc
              by_cases hql0 : q = l0
              · have hqq : ((q : Int) == (l0 : Int)) = true := by rw [beq_iff_eq]; omega
                have HR := Lib.hid (HNO.out s hls (by rw [hq, hql0]))
                have HBW := Lib.hid (HBT.out.trans (hbi.mono hsz))
                clear hrow hbi hIA3 hq hne hql0
                go_wp2_with (fail)
                go_ret2
                rw [HR.out]; exact GivesS.nil HBW.out
              · have hqq : ((q : Int) == (l0 : Int)) = false := by rw [beq_eq_false_iff_ne]; omega
                have hql : q < l0 := by omega
                have HNE := Lib.hid (show ∀ j, j < s + 1 → hs.getD j 0 ≠ l0 from fun j hj => if e : j = s then by rw [e, hq]; exact hql0 else hne.out j (by omega))
                obtain ⟨g, hg⟩ := HOF.out.addr hn1
                subst hg
                obtain ⟨row, bk, ck, hmk', hrl, hrv, hkx, _⟩ := (OMF.mk HOF.out (HOF.out.out.lt g rfl).2 HOF.out.foot).cellAt HVF.out (r := s) (by omega)
                obtain ⟨hvk, hck, hIk, hIA⟩ := hkx (by omega)
                have hck' := (keep_of_below hbi).cell hck (fun h => h)
                obtain ⟨y, hy, hyc2⟩ := (hIA.below hbi).cell l0 (by omega)
                rw [Nat.zero_add] at hyc2
                have hat : at2 F s l0 = y := at2_of hmk' hy
                have hrs := World.ownsRow.cellAt hrow q (by omega)
                obtain ⟨z, hz⟩ : ∃ z, (solFill F hs l0 s)[q]? = some z := ⟨_, List.getElem?_eq_getElem (by rw [solFill_len]; exact hql)⟩
                have hz2 : (ints (solFill F hs l0 s))[q]? = some (.int .i64 z) := by unfold ints; rw [List.getElem?_map, hz]; rfl
                rw [hz2] at hrs
                have hrf := World.ownsRow.frozenAt hrow q
                obtain ⟨hst, _⟩ := World.ownsRow.stored hrow q (.int .i64 y)
                rw [ints_set] at hst
                have hset : (solFill F hs l0 s).set q y = solFill F hs l0 (s + 1) := by
                  show _ = (solFill F hs l0 s).set (hs.getD s 0) (at2 F s l0)
                  rw [hq, hat]
                rw [hset] at hst
                have HI4 := Lib.hid hst
                have HB4 := Lib.hid (hbi.trans ((setCell_keep wr ⟨w2.heap.size, q, none⟩ (.int .i64 y)).below (B := w2.heap.size) hbi.size (fun x hx => by rw [hx]; exact Nat.le_refl _)))
                clear hset hst hz2 hz hrow hbi hkx hvk hck hIk hIA hy hmk' hat hrl hrv hq hIA3 hne hql0
                go_wp2_with (fail)
                refine wp_quiet_tail 13 (by kernel_rfl) (by kernel_rfl) ?_
                simp only [List.take_succ_cons, List.take_zero, List.drop_succ_cons, List.drop_zero]
                repeat (go_big_quiet_step (fail))
                refine wpQuiet_nil ?_
                intro _ hw'
                obtain ⟨nq, hw''⟩ := hw'
                subst hw''
                go_wp2_with (fail)
                go_roundw
                case rel => exact ⟨s + 1, by omega, by go_num, owns_keep HI4.out (drewN_keep (S := fun _ => False) _ _) (fun _ _ h => h), below_drawn HB4.out ⟨nq, rfl⟩, HNE.out⟩
                case measure => simp [intOf]; omega
            · obtain rfl : s = m := by omega
              obtain ⟨bs, hIS⟩ := hrow.ia
              have HIS := Lib.hid hIS
              have HB4 := Lib.hid (HBT.out.trans (hbi.mono hsz))
              have HL := Lib.hid (show (solFill F hs l0 s).length = l0 from solFill_len _ _ _ _)
              have HR := Lib.hid (HSO.out hne.out)
              clear hrow hbi hIS hne
              go_wp2_with (fail)
              go_ret2
              rw [HR.out]
              exact ⟨_, _, bs, 0, by simp only [Option.getD_some, HL.out, Option.isSome_some]; rfl, by simp only [Option.getD_some, HL.out]; exact HIS.out, HB4.out⟩
    · have hq : ((n' : Int) != (n : Int)) = true := neInt hnn
      have HV := Lib.hid hv
      have HR := Lib.hid (show solveR p M want = none from solveR_no (by unfold okS; rw [hv, decide_eq_false (by omega)]; rfl))
      clear hv
      go_enter Try.func41, Try.ntmps41
      go_wp2_with (fail)
      refine (specMatValid p A n c b o M _ H.out).mono ?_
      rintro e w1 ⟨rfl, m, rfl⟩
      rw [HV.out]
      go_wp2_with (fail)
      go_ret2
      rw [HR.out]; exact GivesS.nil (below_drawn (Below.refl _ _) ⟨m, rfl⟩)
theorem OI.below {w w' : World} {B n c : Nat} {A : Option Addr} {xs : List Int} (h : OI w B A n c xs) (k : Below w.heap.size w w') : OI w' B A n c xs := owns_below h k
theorem OI.keepS {w w' : World} {B n c : Nat} {A : Option Addr} {xs : List Int} {S : Nat → Prop} (h : OI w B A n c xs) (k : Keep S w w') (hs : ∀ g, (Value.slice A n c).ownBlock = some g → ¬ S g) : OI w' B A n c xs := owns_keep h k hs
theorem solveR_bd (p : Int) (M : List (List Int)) (want : List Int) : ((solveR p M want).getD []).length ≤ 1048576 := by
  unfold solveR
  split
  · rename_i h
    unfold okS at h
    rw [Bool.and_eq_true] at h
    obtain ⟨h1, h2, h3, h4, _⟩ := matB_true h.1
    unfold solveW
    split
    · simp only [Option.getD_some, solFill_len]; omega
    · simp
  · simp
end Go.Proofs.Ytpelokdgjdljfab

/-
  Plain mathematics of MatSolve; the contract of the program's.
-/
import Derived.Test.YtpelokdgjdljfabKerS
namespace Go.Proofs.Ytpelokdgjdljfab
open Go.RowKit
def widenM (M : List (List Int)) (want : List Int) : List (List Int) := List.zipWith (fun r x => r ++ [x]) M want
def solFill (F : List (List Int)) (hs : List Nat) (l : Nat) : Nat → List Int
  | 0 => List.replicate l 0
  | k + 1 => (solFill F hs l k).set (hs.getD k 0) (at2 F k l)
def okS (p : Int) (M : List (List Int)) (want : List Int) : Bool := matB p M && (decide (want.length = M.length) && rowB p want)
def solveW (p : Int) (W : List (List Int)) (l : Nat) : Option (List Int) :=
  match firstW (elim p W l).1 l ((elim p W l).1.length - (elim p W l).2.length) (elim p W l).2.length with
  | none => some (solFill (elim p W l).1 (elim p W l).2 l (elim p W l).2.length)
  | some _ => none
def solveR (p : Int) (M : List (List Int)) (want : List Int) : Option (List Int) := if okS p M want = true then solveW p (widenM M want) (M.headD []).length else none
theorem solFill_len (F : List (List Int)) (hs : List Nat) (l : Nat) : ∀ k, (solFill F hs l k).length = l
  | 0 => by simp [solFill]
  | k + 1 => by simp [solFill, solFill_len F hs l k]
theorem widenM_len {M : List (List Int)} {want : List Int} (h : want.length = M.length) : (widenM M want).length = M.length := by simp [widenM, h]
theorem widenM_get {M : List (List Int)} {want : List Int} {k : Nat} {row : List Int} {x : Int} (hr : M[k]? = some row) (hx : want[k]? = some x) : (widenM M want)[k]? = some (row ++ [x]) := by
  simp [widenM, List.getElem?_zipWith, hr, hx]
theorem numB_zero {p : Int} (hp : primeB p = true) : numB p 0 = true := by
  have := prime_ge hp
  exact numB_mk hp (by omega) (by omega)
theorem rowB_mem {p : Int} {xs : List Int} (h : rowB p xs = true) : ∀ x ∈ xs, numB p x = true := fun x hx => List.all_eq_true.1 h x hx
theorem VM.widen {p : Int} {l : Nat} {M : List (List Int)} {want : List Int} (h : VM p l M) (hw : ∀ x ∈ want, numB p x = true) : VM p (l + 1) (widenM M want) := by
  intro row hr
  obtain ⟨k, hk, rfl⟩ := List.getElem_of_mem hr
  simp only [widenM, List.getElem_zipWith]
  have h1 : k < M.length := by simp [widenM] at hk; omega
  have h2 : k < want.length := by simp [widenM] at hk; omega
  obtain ⟨g1, g2⟩ := h M[k] (List.getElem_mem h1)
  refine ⟨by simp [g1], fun x hx => ?_⟩
  rcases List.mem_append.1 hx with hx | hx
  · exact g2 x hx
  · simp at hx; rw [hx]; exact hw _ (List.getElem_mem h2)
/-- the answer of MatSolve: a row, and whether there is one -/
def MadeS (R : Option (List Int)) (w : World) (e : Ending) (w' : World) : Prop :=
  ∃ (A : Option Addr) (c : Nat), e = .returned (.tuple #[.slice A (R.getD []).length c, .bool R.isSome]) ∧ OI w' w.heap.size A (R.getD []).length c (R.getD []) ∧ Below w.heap.size w w'
theorem MadeS.nil {w w' : World} (hb : Below w.heap.size w w') : MadeS none w (.returned (.tuple #[.slice none 0 0, .bool false])) w' := ⟨none, 0, rfl, World.ownsRow_nil _ _ _ _, hb⟩
theorem solveR_no {p : Int} {M : List (List Int)} {want : List Int} (h : okS p M want = false) : solveR p M want = none := by unfold solveR; rw [if_neg (by simp [h])]
theorem solveR_yes {p : Int} {M : List (List Int)} {want : List Int} (h : okS p M want = true) : solveR p M want = solveW p (widenM M want) (M.headD []).length := by unfold solveR; rw [if_pos h]
theorem solveW_yes {p : Int} {W : List (List Int)} {l : Nat} (h : firstW (elim p W l).1 l ((elim p W l).1.length - (elim p W l).2.length) (elim p W l).2.length = none) : solveW p W l = some (solFill (elim p W l).1 (elim p W l).2 l (elim p W l).2.length) := by unfold solveW; rw [h]
theorem solveW_no {p : Int} {W : List (List Int)} {l r : Nat} (h : firstW (elim p W l).1 l ((elim p W l).1.length - (elim p W l).2.length) (elim p W l).2.length = some r) : solveW p W l = none := by unfold solveW; rw [h]
/-- copy of a shorter slice to the beginning of one of the call's own -/
theorem wpList_cpy2 {ops : Array Oper} {rest : List Oper} {o : Oper} {a : Act} {Q : Exit → Act → World → Prop} {w : World} (hgd : o.guard = none) (d s : Operand)
    (ho : o.op = .call { callee := .builtin .copy, args := #[d, s], argTypes := #[30, 30] })
    (B g n c : Nat) (xs : List Int) (hd : a.eval d = .slice (some ⟨g, 0, none⟩) n c) (hown : OI w B (some ⟨g, 0, none⟩) n c xs) (m c1 b1 o1 : Nat) (hmn : m ≤ n) (ys : List Int) (hs : a.eval s = .slice (some ⟨b1, o1, none⟩) m c1) (hsrc : IA w (some ⟨b1, o1, none⟩) m b1 o1 ys)
    (h : ∀ w' v, OI w' B (some ⟨g, 0, none⟩) n c (ys ++ xs.drop m) → Keep (· = g) w w' → wpList Try.prog ops Q rest (a.put o.dst v) w') :
    wpList Try.prog ops Q (o :: rest) a w := by
  have hys := hsrc.len
  have hxl := hown.len
  rcases hown.2 with ⟨h1, _⟩ | ⟨g', cap, cur, hv, hb, hg, hnc, hcm, hcs, htk⟩
  · simp at h1
  · simp only [Value.slice.injEq, Option.some.injEq, Addr.mk.injEq, and_true, true_and] at hv
    obtain ⟨rfl, rfl⟩ := hv
    have hcl : cur.toList.length = cur.size := by simp
    refine wpList_copy_own hgd d s 30 30 ho 3 Try.underlying30 infoSize g 0 n c ⟨b1, o1, none⟩ m c1 hd hs cur 3 hg (ints ys) (by rw [ints_len, hys]; exact (Nat.min_eq_left hmn).symm) hsrc.src (by rw [ints_len, hys]; omega) (ints_one ys) ?_
    refine h _ _ ⟨by rw [ints_len, List.length_append, List.length_drop, hys, hxl]; omega, .inr ⟨g, c, _, rfl, hb, setRow_heap w g _ _ 3 _ hg, hnc, hcm, ?_, ?_⟩⟩ ⟨rfl, rfl, rfl, by simp [World.setRow], fun k _ hk => setRow_other w g k _ hk⟩
    · simp [ints_len, hys]; omega
    · simp only [Nat.mul_one] at htk ⊢
      simp only [List.take_zero, List.nil_append, ints_len, hys, Nat.zero_add]
      rw [List.take_append, ints_len, hys, List.take_of_length_le (by rw [ints_len, hys]; exact hmn)]
      rw [← List.drop_take, htk]
      simp [ints]
set_option maxRecDepth 100000 in
set_option maxHeartbeats 1600000 in
theorem implMatSolve (p : Int) (A : Option Addr) (n c b o : Nat) (M : List (List Int)) (A' : Option Addr) (n' c' b' o' : Nat) (want : List Int) (w : World) (h : RA w A n b o M) (h' : IA w A' n' b' o' want) :
    Calls Try.prog 40 #[.int .i64 p, .slice A n c, .slice A' n' c'] w (MadeS (solveR p M want) w) := by
  have hbig := h.big
  have hbig' := h'.big
  have hwl := h'.len
  have hML := h.len
  have H := Lib.hid h
  have H' := Lib.hid h'
  clear h h'
  rcases hv : matB p M
  · have HV := Lib.hid hv
    have HR := Lib.hid (show solveR p M want = none from solveR_no (by unfold okS; rw [hv]; rfl))
    clear hv
    go_enter Try.func40, Try.ntmps40
    go_wp2_with (fail)
    refine (implMatValid p A n c b o M _ H.out).mono ?_
    rintro e w1 ⟨rfl, rfl⟩
    rw [HV.out]
    go_wp2_with (fail)
    go_ret2
    rw [HR.out]; exact MadeS.nil (Below.refl _ _)
  · by_cases hnn : n' = n
    · subst hnn
      have hq : ((n' : Int) != (n' : Int)) = false := by simp
      rcases hrw : rowB p want
      · have HV := Lib.hid hv
        have HW := Lib.hid hrw
        have HR := Lib.hid (show solveR p M want = none from solveR_no (by unfold okS; rw [hv, hrw]; simp))
        clear hv hrw
        go_enter Try.func40, Try.ntmps40
        go_wp2_with (fail)
        refine (implMatValid p A n' c b o M _ H.out).mono ?_
        rintro e w1 ⟨rfl, rfl⟩
        rw [HV.out]
        go_wp2_with (fail)
        refine (allValid_any p A' n' c' b' o' want _ H'.out).mono ?_
        rintro e w1 ⟨rfl, rfl⟩
        rw [HW.out]
        go_wp2_with (fail)
        go_ret2
        rw [HR.out]; exact MadeS.nil (Below.refl _ _)
      · obtain ⟨hn1, hn8, hl1, hl8, hrows⟩ := matB_true hv
        obtain ⟨l0, hl0⟩ : ∃ l0, (M.headD []).length = l0 := ⟨_, rfl⟩
        have hvm := VM_of_mat hv
        have hp := prime_of_mat hv
        rw [hl0] at hl1 hl8 hrows hvm
        rw [hML] at hn1 hn8
        have hpb := prime_ge hp
        have hvw : VM p (l0 + 1) (widenM M want) := hvm.widen (rowB_mem hrw)
        have hR : solveR p M want = solveW p (widenM M want) l0 := by rw [solveR_yes (by unfold okS; rw [hv, hrw, decide_eq_true (by omega)]; rfl), hl0]
        have HRW := Lib.hid (show ∀ row ∈ M, row.length = l0 from fun row hr => (hrows row hr).1)
        have HWL := Lib.hid (show (widenM M want).length = n' by rw [widenM_len (by omega), hML])
        have HGET := Lib.hid (fun (k : Nat) (row : List Int) (x : Int) (h1 : M[k]? = some row) (h2 : want[k]? = some x) => widenM_get h1 h2)
        obtain ⟨L, hL⟩ : ∃ L, l0 + 1 = L := ⟨_, rfl⟩
        rw [hL] at hvw
        obtain ⟨W, hW⟩ : ∃ W, widenM M want = W := ⟨_, rfl⟩
        rw [hW] at HWL hvw hR
        have HGET' := Lib.hid (show ∀ (k : Nat) (row : List Int) (x : Int), M[k]? = some row → want[k]? = some x → W[k]? = some (row ++ [x]) from hW ▸ HGET.out)
        have HV := Lib.hid hv
        have HR := Lib.hid hR
        have HVW := Lib.hid hvw
        have HP := Lib.hid hp
        have HML := Lib.hid hML
        have HRB := Lib.hid hrw
        obtain ⟨row0, A0, c0, b0, o0, hm0, hc0, hI0⟩ := H.out.row 0 (by omega)
        have hr0 := HRW.out row0 (List.mem_of_getElem? hm0)
        rw [hr0, Nat.add_zero] at hc0
        obtain rfl := H.out.adr (by omega)
        have hmk := run_make_row' (P := Try.prog) 23 30 (.slice none 0 0) 24 Try.underlying23 infoInts rfl .i64 .i64 n' (by omega) (by omega)
        have hmk2 := run_make_row' (P := Try.prog) 30 3 (.int .i64 0) 8 Try.underlying30 infoInt rfl .i64 .i64 L (by omega) (by omega)
        have hmk3 := run_make_row' (P := Try.prog) 30 3 (.int .i64 0) 8 Try.underlying30 infoInt rfl .i64 .i64 l0 (by omega) (by omega)
        have hLi : (l0 : Int) + 1 = (L : Int) := by omega
        clear hm0 hI0 hr0 HGET hv hR hvw hvm hp hML hrw hrows hl0 hW
        go_enter Try.func40, Try.ntmps40
        go_wp2_with (fail)
        refine (implMatValid p _ n' c b o M _ H.out).mono ?_
        rintro e w1 ⟨rfl, rfl⟩
        rw [HV.out]
        go_wp2_with (fail)
        refine (allValid_any p A' n' c' b' o' want _ H'.out).mono ?_
        rintro e w1 ⟨rfl, rfl⟩
        rw [HRB.out]
        go_wp2_with (fail)
        go_loopw [44] (fun i wr => ∃ (k : Nat) (vs : List Value), k ≤ n' ∧ i = .int .i64 k ∧ Half wr w.heap.size n' k W vs ∧ Below w.heap.size w wr) (fun i _ => n' - (intOf i).toNat)
        case atStart => exact ⟨0, [], by omega, rfl, Half.start w n' W (by omega), (Below.refl _ _).alloc (Nat.le_refl _) _⟩
        case round =>
          obtain ⟨k, vs, hk, rfl, hown, hbel⟩ := hrel
          obtain ⟨wo, rfl⟩ : ∃ wo : World, wo = wr := ⟨_, rfl⟩
          by_cases hlt : k < n'
          · have hs0 := hbel.size
            have hB0 := (hown.out.lt w.heap.size rfl).2
            obtain ⟨row, A1, c1, b1, o1, hrw, hcw, hI⟩ := H.out.row k hlt
            have hc := (keep_of_below hbel).cell hcw (fun h => h)
            have hrl := HRW.out row (List.mem_of_getElem? hrw)
            rw [hrl] at hc hI
            obtain rfl := hI.adr (by omega)
            obtain rfl := H'.out.adr (by omega)
            obtain ⟨x, hx, hxc⟩ := H'.out.cell k hlt
            have hWk := HGET'.out k row x hrw hx
            have hmade := made_ints wo L (by omega)
            have hML := HWL.out
            have hzl : (List.replicate L (0 : Int)).length = L := by simp
            have hst := (hown.congr (M' := W.set k (List.replicate L 0)) (fun r hr => List.getElem?_set_ne (by omega))).step hlt (by simp [hML]) ((Below.refl wo.heap.size wo).alloc (Nat.le_refl _) (.cells (madeCells #[.int .i64 0] L) 3))
              (row := List.replicate L 0) (A := some ⟨wo.heap.size, 0, none⟩) (c := L) (List.getElem?_set_self (by omega)) (by rw [hzl]; exact hmade)
            rw [hzl] at hst
            have heq := World.setCell_alloc_past (w := wo) (.cells (madeCells #[.int .i64 0] L) 3) w.heap.size k (.slice (some ⟨wo.heap.size, 0, none⟩) L L) hB0
            rw [heq] at hst
            have ho := World.ownsRow.alloc hown.out (.cells (madeCells #[.int .i64 0] L) 3)
            have hcell := World.ownsRow.cellAt ho k (by omega)
            have hfr := World.ownsRow.frozenAt ho k
            obtain ⟨v0, hv0⟩ : ∃ v0, (wo.alloc (.cells (madeCells #[.int .i64 0] L) 3)).cell? ⟨w.heap.size, k, none⟩ = some v0 := by
              rw [hcell]; exact ⟨_, List.getElem?_eq_getElem (by have := hown.vlen; simp; omega)⟩
            obtain ⟨v1, hv1⟩ : ∃ v1, wo.cell? ⟨w.heap.size, k, none⟩ = some v1 := by
              rw [World.ownsRow.cellAt hown.out k (by omega)]; exact ⟨_, List.getElem?_eq_getElem (by have := hown.vlen; simp; omega)⟩
            have hout := World.cell?_setCell_same _ _ (.slice (some ⟨wo.heap.size, 0, none⟩) L L) hv1
            have HB := Lib.hid (show Below w.heap.size w ((wo.setCell ⟨w.heap.size, k, none⟩ (.slice (some ⟨wo.heap.size, 0, none⟩) L L)).alloc (.cells (madeCells #[.int .i64 0] L) 3)) from heq ▸ (hbel.alloc hs0 _).setCell (Nat.le_refl _) _)
            have hvl := hown.vlen
            have hvk : (vs ++ [Value.slice (some ⟨wo.heap.size, 0, none⟩) L L])[k]? = some (.slice (some ⟨wo.heap.size, 0, none⟩) L L) := by
              rw [List.getElem?_append_right (by omega)]; simp [hvl]
            have hMk : (W.set k (List.replicate L (0 : Int)))[k]? = some (List.replicate L 0) := List.getElem?_set_self (by omega)
            obtain ⟨A3, c3, hv3, hI3⟩ := hst.1.row k _ (by omega) hMk
            rw [hvk, hzl] at hv3
            simp only [Option.some.injEq, Value.slice.injEq, true_and] at hv3
            obtain ⟨rfl, rfl⟩ := hv3
            rw [hzl] at hI3
            have HST := Lib.hid hst.1
            have HVK := Lib.hid hvk
            have HMK := Lib.hid hMk
            have HI3 := Lib.hid hI3
            have HI := Lib.hid hI
            have HRL := Lib.hid hrl
            have HWK := Lib.hid hWk
            have HX := Lib.hid hx
            clear hcell ho hst heq hmade hown hrw hcw hI hrl hzl hvk hMk hI3 hML hx hWk
            go_wp2_with (with_reducible refine wpList_cpy2 rfl (.tmp 58) (.tmp 59) rfl (w.heap.size + 1) wo.heap.size L L (List.replicate L 0) rfl HI3.out l0 c1 b1 o1 (by omega) row rfl (HI.out.below HB.out) ?_)
            intro w5 v5 hI5 hK5
            have hd0 : List.replicate (L - l0) (0 : Int) = [0] := by rw [show L - l0 = 1 by omega]; rfl
            rw [hd0] at hI5
            have hrl2 : (row ++ [(0 : Int)]).length = L := by simp [HRL.out]; omega
            have hset := HST.out.setRow (new := row ++ [0]) (by omega) HMK.out (by simpa using HVK.out) (by rw [hrl2]; simp) (by simpa using hI5) (hK5.mono (fun q _ hq => by rw [hq]; rfl))
            rw [List.set_set] at hset
            have hMk2 : (W.set k (row ++ [(0 : Int)]))[k]? = some (row ++ [0]) := List.getElem?_set_self (by rw [HWL.out]; exact hlt)
            have hB5 := HB.out.trans (hK5.below (B := w.heap.size) HB.out.size (fun q hq => by rw [hq]; exact hs0))
            have hc5 := World.ownsRow.cellAt hset.out k (by omega)
            rw [List.getElem?_append_left (by rw [hset.vlen]; omega), HVK.out] at hc5
            have hfr5 := World.ownsRow.frozenAt hI5 l0
            have hi5 := World.ownsRow.cellAt hI5 l0 (by omega)
            have hg0 : (ints (row ++ [(0 : Int)]))[l0]? = some (.int .i64 0) := by unfold ints; rw [List.getElem?_map, List.getElem?_append_right (by rw [HRL.out]; omega), HRL.out]; simp
            rw [hg0] at hi5
            have hx5 := (keep_of_below hB5).cell hxc (fun h => h)
            obtain ⟨hst, _⟩ := World.ownsRow.stored hI5 l0 (.int .i64 x)
            have hset2 : (row ++ [(0 : Int)]).set l0 x = row ++ [x] := by rw [List.set_append_right _ _ (by rw [HRL.out]; omega), HRL.out]; simp
            rw [ints_set, hset2] at hst
            have hK6 := setCell_keep w5 ⟨wo.heap.size, l0, none⟩ (.int .i64 x)
            have hrl3 : (row ++ [x]).length = L := by simp [HRL.out]; omega
            have hset3 := hset.setRow (new := row ++ [x]) (by omega) hMk2 (by rw [hrl2]; exact HVK.out) (by rw [hrl2, hrl3]) (by rw [hrl2]; exact hst) (by rw [hrl2]; exact hK6.mono (fun q _ hq => by rw [hq]; rfl))
            rw [List.set_set] at hset3
            have HS := Lib.hid (hset3.congr (M' := W) (fun r _ => by
              by_cases e : r = k
              · subst e; rw [List.getElem?_set_self (by rw [HWL.out]; exact hlt)]; exact HWK.out
              · exact (List.getElem?_set_ne (fun e' => e e'.symm)).symm))
            have HB6 := Lib.hid (hB5.trans (hK6.below (B := w.heap.size) hB5.size (fun q hq => by rw [hq]; exact hs0)))
            clear hset hI5 hK5 hst hset2 hset3 hrl2 hrl3 hMk2 hg0 hB5 hK6 hd0
            go_wp2_with (fail)
            refine wp_quiet_tail 10 (by kernel_rfl) (by kernel_rfl) ?_
            simp only [List.take_succ_cons, List.take_zero, List.drop_succ_cons, List.drop_zero]
            repeat (go_big_quiet_step (fail))
            refine wpQuiet_nil ?_
            intro _ hw'
            obtain ⟨nq, hw''⟩ := hw'
            subst hw''
            go_wp2_with (fail)
            go_roundw
            case rel => exact ⟨k + 1, _, by omega, by go_num, HS.out.drewN nq, below_drawn HB6.out ⟨nq, rfl⟩⟩
            case measure => simp [intOf]; omega
          · obtain rfl : n' = k := by omega
            have HO := Lib.hid (hown.done HWL.out)
            have HBW := Lib.hid hbel
            clear hown hbel
            go_wp2_with (fail)
            refine (reduceRows_any p w.heap.size w.heap.size n' n' L l0 W vs _ HO.out HP.out HVW.out (by omega) (by omega) hn1 hn8).mono ?_
            rintro e w2 ⟨A2, c2, vs2, rfl, hO2, hI2, hB2⟩
            have hinv := elim_inv HP.out HVW.out l0
            have hhd := elim_heads p W l0
            obtain ⟨F, hF⟩ : ∃ F, (elim p W l0).1 = F := ⟨_, rfl⟩
            obtain ⟨hs, hHS⟩ : ∃ hs, (elim p W l0).2 = hs := ⟨_, rfl⟩
            obtain ⟨m, hm⟩ : ∃ m, hs.length = m := ⟨_, rfl⟩
            rw [hF, hHS, hm, HWL.out] at hinv
            rw [hHS] at hhd
            rw [hF] at hO2
            rw [hHS, hm] at hI2
            simp only [hHS, hm]
            obtain ⟨hFl, hFv, hmn, hml⟩ := hinv
            have HF := Lib.hid hF
            have HHS := Lib.hid hHS
            have HM := Lib.hid hm
            have HFL := Lib.hid hFl
            have HVF := Lib.hid hFv
            have HD := Lib.hid hhd
            have HOF := Lib.hid (OMF.mk hO2 (Nat.lt_of_lt_of_le (hO2.out.lt w.heap.size rfl).2 (Nat.le_refl _)) hO2.foot)
            obtain ⟨b2, hIA2⟩ := hI2.ia
            have HIA2 := Lib.hid hIA2
            have HBT := Lib.hid (HBW.out.trans hB2)
            clear hF hHS hm hFl hFv hhd hO2 hIA2 hI2 hB2 HO
            go_wp2_with (fail)
            · subst h
              go_loop [81] (fun i => ∃ k : Nat, k ≤ 0 ∧ i = .int .i64 k ∧ Hid (∀ q, n' ≤ q → q < n' + k → at2 F q l0 = 0)) (fun i => 0 - (intOf i).toNat)
              case atStart => exact ⟨0, by omega, rfl, fun q h1 h2 => absurd h2 (by omega)⟩
              case round =>
                obtain ⟨k, hk, rfl, hz⟩ := hrel
                by_cases hlk : k < 0
                · omega
                · have hnone : firstW F l0 (F.length - hs.length) hs.length = none := firstW_not (fun q h1 h2 => hz.out q (by rw [HM.out] at h1; exact h1) (by rw [HFL.out, HM.out] at h2; omega))
                  have HR' := Lib.hid (show solveR p M want = some (solFill F hs l0 n') by rw [HR.out, solveW_yes (by rw [HF.out, HHS.out]; exact hnone), HF.out, HHS.out, HM.out])
                  clear hnone
                  have HI0 := Lib.hid (show OI (w2.alloc (.cells (madeCells #[.int .i64 0] l0) 3)) w2.heap.size (some ⟨w2.heap.size, 0, none⟩) l0 l0 (solFill F hs l0 0) from made_ints w2 l0 (by omega))
                  have HB0 := Lib.hid (show Below w2.heap.size w2 (w2.alloc (.cells (madeCells #[.int .i64 0] l0) 3)) from (Below.refl _ _).alloc (Nat.le_refl _) _)
                  have hsz := HBT.out.size
                  go_wp2_with (fail)
                  go_loopw [95] (fun i wi => ∃ s : Nat, s ≤ n' ∧ i = .int .i64 s ∧ OI wi w2.heap.size (some ⟨w2.heap.size, 0, none⟩) l0 l0 (solFill F hs l0 s) ∧ Below w2.heap.size w2 wi) (fun i _ => n' - (intOf i).toNat)
                  case atStart => exact ⟨0, by omega, rfl, HI0.out, HB0.out⟩
                  case round =>
                    obtain ⟨s, hsm, rfl, hrow, hbi⟩ := hrel
                    by_cases hls : s < n'
                    · obtain rfl := HIA2.out.adr (by omega)
                      obtain ⟨q, hq⟩ : ∃ q, hs.getD s 0 = q := ⟨_, rfl⟩
                      have hql : q < l0 := hq ▸ HD.out _ (getD_mem_nat (by rw [HM.out]; exact hls))
                      obtain ⟨y1, hy1, hyc⟩ := (HIA2.out.below hbi).cell s hls
                      rw [headI_get (by rw [HM.out]; exact hls), hq] at hy1
                      obtain rfl := Option.some.inj hy1
                      rw [Nat.zero_add] at hyc
                      obtain ⟨row, bk, ck, hmk', hrl, hrv, hkx, _⟩ := HOF.out.cellAt HVF.out (r := s) (by omega)
                      obtain ⟨hvk, hck, hIk, hIA⟩ := hkx (by omega)
                      have hck' := (keep_of_below hbi).cell hck (fun h => h)
                      obtain ⟨y, hy, hyc2⟩ := (hIA.below hbi).cell l0 (by omega)
                      rw [Nat.zero_add] at hyc2
                      have hat : at2 F s l0 = y := at2_of hmk' hy
                      have hrs := World.ownsRow.cellAt hrow q (by omega)
                      obtain ⟨z, hz⟩ : ∃ z, (solFill F hs l0 s)[q]? = some z := ⟨_, List.getElem?_eq_getElem (by rw [solFill_len]; exact hql)⟩
                      have hz2 : (ints (solFill F hs l0 s))[q]? = some (.int .i64 z) := by unfold ints; rw [List.getElem?_map, hz]; rfl
                      rw [hz2] at hrs
                      have hrf := World.ownsRow.frozenAt hrow q
                      obtain ⟨hst, _⟩ := World.ownsRow.stored hrow q (.int .i64 y)
                      rw [ints_set] at hst
                      have hset : (solFill F hs l0 s).set q y = solFill F hs l0 (s + 1) := by
                        show _ = (solFill F hs l0 s).set (hs.getD s 0) (at2 F s l0)
                        rw [hq, hat]
                      rw [hset] at hst
                      have HI4 := Lib.hid hst
                      have HB4 := Lib.hid (hbi.trans ((setCell_keep wr ⟨w2.heap.size, q, none⟩ (.int .i64 y)).below (B := w2.heap.size) hbi.size (fun x hx => by rw [hx]; exact Nat.le_refl _)))
                      clear hset hst hz2 hz hrow hbi hkx hvk hck hIk hIA hy hmk' hat hrl hrv hq
                      go_wp2_with (fail)
                      go_roundw
                      case rel => exact ⟨s + 1, by omega, by go_num, HI4.out, HB4.out⟩
                      case measure => simp [intOf]; omega
                    · obtain rfl : s = n' := by omega
                      have HI4 := Lib.hid hrow
                      have HB4 := Lib.hid (HBT.out.trans (hbi.mono hsz))
                      have HL := Lib.hid (show (solFill F hs l0 s).length = l0 from solFill_len _ _ _ _)
                      clear hrow hbi
                      go_wp2_with (fail)
                      go_ret2
                      rw [HR'.out]
                      exact ⟨_, _, by simp only [Option.getD_some, HL.out, Option.isSome_some]; rfl, by simp only [Option.getD_some, HL.out]; exact owns_mono HI4.out hsz, HB4.out⟩
            · go_loop [81] (fun i => ∃ k : Nat, k ≤ (n' - m) ∧ i = .int .i64 k ∧ Hid (∀ q, m ≤ q → q < m + k → at2 F q l0 = 0)) (fun i => (n' - m) - (intOf i).toNat)
              case atStart => exact ⟨0, by omega, rfl, fun q h1 h2 => absurd h2 (by omega)⟩
              case round =>
                obtain ⟨k, hk, rfl, hz⟩ := hrel
                by_cases hlk : k < (n' - m)
                · obtain ⟨row, bi, ci, hmi, hrl, hrv, hix, hfi⟩ := HOF.out.cellAt HVF.out (r := m + k) (by omega)
                  obtain ⟨hvi, hci, hIi, hIAi⟩ := hix (by omega)
                  obtain ⟨x, hx, hxc⟩ := hIAi.cell l0 (by omega)
                  rw [Nat.zero_add] at hxc
                  have HAT := Lib.hid (at2_of hmi hx)
                  clear hmi hrl hrv hix hvi hIi hIAi hx
                  by_cases hx0 : x = 0
                  · have hb : (x != 0) = false := by simp [hx0]
                    have HX0 := Lib.hid hx0
                    clear hx0
                    go_wp2_with (fail)
                    go_round
                    case rel => exact ⟨k + 1, by omega, by go_num, fun q h1 h2 => if e : q = m + k then by rw [e, HAT.out, HX0.out] else hz.out q h1 (by omega)⟩
                    case measure => simp [intOf]; omega
                  · have hb : (x != 0) = true := by simp [hx0]
                    have hsome : firstW F l0 (F.length - hs.length) hs.length = some (m + k) := firstW_is (by rw [HM.out]; omega) (by rw [HFL.out, HM.out]; omega) (by rw [HAT.out]; exact hx0) (fun q h1 h2 => hz.out q (by rw [HM.out] at h1; exact h1) h2)
                    have HR' := Lib.hid (show solveR p M want = none by rw [HR.out, solveW_no (by rw [HF.out, HHS.out]; exact hsome)])
                    clear hsome hx0
                    go_wp2_with (fail)
                    go_ret2
                    rw [HR'.out]; exact MadeS.nil HBT.out
                · have hnone : firstW F l0 (F.length - hs.length) hs.length = none := firstW_not (fun q h1 h2 => hz.out q (by rw [HM.out] at h1; exact h1) (by rw [HFL.out, HM.out] at h2; omega))
                  have HR' := Lib.hid (show solveR p M want = some (solFill F hs l0 m) by rw [HR.out, solveW_yes (by rw [HF.out, HHS.out]; exact hnone), HF.out, HHS.out, HM.out])
                  clear hnone
                  have HI0 := Lib.hid (show OI (w2.alloc (.cells (madeCells #[.int .i64 0] l0) 3)) w2.heap.size (some ⟨w2.heap.size, 0, none⟩) l0 l0 (solFill F hs l0 0) from made_ints w2 l0 (by omega))
                  have HB0 := Lib.hid (show Below w2.heap.size w2 (w2.alloc (.cells (madeCells #[.int .i64 0] l0) 3)) from (Below.refl _ _).alloc (Nat.le_refl _) _)
                  have hsz := HBT.out.size
                  go_wp2_with (fail)
                  go_loopw [95] (fun i wi => ∃ s : Nat, s ≤ m ∧ i = .int .i64 s ∧ OI wi w2.heap.size (some ⟨w2.heap.size, 0, none⟩) l0 l0 (solFill F hs l0 s) ∧ Below w2.heap.size w2 wi) (fun i _ => m - (intOf i).toNat)
                  case atStart => exact ⟨0, by omega, rfl, HI0.out, HB0.out⟩
                  case round =>
                    obtain ⟨s, hsm, rfl, hrow, hbi⟩ := hrel
                    by_cases hls : s < m
                    · obtain rfl := HIA2.out.adr (by omega)
                      obtain ⟨q, hq⟩ : ∃ q, hs.getD s 0 = q := ⟨_, rfl⟩
                      have hql : q < l0 := hq ▸ HD.out _ (getD_mem_nat (by rw [HM.out]; exact hls))
                      obtain ⟨y1, hy1, hyc⟩ := (HIA2.out.below hbi).cell s hls
                      rw [headI_get (by rw [HM.out]; exact hls), hq] at hy1
                      obtain rfl := Option.some.inj hy1
                      rw [Nat.zero_add] at hyc
                      obtain ⟨row, bk, ck, hmk', hrl, hrv, hkx, _⟩ := HOF.out.cellAt HVF.out (r := s) (by omega)
                      obtain ⟨hvk, hck, hIk, hIA⟩ := hkx (by omega)
                      have hck' := (keep_of_below hbi).cell hck (fun h => h)
                      obtain ⟨y, hy, hyc2⟩ := (hIA.below hbi).cell l0 (by omega)
                      rw [Nat.zero_add] at hyc2
                      have hat : at2 F s l0 = y := at2_of hmk' hy
                      have hrs := World.ownsRow.cellAt hrow q (by omega)
                      obtain ⟨z, hz⟩ : ∃ z, (solFill F hs l0 s)[q]? = some z := ⟨_, List.getElem?_eq_getElem (by rw [solFill_len]; exact hql)⟩
                      have hz2 : (ints (solFill F hs l0 s))[q]? = some (.int .i64 z) := by unfold ints; rw [List.getElem?_map, hz]; rfl
                      rw [hz2] at hrs
                      have hrf := World.ownsRow.frozenAt hrow q
                      obtain ⟨hst, _⟩ := World.ownsRow.stored hrow q (.int .i64 y)
                      rw [ints_set] at hst
                      have hset : (solFill F hs l0 s).set q y = solFill F hs l0 (s + 1) := by
                        show _ = (solFill F hs l0 s).set (hs.getD s 0) (at2 F s l0)
                        rw [hq, hat]
                      rw [hset] at hst
                      have HI4 := Lib.hid hst
                      have HB4 := Lib.hid (hbi.trans ((setCell_keep wr ⟨w2.heap.size, q, none⟩ (.int .i64 y)).below (B := w2.heap.size) hbi.size (fun x hx => by rw [hx]; exact Nat.le_refl _)))
                      clear hset hst hz2 hz hrow hbi hkx hvk hck hIk hIA hy hmk' hat hrl hrv hq
                      go_wp2_with (fail)
                      go_roundw
                      case rel => exact ⟨s + 1, by omega, by go_num, HI4.out, HB4.out⟩
                      case measure => simp [intOf]; omega
                    · obtain rfl : s = m := by omega
                      have HI4 := Lib.hid hrow
                      have HB4 := Lib.hid (HBT.out.trans (hbi.mono hsz))
                      have HL := Lib.hid (show (solFill F hs l0 s).length = l0 from solFill_len _ _ _ _)
                      clear hrow hbi
                      go_wp2_with (fail)
                      go_ret2
                      rw [HR'.out]
                      exact ⟨_, _, by simp only [Option.getD_some, HL.out, Option.isSome_some]; rfl, by simp only [Option.getD_some, HL.out]; exact owns_mono HI4.out hsz, HB4.out⟩
    · have hq : ((n' : Int) != (n : Int)) = true := neInt hnn
      have HV := Lib.hid hv
      have HR := Lib.hid (show solveR p M want = none from solveR_no (by unfold okS; rw [hv, decide_eq_false (by omega)]; rfl))
      clear hv
      go_enter Try.func40, Try.ntmps40
      go_wp2_with (fail)
      refine (implMatValid p A n c b o M _ H.out).mono ?_
      rintro e w1 ⟨rfl, rfl⟩
      rw [HV.out]
      go_wp2_with (fail)
      go_ret2
      rw [HR.out]; exact MadeS.nil (Below.refl _ _)
end Go.Proofs.Ytpelokdgjdljfab

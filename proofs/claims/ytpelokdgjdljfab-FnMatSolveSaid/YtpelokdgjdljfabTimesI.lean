/-
  The contract of the program's MatTimes.
-/
import Derived.Test.YtpelokdgjdljfabTimes
import Derived.Test.YtpelokdgjdljfabTail
namespace Go.Proofs.Ytpelokdgjdljfab
open Go.RowKit
def timesRow (p : Int) (B : List (List Int)) (row : List Int) : List Int := (List.range (B.headD []).length).map fun j => dot row (colM B j) % p
def timesM (p : Int) (A B : List (List Int)) : List (List Int) := A.map (timesRow p B)
def timesR (p : Int) (A B : List (List Int)) : List (List Int) := if matB p A = true ∧ matB p B = true ∧ (A.headD []).length = B.length then timesM p A B else []
theorem timesRow_len (p : Int) (B : List (List Int)) (row : List Int) : (timesRow p B row).length = (B.headD []).length := by simp [timesRow]
theorem timesRow_get (p : Int) (B : List (List Int)) (row : List Int) (j : Nat) (h : j < (B.headD []).length) : (timesRow p B row)[j]? = some (dot row (colM B j) % p) := by
  unfold timesRow; rw [List.getElem?_map, List.getElem?_range h]; rfl
theorem timesM_get {p : Int} {A B : List (List Int)} {i : Nat} {row : List Int} (h : A[i]? = some row) : (timesM p A B)[i]? = some (timesRow p B row) := by
  unfold timesM; rw [List.getElem?_map, h]; rfl
theorem timesM_len (p : Int) (A B : List (List Int)) : (timesM p A B).length = A.length := by simp [timesM]
theorem colM_valid {p : Int} {M : List (List Int)} (h : matB p M = true) (j : Nat) (hj : j < (M.headD []).length) : ∀ x ∈ colM M j, numB p x = true := by
  intro x hx
  unfold colM at hx
  obtain ⟨row, hr, rfl⟩ := List.mem_map.1 hx
  obtain ⟨_, _, _, _, h5⟩ := matB_true h
  obtain ⟨h6, h7⟩ := h5 row hr
  rw [List.getD_eq_getElem?_getD, List.getElem?_eq_getElem (show j < row.length by omega)]
  exact h7 _ (List.getElem_mem _)
theorem prime_of_mat {p : Int} {M : List (List Int)} (h : matB p M = true) : primeB p = true := by
  obtain ⟨h1, h2, h3, h4, h5⟩ := matB_true h
  cases M with
  | nil => simp at h1
  | cons r M =>
    obtain ⟨h6, h7⟩ := h5 r (by simp)
    simp only [List.headD_cons] at h3
    cases r with
    | nil => simp at h3
    | cons x r => exact (numB_true (h7 x (by simp))).1
theorem timesR_no {p : Int} {A B : List (List Int)} (h : ¬ (matB p A = true ∧ matB p B = true ∧ (A.headD []).length = B.length)) : timesR p A B = [] := by unfold timesR; rw [if_neg h]
theorem timesR_yes {p : Int} {A B : List (List Int)} (h : matB p A = true ∧ matB p B = true ∧ (A.headD []).length = B.length) : timesR p A B = timesM p A B := by unfold timesR; rw [if_pos h]
theorem OM.none (w : World) (B : Nat) : OM w B none 0 0 [] [] := ⟨World.ownsRow_nil _ _ _ _, rfl, fun r row h => by simp at h, fun r s u u' _ h => by simp at h⟩
theorem quiet_int {P : Program} {f : FuncId} {args : Array Value} {w : World} {n : Nat} {t : Int} (h : Calls P f args (w.drewN n) fun e w' => e = .returned (.int .i64 t) ∧ ∃ m, w' = (w.drewN n).drewN m) :
    Calls P f args (w.drewN n) fun e w'' => e = .returned (.int .i64 t) ∧ ∃ m, w'' = w.drewN m := h.mono fun _ _ ⟨he, m, hw⟩ => ⟨he, n + m, by rw [hw, World.drewN_drewN]⟩
theorem Half.drewN {w : World} {B n k : Nat} {M : List (List Int)} {vs : List Value} (h : Half w B n k M vs) (m : Nat) : Half (w.drewN m) B n k M vs := ⟨h.out, h.vlen, h.row, h.apart⟩
theorem below_drewN' {B : Nat} {w w1 : World} (h : Below B w w1) (m : Nat) : Below B w (w1.drewN m) := ⟨h.os, h.tape, h.output, h.size, h.block⟩
set_option maxHeartbeats 400000 in
theorem implMatTimes (p : Int) (A : Option Addr) (n c b o : Nat) (X : List (List Int)) (A' : Option Addr) (n' c' b' o' : Nat) (Y : List (List Int)) (w : World) (h : RA w A n b o X) (h' : RA w A' n' b' o' Y) :
    Calls Try.prog 16 #[.int .i64 p, .slice A n c, .slice A' n' c'] w (MadeM (timesR p X Y).length (timesR p X Y) w) := by
  have hbig := h.big
  have hbig' := h'.big
  have H := Lib.hid h
  have H' := Lib.hid h'
  clear h h'
  rcases hv : matB p X
  · have HV := Lib.hid hv
    have HR := Lib.hid (show timesR p X Y = [] from timesR_no (by rw [hv]; simp))
    clear hv
    go_enter Try.func16, Try.ntmps16
    go_wp2_with (go_at_call 21; refine (implMatValid p A n c b o X _ H.out).mono ?_; rintro e w' ⟨rfl, rfl⟩; rw [HV.out])
    go_ret
    exact ⟨none, 0, [], by rw [HR.out]; rfl, by rw [HR.out]; exact OM.none _ _, Below.refl _ _⟩
  rcases hv' : matB p Y
  · have HV := Lib.hid hv
    have HV' := Lib.hid hv'
    have HR := Lib.hid (show timesR p X Y = [] from timesR_no (by rw [hv']; simp))
    clear hv hv'
    go_enter Try.func16, Try.ntmps16
    go_wp2_with (fail)
    refine (implMatValid p A n c b o X _ H.out).mono ?_
    rintro e w' ⟨rfl, rfl⟩
    rw [HV.out]
    go_wp2_with (fail)
    refine (implMatValid p A' n' c' b' o' Y _ H'.out).mono ?_
    rintro e w' ⟨rfl, rfl⟩
    rw [HV'.out]
    go_wp2_with (fail)
    go_ret
    exact ⟨none, 0, [], by rw [HR.out]; rfl, by rw [HR.out]; exact OM.none _ _, Below.refl _ _⟩
  obtain ⟨hn1, hn8, hl1, hl8, hrows⟩ := matB_true hv
  obtain ⟨hn1', hn8', hl1', hl8', hrows'⟩ := matB_true hv'
  have hL := H.out.len
  have hL' := H'.out.len
  rw [hL] at hn1 hn8
  rw [hL'] at hn1' hn8'
  obtain ⟨row0, A0, c0, b0, o0, hr0, hc0, hI0⟩ := H.out.row 0 (by omega)
  obtain rfl := H.out.adr (by omega)
  simp only [Nat.add_zero] at hc0
  have hrl0 := headD_of hr0
  have hbig0 := hI0.big
  by_cases hq : row0.length = n'
  · obtain ⟨l0, hl0⟩ : ∃ l0, (Y.headD []).length = l0 := ⟨_, rfl⟩
    rw [hl0] at hl1' hl8' hrows'
    have hqb : ((row0.length : Int) != (n' : Int)) = false := eqInt hq
    have hres : timesR p X Y = timesM p X Y := timesR_yes ⟨hv, hv', by rw [hrl0, hL']; exact hq⟩
    have hmk := run_make_row' (P := Try.prog) 23 30 (.slice none 0 0) 24 Try.underlying23 infoInts rfl .i64 .i64 n (by omega) (by omega)
    have hmk2 := run_make_row' (P := Try.prog) 30 3 (.int .i64 0) 8 Try.underlying30 infoInt rfl .i64 .i64 l0 (by omega) (by omega)
    have HL0 := Lib.hid hl0
    have HLL := Lib.hid hL
    have HLL' := Lib.hid hL'
    have HP := Lib.hid (prime_of_mat hv)
    have HRW := Lib.hid (show ∀ row ∈ X, row.length = n' ∧ ∀ x ∈ row, numB p x = true from fun row hr => by have := hrows row hr; rw [hrl0, hq] at this; exact this)
    have HT := Lib.hid hres
    have HV := Lib.hid hv
    have HV' := Lib.hid hv'
    have HTU := Lib.hid (show turnR p Y = turnM Y from by unfold turnR; rw [hv']; rfl)
    clear hl0 hL hL' hrows hrows' hv hv' hr0 hI0 hrl0 hq hres
    go_enter Try.func16, Try.ntmps16
    go_wp2_with (fail)
    refine (implMatValid p _ n c b o X _ H.out).mono ?_
    rintro e w1 ⟨rfl, rfl⟩
    rw [HV.out]
    go_wp2_with (fail)
    refine (implMatValid p A' n' c' b' o' Y _ H'.out).mono ?_
    rintro e w1 ⟨rfl, rfl⟩
    rw [HV'.out]
    go_wp2_with (fail)
    refine (implMatTurn p A' n' c' b' o' Y _ H'.out).mono ?_
    rw [HTU.out, show (turnM Y).length = l0 by rw [turnM_len, HL0.out]]
    rintro e w1 ⟨At, ct, vt, rfl, hOt, hBt⟩
    obtain ⟨bt, hRt⟩ := hOt.ra
    have HRt := Lib.hid hRt
    have hst := hBt.size
    clear hOt hRt
    go_wp2_with (fail)
    go_loopw [40] (fun i wr => ∃ (j : Nat) (vs : List Value), j ≤ n ∧ i = .int .i64 j ∧ Half wr w1.heap.size n j (timesM p X Y) vs ∧ Below w1.heap.size w1 wr) (fun i _ => n - (intOf i).toNat)
    case atStart => exact ⟨0, [], by omega, rfl, Half.start w1 n _ (by omega), (Below.refl _ _).alloc (Nat.le_refl _) _⟩
    case round =>
      obtain ⟨j, vs, hj, rfl, hown, hbel⟩ := hrel
      obtain ⟨wo, rfl⟩ : ∃ wo : World, wo = wr := ⟨_, rfl⟩
      by_cases hlt : j < n
      · have hs0 := hbel.size
        have hB0 := (hown.out.lt w1.heap.size rfl).2
        have htl : (timesM p X Y).length = n := by rw [timesM_len, HLL.out]
        obtain ⟨row, A2, c2, b2, o2, hr, hcw, hI⟩ := H.out.row j hlt
        have hc := (keep_of_below (below_more hBt hbel)).cell hcw (fun h => h)
        obtain ⟨hrl, hrv⟩ := HRW.out row (List.mem_of_getElem? hr)
        rw [hrl] at hc hI
        clear hcw
        have hmade := made_ints wo l0 (by omega)
        have hpl := partR_len (timesRow p Y row) l0 0 (by rw [timesRow_len, HL0.out]) (by omega)
        have hst := (hown.congr (M' := (timesM p X Y).set j (partR (timesRow p Y row) l0 0)) (fun r hr => List.getElem?_set_ne (by omega))).step hlt (by simp [htl]) ((Below.refl wo.heap.size wo).alloc (Nat.le_refl _) (.cells (madeCells #[.int .i64 0] l0) 3))
          (row := partR (timesRow p Y row) l0 0) (A := some ⟨wo.heap.size, 0, none⟩) (c := l0) (List.getElem?_set_self (by omega)) (by rw [hpl]; simpa [partR] using hmade)
        rw [hpl] at hst
        have heq := World.setCell_alloc_past (w := wo) (.cells (madeCells #[.int .i64 0] l0) 3) w1.heap.size j (.slice (some ⟨wo.heap.size, 0, none⟩) l0 l0) hB0
        rw [heq] at hst
        have ho := World.ownsRow.alloc hown.out (.cells (madeCells #[.int .i64 0] l0) 3)
        have hcell := World.ownsRow.cellAt ho j (by omega)
        have hfr := World.ownsRow.frozenAt ho j
        obtain ⟨v0, hv0⟩ : ∃ v0, (wo.alloc (.cells (madeCells #[.int .i64 0] l0) 3)).cell? ⟨w1.heap.size, j, none⟩ = some v0 := by
          rw [hcell]; exact ⟨_, List.getElem?_eq_getElem (by have := hown.vlen; simp; omega)⟩
        have HV2 := Lib.hid hown.vlen
        have HST := Lib.hid hst.1
        have HB := Lib.hid (show Below w1.heap.size w1 ((wo.setCell ⟨w1.heap.size, j, none⟩ (.slice (some ⟨wo.heap.size, 0, none⟩) l0 l0)).alloc (.cells (madeCells #[.int .i64 0] l0) 3)) from heq ▸ (hbel.alloc hs0 _).setCell (Nat.le_refl _) _)
        have HI := Lib.hid hI
        have HRR := Lib.hid hr
        have HRV := Lib.hid hrv
        have HBW := Lib.hid hbel
        clear hcell ho hst heq hmade hpl hown htl hbel hI hr hrv hrl
        go_wp2_with (fail)
        go_loopw [53] (fun i wi => ∃ k : Nat, k ≤ l0 ∧ i = .int .i64 k ∧ Half wi w1.heap.size n (j + 1) ((timesM p X Y).set j (partR (timesRow p Y row) l0 k)) (vs ++ [.slice (some ⟨wo.heap.size, 0, none⟩) l0 l0]) ∧ Below w1.heap.size w1 wi) (fun i _ => l0 - (intOf i).toNat)
        case atStart => exact ⟨0, by omega, rfl, HST.out, HB.out⟩
        case round =>
          obtain ⟨k, hk, rfl, hrow, hbi⟩ := hrel
          by_cases hlk : k < l0
          · have hcl : (timesRow p Y row).length = l0 := by rw [timesRow_len, HL0.out]
            have htl : (timesM p X Y).length = n := by rw [timesM_len, HLL.out]
            obtain ⟨col, A3, c3, b3, o3, hr3, hc3, hI3⟩ := (HRt.out.below hbi).row k hlk
            rw [turnM_get Y k (by rw [HL0.out]; omega)] at hr3
            obtain rfl := Option.some.inj hr3
            rw [colM_len, HLL'.out] at hc3 hI3
            rw [Nat.zero_add] at hc3
            obtain rfl := HRt.out.adr (by omega)
            have hvj : (vs ++ [Value.slice (some ⟨wo.heap.size, 0, none⟩) l0 l0])[j]? = some (.slice (some ⟨wo.heap.size, 0, none⟩) l0 l0) := by
              rw [List.getElem?_append_right (by have := HV2.out; omega)]; simp [HV2.out]
            have hMj : ((timesM p X Y).set j (partR (timesRow p Y row) l0 k))[j]? = some (partR (timesRow p Y row) l0 k) := List.getElem?_set_self (by omega)
            have hpl := partR_len (timesRow p Y row) l0 k hcl hk
            obtain ⟨A4, c4, hv4, hI4⟩ := hrow.row j _ (by omega) hMj
            rw [hvj, hpl] at hv4
            simp only [Option.some.injEq, Value.slice.injEq, true_and] at hv4
            obtain ⟨rfl, rfl⟩ := hv4
            rw [hpl] at hI4
            have hout := World.ownsRow.cellAt hrow.out j (by omega)
            rw [List.getElem?_append_left (by simp [HV2.out]), hvj] at hout
            have hcell := World.ownsRow.cellAt hI4 k (by omega)
            have hfr := World.ownsRow.frozenAt hI4 k
            have hst := World.ownsRow.stored hI4 k (.int .i64 (dot row (colM Y k) % p))
            rw [ints_set, partR_set hlk hcl (timesRow_get p Y row k (by rw [HL0.out]; omega))] at hst
            obtain ⟨v1, hv1⟩ : ∃ v1, wr.cell? ⟨wo.heap.size, k, none⟩ = some v1 := by
              rw [hcell]; exact ⟨_, List.getElem?_eq_getElem (by simp only [ints, List.length_map]; omega)⟩
            have hset := hrow.setRow (new := partR (timesRow p Y row) l0 (k + 1)) (by omega) hMj (by rw [hpl]; exact hvj) (by rw [hpl, partR_len _ _ _ hcl (by omega)]) (by rw [hpl]; exact hst.1) ((setCell_keep wr ⟨wo.heap.size, k, none⟩ (.int .i64 (dot row (colM Y k) % p))).mono (fun q _ hq => by rw [hq]; rfl))
            rw [List.set_set] at hset
            have HS := Lib.hid hset
            have HBI := Lib.hid (hbi.setCell (p := ⟨wo.heap.size, k, none⟩) hs0 (.int .i64 (dot row (colM Y k) % p)))
            have hcall := fun m => quiet_int (n := m) (sumOfProducts_any p A2 n' c2 b2 o2 row A3 c3 b3 o3 (colM Y k) (wr.drewN m) ((HI.out.below (below_more hBt hbi)).drewN ⟨m, rfl⟩) (hI3.drewN ⟨m, rfl⟩) hn8' HP.out HRV.out (colM_valid HV'.out k (by rw [HL0.out]; omega)))
            have HC := Lib.hid hcall
            clear hcl htl hr3 hI3 hvj hMj hpl hI4 hst hset hrow hbi hcell hcall
            go_wp2_with (fail)
            refine wp_quiet_tail 10 (by kernel_rfl) (by kernel_rfl) ?_
            simp only [List.take_succ_cons, List.take_zero, List.drop_succ_cons, List.drop_zero]
            repeat (go_big_quiet_step ((go_at_call 51; exact HC.out _)))
            refine wpQuiet_nil ?_
            intro _ hw'
            obtain ⟨nq, hw''⟩ := hw'
            subst hw''
            go_wp2_with (fail)
            go_roundw
            case rel => exact ⟨k + 1, by omega, by go_num, HS.out.drewN _, below_drewN' HBI.out _⟩
            case measure => simp [intOf]; omega
          · obtain rfl : k = l0 := by omega
            rw [partR_done (by rw [timesRow_len, HL0.out])] at hrow
            have HR := Lib.hid (hrow.congr (M' := timesM p X Y) (fun r _ => by
              by_cases e : r = j
              · subst e; rw [List.getElem?_set_self (by rw [timesM_len, HLL.out]; omega)]; exact timesM_get HRR.out
              · exact (List.getElem?_set_ne (fun e' => e e'.symm)).symm))
            clear hrow
            go_wp2_with (fail)
            go_roundw
            case rel => exact ⟨j + 1, _, by omega, by go_num, HR.out, hbi⟩
            case measure => simp [intOf]; omega
      · obtain rfl : j = n := by omega
        have HO := Lib.hid (hown.done (by rw [timesM_len, HLL.out]))
        have HE := Lib.hid (show (timesM p X Y).length = j by rw [timesM_len, HLL.out])
        clear hown
        go_wp2_with (fail)
        go_ret
        refine ⟨_, _, vs, by rw [HT.out, HE.out]; rfl, ?_, below_more hBt hbel⟩
        rw [HT.out, HE.out]
        exact ⟨owns_mono HO.out.out hst, HO.out.len, fun r row hr => let ⟨a, b, g1, g2⟩ := HO.out.row r row hr; ⟨a, b, g1, owns_mono g2 hst⟩, HO.out.apart⟩
  · have hqb : ((row0.length : Int) != (n' : Int)) = true := neInt hq
    have HR := Lib.hid (show timesR p X Y = [] from timesR_no (by rw [hrl0, hL']; simp [hq]))
    have HV := Lib.hid hv
    have HV' := Lib.hid hv'
    clear hrows hrows' hv hv' hr0 hI0 hrl0 hL hL' hq
    go_enter Try.func16, Try.ntmps16
    go_wp2_with (fail)
    refine (implMatValid p _ n c b o X _ H.out).mono ?_
    rintro e w' ⟨rfl, rfl⟩
    rw [HV.out]
    go_wp2_with (fail)
    refine (implMatValid p A' n' c' b' o' Y _ H'.out).mono ?_
    rintro e w' ⟨rfl, rfl⟩
    rw [HV'.out]
    go_wp2_with (fail)
    go_ret
    exact ⟨none, 0, [], by rw [HR.out]; rfl, by rw [HR.out]; exact OM.none _ _, Below.refl _ _⟩
end Go.Proofs.Ytpelokdgjdljfab

/-
  The contract of the program's MatTurn.
-/
import Derived.Test.YtegkmolffemkpaaTurnS
import Derived.StillTailTactics
namespace Go.Proofs.Ytegkmolffemkpaa
open Go.RowKit
theorem Half.congr {w : World} {B n k : Nat} {M M' : List (List Int)} {vs : List Value} (h : Half w B n k M vs) (he : ∀ r, r < k → M'[r]? = M[r]?) : Half w B n k M' vs :=
  ⟨h.out, h.vlen, fun r row hr hrow => h.row r row hr (by rw [← he r hr]; exact hrow), h.apart⟩
theorem Half.setRow {w w' : World} {B n k : Nat} {M : List (List Int)} {vs : List Value} (h : Half w B n k M vs) {r : Nat} {row new : List Int} {A' : Option Addr} {c' : Nat} (hrk : r < k) (hr : M[r]? = some row) (hv : vs[r]? = some (Value.slice A' row.length c'))
    (hl : new.length = row.length) (hI : OI w' (B + 1) A' row.length c' new) (k' : Keep (fun g => (Value.slice A' row.length c').ownBlock = some g) w w') : Half w' B n k (M.set r new) vs := by
  have hlt : r < M.length := (List.getElem?_eq_some_iff.1 hr).1
  obtain ⟨A1, c1, hv1, hI1⟩ := h.row r row hrk hr
  rw [hv] at hv1
  simp only [Option.some.injEq, Value.slice.injEq, true_and] at hv1
  obtain ⟨rfl, rfl⟩ := hv1
  refine ⟨owns_keep h.out k' (fun g hg hs => ?_), h.vlen, fun s row' hsk hs => ?_, h.apart⟩
  · have := (hI1.lt g hs).1
    simp [Value.ownBlock] at hg; omega
  · by_cases e : s = r
    · subst e
      rw [List.getElem?_set_self hlt] at hs
      obtain rfl := Option.some.inj hs
      exact ⟨A', c', by rw [hl]; exact hv, by rw [hl]; exact hI⟩
    · rw [List.getElem?_set_ne (fun e' => e e'.symm)] at hs
      obtain ⟨A2, c2, h1, h2⟩ := h.row s row' hsk hs
      refine ⟨A2, c2, h1, owns_keep h2 k' (fun g hg hs' => ?_)⟩
      rcases Nat.lt_or_gt_of_ne e with hlt' | hlt'
      · rcases h.apart s r _ _ hlt' h1 hv with h3 | h3
        · rw [h3] at hg; simp at hg
        · exact h3 (hg.trans hs'.symm)
      · rcases h.apart r s _ _ hlt' hv h1 with h3 | h3
        · rw [h3] at hs'; simp at hs'
        · exact h3 (hs'.trans hg.symm)
theorem Half.drew {w : World} {B n k : Nat} {M : List (List Int)} {vs : List Value} (h : Half w B n k M vs) : Half w.drew B n k M vs := ⟨h.out, h.vlen, h.row, h.apart⟩
/-- a column as far as it is written -/
def partR (xs : List Int) (n i : Nat) : List Int := xs.take i ++ List.replicate (n - i) 0
theorem partR_len (xs : List Int) (n i : Nat) (h : xs.length = n) (hi : i ≤ n) : (partR xs n i).length = n := by simp [partR]; omega
theorem partR_set {xs : List Int} {k n : Nat} {x : Int} (hk : k < n) (hl : xs.length = n) (hx : xs[k]? = some x) : (partR xs n k).set k x = partR xs n (k + 1) := by
  unfold partR
  have e : n - k = (n - (k + 1)) + 1 := by omega
  rw [List.take_add_one, hx, e, List.replicate_succ, List.set_append_right _ _ (by simp; omega)]
  simp
  rw [show k - min k xs.length = 0 by omega]
  rfl
theorem partR_done {xs : List Int} {n : Nat} (hl : xs.length = n) : partR xs n n = xs := by unfold partR; rw [List.take_of_length_le (by omega)]; simp
set_option maxRecDepth 100000 in
theorem implMatTurn (p : Int) (A : Option Addr) (n c b o : Nat) (M : List (List Int)) (w : World) (h : RA w A n b o M) :
    Calls Try.prog 65 #[.int .i64 p, .slice A n c] w (MadeM (turnR p M).length (turnR p M) w) := by
  have hbig := h.big
  have H := Lib.hid h
  clear h
  rcases hv : matB p M
  · have HV := Lib.hid hv
    clear hv
    go_enter Try.func65, Try.ntmps65
    go_wp2_with (fail)
    refine (implMatValid p A n c b o M _ H.out).mono ?_
    rintro e w1 ⟨rfl, rfl⟩
    rw [HV.out]
    go_wp2_with (fail)
    go_ret
    have e : turnR p M = [] := by unfold turnR; rw [HV.out]; rfl
    refine ⟨none, 0, [], by rw [e]; rfl, ?_, Below.refl _ _⟩
    rw [e]
    exact ⟨World.ownsRow_nil _ _ _ _, rfl, fun r row h => by simp at h, fun r s u u' _ h => by simp at h⟩
  · obtain ⟨hn1, hn8, hl1, hl8, hrows⟩ := matB_true hv
    have hL := H.out.len
    obtain ⟨l0, hl0⟩ : ∃ l0, (M.headD []).length = l0 := ⟨_, rfl⟩
    rw [hl0] at hl1 hl8 hrows
    rw [hL] at hn1 hn8
    obtain ⟨row0, A0, c0, b0, o0, hr0, hc0, hI0⟩ := H.out.row 0 (by omega)
    have hrl0 := hl0
    rw [headD_of hr0] at hrl0
    obtain rfl := H.out.adr (by omega)
    simp only [Nat.add_zero, hrl0] at hc0
    have hmk := run_make_row' (P := Try.prog) 24 23 (.slice none 0 0) 24 Try.underlying24 infoInts rfl .i64 .i64 l0 (by omega) (by omega)
    have hmk2 := run_make_row' (P := Try.prog) 23 3 (.int .i64 0) 8 Try.underlying23 infoInt rfl .i64 .i64 n (by omega) (by omega)
    have HL0 := Lib.hid hl0
    have HLL := Lib.hid hL
    have HRW := Lib.hid hrows
    have HT := Lib.hid (show turnR p M = turnM M from by unfold turnR; rw [hv]; rfl)
    have HV := Lib.hid hv
    clear hl0 hL hrows hv hr0 hI0 hrl0
    go_enter Try.func65, Try.ntmps65
    go_wp2_with (fail)
    refine (implMatValid p _ n c b o M _ H.out).mono ?_
    rintro e w1 ⟨rfl, rfl⟩
    rw [HV.out]
    go_wp2_with (fail)
    go_loopw [20] (fun i wr => ∃ (j : Nat) (vs : List Value), j ≤ l0 ∧ i = .int .i64 j ∧ Half wr w.heap.size l0 j (turnM M) vs ∧ Below w.heap.size w wr) (fun i _ => l0 - (intOf i).toNat)
    case atStart => exact ⟨0, [], by omega, rfl, Half.start w l0 _ (by omega), (Below.refl _ _).alloc (Nat.le_refl _) _⟩
    case round =>
      obtain ⟨j, vs, hj, rfl, hown, hbel⟩ := hrel
      obtain ⟨wo, rfl⟩ : ∃ wo : World, wo = wr := ⟨_, rfl⟩
      by_cases hlt : j < l0
      · have hs0 := hbel.size
        have hB0 := (hown.out.lt w.heap.size rfl).2
        have htl : (turnM M).length = l0 := by rw [turnM_len, HL0.out]
        have hmade := made_ints wo n (by omega)
        have hpl := partR_len (colM M j) n 0 (by rw [colM_len, HLL.out]) (by omega)
        have hst := (hown.congr (M' := (turnM M).set j (partR (colM M j) n 0)) (fun r hr => List.getElem?_set_ne (by omega))).step hlt (by simp [htl]) ((Below.refl wo.heap.size wo).alloc (Nat.le_refl _) (.cells (madeCells #[.int .i64 0] n) 3))
          (row := partR (colM M j) n 0) (A := some ⟨wo.heap.size, 0, none⟩) (c := n) (List.getElem?_set_self (by omega)) (by rw [hpl]; simpa [partR] using hmade)
        rw [hpl] at hst
        have heq := World.setCell_alloc_past (w := wo) (.cells (madeCells #[.int .i64 0] n) 3) w.heap.size j (.slice (some ⟨wo.heap.size, 0, none⟩) n n) hB0
        rw [heq] at hst
        have ho := World.ownsRow.alloc hown.out (.cells (madeCells #[.int .i64 0] n) 3)
        have hcell := World.ownsRow.cellAt ho j (by omega)
        have hfr := World.ownsRow.frozenAt ho j
        obtain ⟨v0, hv0⟩ : ∃ v0, (wo.alloc (.cells (madeCells #[.int .i64 0] n) 3)).cell? ⟨w.heap.size, j, none⟩ = some v0 := by
          rw [hcell]; exact ⟨_, List.getElem?_eq_getElem (by have := hown.vlen; simp; omega)⟩
        have HV2 := Lib.hid hown.vlen
        have HST := Lib.hid hst.1
        have HB := Lib.hid (show Below w.heap.size w ((wo.setCell ⟨w.heap.size, j, none⟩ (.slice (some ⟨wo.heap.size, 0, none⟩) n n)).alloc (.cells (madeCells #[.int .i64 0] n) 3)) from heq ▸ (hbel.alloc hs0 _).setCell (Nat.le_refl _) _)
        clear hcell ho hst heq hmade hpl hown htl hbel
        go_wp2_with (fail)
        go_loopw [31] (fun i wi => ∃ k : Nat, k ≤ n ∧ i = .int .i64 k ∧ Half wi w.heap.size l0 (j + 1) ((turnM M).set j (partR (colM M j) n k)) (vs ++ [.slice (some ⟨wo.heap.size, 0, none⟩) n n]) ∧ Below w.heap.size w wi) (fun i _ => n - (intOf i).toNat)
        case atStart => exact ⟨0, by omega, rfl, HST.out, HB.out⟩
        case round =>
          obtain ⟨k, hk, rfl, hrow, hbi⟩ := hrel
          by_cases hlk : k < n
          · have hcl : (colM M j).length = n := by rw [colM_len, HLL.out]
            have htl : (turnM M).length = l0 := by rw [turnM_len, HL0.out]
            obtain ⟨row, A2, c2, b2, o2, hr, hc, hI⟩ := (H.out.below hbi).row k hlk
            have hrl := (HRW.out row (List.mem_of_getElem? hr)).1
            obtain ⟨x, hx, hxc⟩ := hI.cell j (by omega)
            obtain rfl := hI.adr (by omega)
            rw [hrl] at hc
            have hvj : (vs ++ [Value.slice (some ⟨wo.heap.size, 0, none⟩) n n])[j]? = some (.slice (some ⟨wo.heap.size, 0, none⟩) n n) := by
              rw [List.getElem?_append_right (by have := HV2.out; omega)]; simp [HV2.out]
            have hMj : ((turnM M).set j (partR (colM M j) n k))[j]? = some (partR (colM M j) n k) := List.getElem?_set_self (by omega)
            have hpl := partR_len (colM M j) n k hcl hk
            obtain ⟨A3, c3, hv3, hI3⟩ := hrow.row j _ (by omega) hMj
            rw [hvj, hpl] at hv3
            simp only [Option.some.injEq, Value.slice.injEq, true_and] at hv3
            obtain ⟨rfl, rfl⟩ := hv3
            rw [hpl] at hI3
            have hout := World.ownsRow.cellAt hrow.out j (by omega)
            rw [List.getElem?_append_left (by simp [HV2.out]), hvj] at hout
            have hcell := World.ownsRow.cellAt hI3 k (by omega)
            have hfr := World.ownsRow.frozenAt hI3 k
            have hst := World.ownsRow.stored hI3 k (.int .i64 x)
            rw [ints_set, partR_set hlk hcl (colM_get hr hx)] at hst
            obtain ⟨v1, hv1⟩ : ∃ v1, wr.cell? ⟨wo.heap.size, k, none⟩ = some v1 := by
              rw [hcell]; exact ⟨_, List.getElem?_eq_getElem (by simp only [ints, List.length_map]; omega)⟩
            have hset := hrow.setRow (new := partR (colM M j) n (k + 1)) (by omega) hMj (by rw [hpl]; exact hvj) (by rw [hpl, partR_len _ _ _ hcl (by omega)]) (by rw [hpl]; exact hst.1) ((setCell_keep wr ⟨wo.heap.size, k, none⟩ (.int .i64 x)).mono (fun q _ hq => by rw [hq]; rfl))
            rw [List.set_set] at hset
            have HS := Lib.hid hset
            have HBI := Lib.hid (hbi.setCell (p := ⟨wo.heap.size, k, none⟩) hs0 (.int .i64 x))
            clear hcl htl hr hI hx hrl hvj hMj hpl hI3 hst hset hrow hbi hcell
            go_wp2_with (fail)
            go_still_tail 10, (by kernel_rfl)
            change wpList _ _ _ _ _ wr.drew
            go_wp2_with (fail)
            go_roundw
            case rel => exact ⟨k + 1, by omega, by go_num, HS.out.drew, HBI.out.drew⟩
            case measure => simp [intOf]; omega
          · obtain rfl : k = n := by omega
            rw [partR_done (by rw [colM_len, HLL.out])] at hrow
            have HR := Lib.hid (hrow.congr (M' := turnM M) (fun r _ => by
              by_cases e : r = j
              · subst e; rw [List.getElem?_set_self (by rw [turnM_len, HL0.out]; omega)]; exact turnM_get M r (by rw [HL0.out]; omega)
              · exact (List.getElem?_set_ne (fun e' => e e'.symm)).symm))
            clear hrow
            go_wp2_with (fail)
            go_roundw
            case rel => exact ⟨j + 1, _, by omega, by go_num, HR.out, hbi⟩
            case measure => simp [intOf]; omega
      · obtain rfl : j = l0 := by omega
        have HO := Lib.hid (hown.done (by rw [turnM_len, HL0.out]))
        have HE := Lib.hid (show (turnM M).length = j by rw [turnM_len, HL0.out])
        clear hown
        go_wp2_with (fail)
        go_ret
        exact ⟨_, _, _, by rw [HT.out, HE.out]; rfl, by rw [HT.out, HE.out]; exact HO.out, hbel⟩
theorem turnR_tot (p : Int) (M : List (List Int)) : tot (turnR p M) ≤ 64 := by
  unfold turnR
  split
  · rename_i h
    obtain ⟨h1, h2, h3, h4, _⟩ := matB_true h
    have := tot_rows (turnM M) 8 (fun row hr => by
      unfold turnM at hr
      obtain ⟨j, _, rfl⟩ := List.mem_map.1 hr
      rw [colM_len]; omega)
    rw [turnM_len] at this
    omega
  · simp [tot]
end Go.Proofs.Ytegkmolffemkpaa

/-
  Rows times matrices: what they are, and the contracts of rowTimes and of the model's l6Row.
-/
import Derived.Test.YtegkmolffemkpaaTimesS
import Derived.Test.YtegkmolffemkpaaWaV
import Derived.Test.YtegkmolffemkpaaEx
namespace Go.Proofs.Ytegkmolffemkpaa
open Go.RowKit
def rowT (p : Int) (M : List (List Int)) (row : List Int) : List Int := (List.range row.length).map fun j => dot row (colM M j) % p
/-- as far as the first i numbers of the row go -/
def rowI (p : Int) (M : List (List Int)) (row : List Int) (i : Nat) : List Int := (List.range row.length).map fun j => dot (row.take i) ((colM M j).take i) % p
theorem rowT_len (p : Int) (M : List (List Int)) (row : List Int) : (rowT p M row).length = row.length := by simp [rowT]
theorem rowI_len (p : Int) (M : List (List Int)) (row : List Int) (i : Nat) : (rowI p M row i).length = row.length := by simp [rowI]
theorem rowT_get (p : Int) (M : List (List Int)) (row : List Int) (j : Nat) (h : j < row.length) : (rowT p M row)[j]? = some (dot row (colM M j) % p) := by simp [rowT, h]
theorem rowI_get (p : Int) (M : List (List Int)) (row : List Int) (i j : Nat) (h : j < row.length) : (rowI p M row i)[j]? = some (dot (row.take i) ((colM M j).take i) % p) := by simp [rowI, h]
theorem rowI_zero (p : Int) (M : List (List Int)) (row : List Int) : rowI p M row 0 = List.replicate row.length 0 := by
  apply List.ext_getElem?
  intro j
  by_cases h : j < row.length
  · rw [rowI_get _ _ _ _ _ h, List.getElem?_replicate, if_pos h]; simp [dot]
  · rw [List.getElem?_eq_none (by rw [rowI_len]; omega), List.getElem?_eq_none (by simp; omega)]
theorem rowI_full {p : Int} {M : List (List Int)} {row : List Int} (h : M.length = row.length) : rowI p M row row.length = rowT p M row := by
  apply List.map_congr_left
  intro j _
  rw [dot_same row (colM M j) row.length rfl (by rw [colM_len, h])]
theorem sq_col {p : Int} {n : Nat} {M : List (List Int)} (hM : ∀ r ∈ M, r.length = n ∧ rowB p r = true) (j : Nat) (hj : j < n) : ∀ y ∈ colM M j, numB p y = true := by
  intro y hy
  simp only [colM, List.mem_map] at hy
  obtain ⟨r, hr, rfl⟩ := hy
  obtain ⟨h1, h2⟩ := hM r hr
  rw [List.getD_eq_getElem?_getD, List.getElem?_eq_getElem (by omega)]
  exact rowB_mem h2 _ (List.getElem_mem _)
theorem numB_mod {p s : Int} (hp : primeB p = true) : numB p (s % p) = true := by
  have h := prime_ge hp
  simp only [numB, hp, Bool.true_and, Bool.and_eq_true, decide_eq_true_eq]
  exact ⟨Int.emod_nonneg _ (by omega), Int.emod_lt_of_pos _ (by omega)⟩
theorem rowT_val {p : Int} (hp : primeB p = true) (M : List (List Int)) (row : List Int) : ∀ x ∈ rowT p M row, numB p x = true := by
  intro x hx
  simp only [rowT, List.mem_map] at hx
  obtain ⟨j, _, rfl⟩ := hx
  exact numB_mod hp
set_option maxHeartbeats 800000 in
theorem specRowT (p : Int) (A : Option Addr) (n c b o : Nat) (row : List Int) (A' : Option Addr) (c' b' o' : Nat) (M : List (List Int)) (w : World) (h : IA w A n b o row) (h' : RA w A' n b' o' M) (hn : n ≤ 8) (hp : primeB p = true) (hx : ∀ x ∈ row, numB p x = true) (hM : ∀ r ∈ M, r.length = n ∧ rowB p r = true) :
    Calls Try.prog 87 #[.int .i64 p, .slice A n c, .slice A' n c'] w (MadeI n (rowT p M row) w) := by
  have hpb := prime_ge hp
  have hmk := run_make_row' (P := Try.prog) 23 3 (.int .i64 0) 8 Try.underlying23 infoInt rfl .i64 .i64 n (by omega) (by omega)
  have HTL := Lib.hid (show (rowT p M row).length = n by rw [rowT_len]; exact h.len)
  have HL := Lib.hid h.len
  have HL' := Lib.hid h'.len
  have H := Lib.hid h
  have H' := Lib.hid h'
  have HX := Lib.hid hx
  have HM := Lib.hid hM
  clear h h' hp hx hM
  go_enter Try.func87, Try.ntmps87
  go_wp2_with (fail)
  go_loopw [8] (fun i wr => ∃ j : Nat, j ≤ n ∧ i = .int .i64 j ∧ OI wr w.heap.size (some ⟨w.heap.size, 0, none⟩) n n (partR (rowT p M row) n j) ∧ Below w.heap.size w wr) (fun i _ => n - (intOf i).toNat)
  case atStart => exact ⟨0, by omega, rfl, by simpa [partR] using made_ints w n (by omega), (Below.refl _ _).alloc (Nat.le_refl _) _⟩
  case round =>
    obtain ⟨j, hj, rfl, hown, hbel⟩ := hrel
    obtain ⟨wo, rfl⟩ : ∃ wo : World, wo = wr := ⟨_, rfl⟩
    have hs0 := hbel.size
    by_cases hlt : j < n
    · have HO := Lib.hid hown
      have HB := Lib.hid hbel
      clear hown hbel
      go_wp2_with (fail)
      go_loopw [9, 10] (fun s i wi => ∃ k : Nat, k ≤ n ∧ i = .int .i64 k ∧ s = .int .i64 (dot (row.take k) ((colM M j).take k)) ∧ Hid (∃ m, wi = wo.drewN m)) (fun _ i _ => n - (intOf i).toNat)
      case atStart => exact ⟨0, by omega, rfl, by simp [dot], 0, rfl⟩
      case round =>
        obtain ⟨k, hk, rfl, rfl, hw⟩ := hrel
        have hcv := sq_col HM.out j hlt
        have hb := dot_take_bd hpb.2 row (colM M j) k (by omega) HX.out hcv
        have hbw := below_drawn HB.out hw.out
        by_cases hlk : k < n
        · obtain ⟨r, A3, c3, b3, o3, hr3, hc3, hI3⟩ := (H'.out.below hbw).row k hlk
          obtain ⟨hrl, hrv⟩ := HM.out r (List.mem_of_getElem? hr3)
          obtain ⟨y, hy, hyc⟩ := hI3.cell j (by omega)
          obtain rfl := hI3.adr (by omega)
          rw [hrl] at hc3
          obtain ⟨x, hx, hxc⟩ := (H.out.below hbw).cell k hlk
          obtain rfl := H.out.adr (by omega)
          obtain rfl := H'.out.adr (by omega)
          have hxb := numB_bd (HX.out x (List.mem_of_getElem? hx))
          have hyb := numB_bd (rowB_mem hrv y (List.mem_of_getElem? hy))
          have hm := mul_bd hxb.1 (by omega) hyb.1 (by omega)
          have HD := Lib.hid (dot_take row (colM M j) k x y hx (colM_get hr3 hy))
          clear hx hy hr3 hI3 hrl hrv hcv hbw
          go_wp2_with (fail)
          go_quiet (fail)
          go_wp2_with (fail)
          go_roundw
          case rel => exact ⟨k + 1, by omega, by go_num, by rw [HD.out], drewN_more hw.out _⟩
          case measure => simp [intOf]; omega
        · obtain rfl : k = n := by omega
          have HD := Lib.hid (show dot (row.take k) ((colM M j).take k) = dot row (colM M j) from dot_same _ _ k HL.out (by rw [colM_len, HL'.out]))
          have hown := HO.out.drawn hw.out
          have hcell := World.ownsRow.cellAt hown j (by omega)
          have hfr := World.ownsRow.frozenAt hown j
          have hst := World.ownsRow.stored hown j (.int .i64 (dot (row.take k) ((colM M j).take k) % p))
          rw [HD.out, ints_set, partR_set hlt HTL.out (rowT_get p M row j (by rw [HL.out]; exact hlt))] at hst
          obtain ⟨v0, hv0⟩ : ∃ v0, wr.cell? ⟨w.heap.size, j, none⟩ = some v0 := by
            rw [hcell]; exact ⟨_, List.getElem?_eq_getElem (by have := hown.len; simp only [ints, List.length_map]; omega)⟩
          have HST := Lib.hid hst.1
          have HB3 := Lib.hid hbw
          clear hcell hst hown hbw hcv
          go_wp2_with (fail)
          go_roundw
          case rel => exact ⟨j + 1, by omega, by go_num, by rw [HD.out]; exact HST.out, by rw [HD.out]; exact HB3.out.setCell (Nat.le_refl _) _⟩
          case measure => simp [intOf]; omega
    · obtain rfl : j = n := by omega
      rw [partR_done HTL.out] at hown
      have HO := Lib.hid hown
      clear hown
      go_wp2_with (fail)
      go_ret
      exact ⟨_, _, rfl, HO.out, hbel⟩
set_option maxHeartbeats 800000 in
theorem implRowT (p : Int) (A : Option Addr) (n c b o : Nat) (row : List Int) (A' : Option Addr) (c' b' o' : Nat) (M : List (List Int)) (w : World) (h : IA w A n b o row) (h' : RA w A' n b' o' M) (hn : n ≤ 8) (hp : primeB p = true) (hx : ∀ x ∈ row, numB p x = true) (hM : ∀ r ∈ M, r.length = n ∧ rowB p r = true) :
    Calls Try.prog 59 #[.int .i64 p, .slice A n c, .slice A' n c'] w (MadeI n (rowT p M row) w) := by
  have hpb := prime_ge hp
  have hmk := run_make_row' (P := Try.prog) 23 3 (.int .i64 0) 8 Try.underlying23 infoInt rfl .i64 .i64 n (by omega) (by omega)
  have HL := Lib.hid h.len
  have HL' := Lib.hid h'.len
  have H := Lib.hid h
  have H' := Lib.hid h'
  have HX := Lib.hid hx
  have HM := Lib.hid hM
  clear h h' hp hx hM
  go_enter Try.func59, Try.ntmps59
  go_wp2_with (fail)
  go_loopw [17] (fun i wr => ∃ j : Nat, j ≤ n ∧ i = .int .i64 j ∧ OI wr w.heap.size (some ⟨w.heap.size, 0, none⟩) n n (rowI p M row j) ∧ Below w.heap.size w wr) (fun i _ => n - (intOf i).toNat)
  case atStart => exact ⟨0, by omega, rfl, by rw [rowI_zero, HL.out]; exact made_ints w n (by omega), (Below.refl _ _).alloc (Nat.le_refl _) _⟩
  case round =>
    obtain ⟨i, hi, rfl, hown, hbel⟩ := hrel
    obtain ⟨wo, rfl⟩ : ∃ wo : World, wo = wr := ⟨_, rfl⟩
    have hs0 := hbel.size
    by_cases hlt : i < n
    · obtain ⟨r, A3, c3, b3, o3, hr3, hc3, hI3⟩ := H'.out.row i hlt
      obtain ⟨hrl, hrv⟩ := HM.out r (List.mem_of_getElem? hr3)
      rw [hrl] at hc3 hI3
      obtain ⟨x, hx, hxc⟩ := H.out.cell i hlt
      obtain rfl := H.out.adr (by omega)
      obtain rfl := H'.out.adr (by omega)
      obtain rfl := hI3.adr (by omega)
      have hc3 := (keep_of_below hbel).cell hc3 (fun h => h)
      have hxc := (keep_of_below hbel).cell hxc (fun h => h)
      have hxb := numB_bd (HX.out x (List.mem_of_getElem? hx))
      have HO := Lib.hid hown
      have HB := Lib.hid hbel
      have HI := Lib.hid hI3
      have HR := Lib.hid hr3
      have HXI := Lib.hid hx
      have HRV := Lib.hid hrv
      clear hown hbel hI3 hr3 hx hrv hrl
      go_wp2_with (fail)
      go_loopw [27] (fun q wi => ∃ j : Nat, j ≤ n ∧ q = .int .i64 j ∧ OI wi w.heap.size (some ⟨w.heap.size, 0, none⟩) n n ((rowI p M row (i + 1)).take j ++ (rowI p M row i).drop j) ∧ Below w.heap.size w wi) (fun q _ => n - (intOf q).toNat)
      case atStart => exact ⟨0, by omega, rfl, by simpa using HO.out, HB.out⟩
      case round =>
        obtain ⟨j, hj, rfl, hown, hbel⟩ := hrel
        have hll : (rowI p M row (i + 1)).length = (rowI p M row i).length := by rw [rowI_len, rowI_len]
        by_cases hlj : j < n
        · obtain ⟨y, hy, hyc⟩ := (HI.out.below hbel).cell j hlj
          have hyb := numB_bd (rowB_mem HRV.out y (List.mem_of_getElem? hy))
          have hm := mul_bd hxb.1 (by omega) hyb.1 (by omega)
          have hjl : j < row.length := by rw [HL.out]; exact hlj
          obtain ⟨D, hD⟩ : ∃ D, dot (row.take i) ((colM M j).take i) = D := ⟨_, rfl⟩
          have hnew : (rowI p M row (i + 1))[j]? = some ((D + x * y) % p) := by
            rw [rowI_get _ _ _ _ _ hjl, dot_take row (colM M j) i x y HXI.out (colM_get HR.out hy), hD]
          have hold := rowI_get p M row i j hjl
          rw [hD] at hold
          have hmix : ((rowI p M row (i + 1)).take j ++ (rowI p M row i).drop j)[j]? = some (D % p) := by
            rw [mix_get _ _ _ hll (by rw [rowI_len]; exact hjl), hold]
          have hd0 := Int.emod_nonneg D (show p ≠ 0 by omega)
          have hd1 := Int.emod_lt_of_pos D (show 0 < p by omega)
          have hcell := World.ownsRow.cellAt hown j (by omega)
          have hcv : (ints ((rowI p M row (i + 1)).take j ++ (rowI p M row i).drop j))[j]? = some (.int .i64 (D % p)) := by unfold ints; rw [List.getElem?_map, hmix]; rfl
          rw [hcv] at hcell
          have hfr := World.ownsRow.frozenAt hown j
          have hst := World.ownsRow.stored hown j (.int .i64 ((D + x * y) % p))
          rw [ints_set, set_step _ _ j _ hll hnew] at hst
          have HST := Lib.hid hst.1
          have HB3 := Lib.hid hbel
          clear hst hown hbel hy hnew hold hmix hcv hD
          go_wp2_with (fail)
          go_roundw
          case rel => exact ⟨j + 1, by omega, by go_num, HST.out, HB3.out.setCell (Nat.le_refl _) _⟩
          case measure => simp [intOf]; omega
        · obtain rfl : j = n := by omega
          have e : (rowI p M row (i + 1)).take j ++ (rowI p M row i).drop j = rowI p M row (i + 1) := by
            rw [List.take_of_length_le (by rw [rowI_len, HL.out]; omega), List.drop_of_length_le (by rw [rowI_len, HL.out]; omega)]; simp
          rw [e] at hown
          have HO2 := Lib.hid hown
          have HB2 := Lib.hid hbel
          clear e hown hbel
          go_wp2_with (fail)
          go_roundw
          case rel => exact ⟨i + 1, by omega, by go_num, HO2.out, HB2.out⟩
          case measure => simp [intOf]; omega
    · obtain rfl : i = n := by omega
      have e : rowI p M row i = rowT p M row := by
        have e1 := HL.out
        subst e1
        exact rowI_full HL'.out
      rw [e] at hown
      have HO := Lib.hid hown
      clear hown e
      go_wp2_with (fail)
      go_ret
      exact ⟨_, _, rfl, HO.out, hbel⟩
end Go.Proofs.Ytegkmolffemkpaa

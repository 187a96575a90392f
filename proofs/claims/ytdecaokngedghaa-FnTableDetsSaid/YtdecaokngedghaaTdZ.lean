/-
  The contracts of squareTable, StreamRank of the program and of the model.
  Plain mathematics of the determinant, as both texts compute it; the contract of the program's MatDet.
  The contract of the program's MatDet.
  The contract of the model's MatDet.
  The contracts of TableDets of the program and of the model.
  Plain mathematics: the determinant by its first column; what each function of its kind does.
  Plain mathematics: what the elimination computes is the determinant; products, rows as columns, rank.
  Plain mathematics: the rank of the table of a stream is its least order.
  Plain mathematics: the determinants of the tables of a stream.
-/
import Derived.Deep.RegionHeld3
import Derived.Test.YtdecaokngedghaaGe
import Derived.Test.YtdecaokngedghaaSRt
import Derived.Test.YtdecaokngedghaaGb
import Derived.Test.YtdecaokngedghaaBxs
import Derived.Test.YtdecaokngedghaaGc
import Derived.Test.YtdecaokngedghaaStm
namespace Go.Proofs.Ytdecaokngedghaa
open Go.RowKit
theorem trm_ser {p : Int} {T F : List Int} (h : recB p T F = true) {m : Nat} (hm : m ≤ 24) : serB p (trm p T F m) = true :=
  serB_mk (recB_true h).1 (by rw [trm_len]; exact hm) (trm_num h m)
def sqrL (p : Int) (T F : List Int) (R : Nat) : List (List Int) := tabL (trm p T F (2 * R - 1)) R R
theorem sqr_terms {p : Int} {T F : List Int} (h : recB p T F = true) {R : Nat} (h1 : 1 ≤ R) (h8 : R ≤ 8) : termsO p T F (2 * (R : Int) - 1) = trm p T F (2 * R - 1) := by
  unfold termsO
  rw [if_pos ⟨h, by omega, by omega⟩]
  congr 1
  omega
theorem sqr_tab {p : Int} {T F : List Int} (h : recB p T F = true) {R : Nat} (h1 : 1 ≤ R) (h8 : R ≤ 8) : tabR p (trm p T F (2 * R - 1)) (R : Int) (R : Int) = sqrL p T F R := by
  unfold tabR
  rw [if_pos]
  · rfl
  · unfold tabOk inB
    rw [trm_ser h (by omega), trm_len]
    simp only [Bool.true_and, Bool.and_eq_true, decide_eq_true_eq]
    omega
theorem sqr_len (p : Int) (T F : List Int) (R : Nat) : (sqrL p T F R).length = R := tabL_len _ _ _
def streamRankR (p : Int) (T F : List Int) : Int := if recB p T F = true then rankR p (sqrL p T F 8) else -1
theorem streamRank_bd (p : Int) (T F : List Int) : -1 ≤ streamRankR p T F ∧ streamRankR p T F ≤ 13 := by
  unfold streamRankR
  split
  · rename_i h
    unfold rankR
    split
    · rename_i hm
      have h8 := (matB_true hm).2.2.2.1
      have hv := VM_of_mat hm
      have := (elim_inv (recB_true h).1 hv (((sqrL p T F 8).headD []).length)).2.2.2
      omega
    · omega
  · omega
set_option maxRecDepth 100000 in
set_option maxHeartbeats 4000000 in
theorem squareTable_any (v : Value) (p : Int) (T F : List Int) (R : Nat) (w : World) (h : RV w v p T F) (hv : recB p T F = true) (h1 : 1 ≤ R) (h8 : R ≤ 8) :
    Calls Try.prog 54 #[v, .int .i64 (R : Int)] w (MadeM R (sqrL p T F R) w) := by
  obtain ⟨A, n, c, b, o, A', n', c', b', o', rfl, g1, g2⟩ := h
  have hbx := Bx.new w (.int .i64 p) (.slice A n c) (.slice A' n' c') 27
  have hB0 : Below w.heap.size w (w.alloc (.cells #[.int .i64 p, .slice A n c, .slice A' n' c'] 27)) := (Below.refl _ w).alloc (Nat.le_refl _) _
  have HV0 := Lib.hid (show RV _ (.agg #[.int .i64 p, .slice A n c, .slice A' n' c']) p T F from ⟨_, _, _, _, _, _, _, _, _, _, rfl, g1.below hB0, g2.below hB0⟩)
  have HBX := Lib.hid hbx
  have HB0 := Lib.hid hB0
  have E1 := Lib.hid (sqr_terms hv h1 h8)
  have E2 := Lib.hid (sqr_tab hv h1 h8)
  have hw0 : IntKind.i64.wrap (2 * (R : Int)) = 2 * (R : Int) := IntWalk.i64_in _ ⟨by omega, by omega⟩
  have hw1 : IntKind.i64.wrap (2 * (R : Int) - 1) = 2 * (R : Int) - 1 := IntWalk.i64_in _ ⟨by omega, by omega⟩
  clear g1 g2 hB0 hbx hv
  go_enter Try.func54, Try.ntmps54
  go_wp2_with (fail)
  have HVd := Lib.hid (HV0.out.below (below_new_drew _))
  have HBd := Lib.hid HB0.out.drew
  have ZS := HBX.out
  have Zd := HBX.out.drew
  unfold Bx at ZS Zd
  go_region_held3 (fun w' => w'.cell? ⟨w.heap.size, 0, none⟩ = some (.int .i64 p) ∧ w'.cell? ⟨w.heap.size, 1, none⟩ = some (.slice A n c) ∧ w'.cell? ⟨w.heap.size, 2, none⟩ = some (.slice A' n' c')) (first | assumption | exact ZB | exact ZA | exact Zd | exact ZS | go_keep)
    (first
      | (go_at_call 15; refine (implRecTerms _ p T F (2 * (R : Int) - 1) _ HVd.out).mono ?_; rw [E1.out, trm_len]; rintro e w3 ⟨A5, c5, rfl, hO, hB⟩; obtain ⟨b5, hI⟩ := hO.ia; have hc5 := OI.capLe hO; have HI5 := Lib.hid hI; have HB3 := Lib.hid (below_more HBd.out hB); have HBX3 := Lib.hid (HBX.out.drew.below hB); have ZA := HBX3.out; unfold Bx at ZA; clear hO hB hI)
      | (go_at_call 83; refine (implTableOf p A5 _ c5 b5 0 (trm p T F (2 * R - 1)) (R : Int) (R : Int) _ HI5.out hc5).mono ?_; rw [E2.out, sqr_len]; rintro e w4 ⟨A6, c6, v6, rfl, hO, hB⟩; have HO6 := Lib.hid hO; have hs3 := HB3.out.size; have HB4 := Lib.hid (below_more HB3.out hB); have HBX4 := Lib.hid (HBX3.out.below hB); have ZB := HBX4.out; unfold Bx at ZB; clear hO hB))
  all_goals
    go_wp2_with (fail)
    go_ret
    exact ⟨A6, c6, v6, rfl, HO6.out.mono hs3, HB4.out⟩
set_option maxRecDepth 100000 in
set_option maxHeartbeats 4000000 in
theorem specStreamRank (v : Value) (p : Int) (T F : List Int) (w : World) (h : RV w v p T F) :
    Calls Try.prog 28 #[v] w (IntBelow (streamRankR p T F) w) := by
  obtain ⟨A, n, c, b, o, A', n', c', b', o', rfl, g1, g2⟩ := h
  have hbx := Bx.new w (.int .i64 p) (.slice A n c) (.slice A' n' c') 27
  have hB0 : Below w.heap.size w (w.alloc (.cells #[.int .i64 p, .slice A n c, .slice A' n' c'] 27)) := (Below.refl _ w).alloc (Nat.le_refl _) _
  have HV0 := Lib.hid (show RV _ (.agg #[.int .i64 p, .slice A n c, .slice A' n' c']) p T F from ⟨_, _, _, _, _, _, _, _, _, _, rfl, g1.below hB0, g2.below hB0⟩)
  have HBX := Lib.hid hbx
  have HB0 := Lib.hid hB0
  clear g1 g2 hB0 hbx
  rcases hv : recB p T F
  · have HV := Lib.hid hv
    have HE := Lib.hid (show streamRankR p T F = -1 by unfold streamRankR; rw [if_neg (by simp [hv])])
    clear hv
    go_enter Try.func28, Try.ntmps28
    go_wp2_with (go_at_call 23; refine (specRecValid _ p T F _ HV0.out).mono ?_; rintro e w1 ⟨rfl, hB⟩; rw [HV.out]; have HB := Lib.hid hB; clear hB)
    go_ret
    exact ⟨by rw [HE.out]; rfl, below_more HB0.out HB.out⟩
  have HV := Lib.hid hv
  have HE := Lib.hid (show streamRankR p T F = rankR p (sqrL p T F 8) by unfold streamRankR; rw [if_pos hv])
  have E2 := Lib.hid (sqr_tab hv (show 1 ≤ 8 by decide) (Nat.le_refl 8))
  clear hv
  go_enter Try.func28, Try.ntmps28
  go_wp2_with (go_at_call 23; refine (specRecValid _ p T F _ HV0.out).mono ?_; rintro e w1 ⟨rfl, hB⟩; rw [HV.out]; have HB1 := Lib.hid (below_more HB0.out hB); have HBX1 := Lib.hid (HBX.out.below hB); have HV1 := Lib.hid (HV0.out.below hB); have y0 := HBX1.out.1; have y1 := HBX1.out.2.1; have y2 := HBX1.out.2.2; clear hB)
  have HVd := Lib.hid (HV1.out.below (below_new_drew _))
  have HBd := Lib.hid HB1.out.drew
  have ZS := HBX1.out
  have Zd := HBX1.out.drew
  unfold Bx at ZS Zd
  go_region_held3 (fun w' => w'.cell? ⟨w.heap.size, 0, none⟩ = some (.int .i64 p) ∧ w'.cell? ⟨w.heap.size, 1, none⟩ = some (.slice A n c) ∧ w'.cell? ⟨w.heap.size, 2, none⟩ = some (.slice A' n' c')) (first | assumption | exact ZC | exact ZB | exact ZA | exact Zd | exact ZS | go_keep)
    (first
      | (go_at_call 51; refine (specL3 _ p T F 15 _ HVd.out HV.out (by decide)).mono ?_; rintro e w3 ⟨A5, c5, rfl, hO, hB⟩; obtain ⟨b5, hI⟩ := hO.ia; have hc5 := OI.capLe hO; have HI5 := Lib.hid hI; have HB3 := Lib.hid (below_more HBd.out hB); have HBX3 := Lib.hid (HBX1.out.drew.below hB); have ZA := HBX3.out; unfold Bx at ZA; clear hO hB hI)
      | (go_at_call 56; refine (specTableOf p A5 _ c5 b5 0 (trm p T F 15) ((8 : Nat) : Int) ((8 : Nat) : Int) _ HI5.out hc5).mono ?_; rw [show tabR p (trm p T F 15) ((8 : Nat) : Int) ((8 : Nat) : Int) = sqrL p T F 8 from E2.out, sqr_len]; rintro e w4 ⟨A6, c6, v6, rfl, hO, hB⟩; obtain ⟨b6, hR⟩ := hO.ra; have HR6 := Lib.hid hR; have HB4 := Lib.hid (below_more HB3.out hB); have HBX4 := Lib.hid (HBX3.out.below hB); have ZB := HBX4.out; unfold Bx at ZB; clear hO hB hR)
      | (go_at_call 57; refine (specMatRank p A6 _ c6 b6 0 (sqrL p T F 8) _ HR6.out).mono ?_; rintro e w5 ⟨rfl, hB⟩; rw [← HE.out]; have HB5 := Lib.hid (below_more HB4.out hB); have HBX5 := Lib.hid (HBX4.out.below hB); have ZC := HBX5.out; unfold Bx at ZC; clear hB))
  all_goals
    go_wp2_with (fail)
    go_ret
    exact ⟨rfl, HB5.out⟩
end Go.Proofs.Ytdecaokngedghaa
namespace Go.Proofs.Ytdecaokngedghaa
open Go.RowKit
def downRow (p : Int) (M : List (List Int)) (col : Nat) (back : Int) (i : Nat) : List Int := if i ≤ col then M.getD i [] else subRow p (at2 M i col * back % p) (M.getD i []) (M.getD col [])
def downM (p : Int) (M : List (List Int)) (col : Nat) (back : Int) : List (List Int) := (List.range M.length).map (downRow p M col back)
def detStep (p : Int) (col : Nat) (N : List (List Int)) (d : Int) : Option (List (List Int) × Int) :=
  match firstW N col (N.length - col) col with
  | none => none
  | some r => some (downM p (swapM N r col) col (invM p (at2 (swapM N r col) col col)), (if r = col then d else -d % p) * at2 (swapM N r col) col col % p)
def detE (p : Int) (M : List (List Int)) : Nat → Option (List (List Int) × Int)
  | 0 => some (M, 1)
  | c + 1 => match detE p M c with
    | none => none
    | some x => detStep p c x.1 x.2
def detV (p : Int) (M : List (List Int)) : Int := match detE p M M.length with
  | none => 0
  | some x => x.2
def detR (p : Int) (M : List (List Int)) : Int := if matB p M = true then (if M.length = (M.headD []).length then detV p M else -1) else -1
theorem detE_step {p : Int} {M N : List (List Int)} {c : Nat} {d : Int} (h : detE p M c = some (N, d)) : detE p M (c + 1) = detStep p c N d := by
  show (match detE p M c with | none => none | some x => detStep p c x.1 x.2) = _
  rw [h]
theorem detE_none {p : Int} {M : List (List Int)} {c : Nat} (h : detE p M c = none) : ∀ k, detE p M (c + k) = none
  | 0 => h
  | k + 1 => by
    show (match detE p M (c + k) with | none => none | some x => detStep p (c + k) x.1 x.2) = none
    rw [detE_none h k]
theorem downM_len (p : Int) (M : List (List Int)) (col : Nat) (back : Int) : (downM p M col back).length = M.length := by simp [downM]
theorem downM_get (p : Int) (M : List (List Int)) (col : Nat) (back : Int) (i : Nat) (h : i < M.length) : (downM p M col back)[i]? = some (downRow p M col back i) := by
  unfold downM; rw [List.getElem?_map, List.getElem?_range h]; rfl
theorem downRow_valid {p : Int} (hp : primeB p = true) {l : Nat} {M : List (List Int)} (h : VM p l M) {col i : Nat} {back : Int} (ht : col < M.length) (hi : i < M.length) : (downRow p M col back i).length = l ∧ ∀ x ∈ downRow p M col back i, numB p x = true := by
  unfold downRow
  split
  · exact h.getD hi
  · exact ⟨by rw [subRow_len _ _ _ _ (by rw [(h.getD hi).1, (h.getD ht).1])]; exact (h.getD hi).1, subRow_valid hp _ _⟩
theorem VM.down {p : Int} (hp : primeB p = true) {l : Nat} {M : List (List Int)} (h : VM p l M) {col : Nat} {back : Int} (ht : col < M.length) : VM p l (downM p M col back) := by
  intro row hr
  unfold downM at hr
  obtain ⟨i, hi, rfl⟩ := List.mem_map.1 hr
  exact downRow_valid hp h ht (List.mem_range.1 hi)
theorem downM_low {p : Int} {M : List (List Int)} {col : Nat} {back : Int} {i : Nat} (hi : i < M.length) (hc : i ≤ col) : (downM p M col back)[i]? = M[i]? := by
  rw [downM_get _ _ _ _ _ hi]
  unfold downRow
  rw [if_pos hc, List.getD_eq_getElem?_getD, List.getElem?_eq_getElem hi]; rfl
theorem downMix_low {p : Int} {M : List (List Int)} {col k : Nat} {back : Int} {i : Nat} (hi : i < M.length) (hc : i ≤ col) : ((downM p M col back).take k ++ M.drop k)[i]? = M[i]? := by
  by_cases hlt : i < k
  · rw [List.getElem?_append_left (by simp [downM_len]; omega), List.getElem?_take, if_pos hlt, downM_low hi hc]
  · rw [List.getElem?_append_right (by simp [downM_len]; omega), List.getElem?_drop]
    congr 1
    simp [downM_len]; omega
theorem downMix_start {p : Int} {M : List (List Int)} {col : Nat} {back : Int} (hc : col < M.length) : (downM p M col back).take (col + 1) ++ M.drop (col + 1) = M := by
  refine List.ext_getElem? fun i => ?_
  by_cases hi : i < M.length
  · by_cases hlt : i ≤ col
    · exact downMix_low hi hlt
    · rw [List.getElem?_append_right (by simp [downM_len]; omega), List.getElem?_drop]
      congr 1
      simp [downM_len]; omega
  · rw [List.getElem?_eq_none (by simp [downM_len]; omega), List.getElem?_eq_none (by omega)]
theorem VM.downMix {p : Int} {l col k : Nat} {back : Int} {M : List (List Int)} (hp : primeB p = true) (h : VM p l M) (ht : col < M.length) : VM p l ((downM p M col back).take k ++ M.drop k) := fun row hr => by
  rcases List.mem_append.1 hr with hr | hr
  · exact h.down hp ht row (List.mem_of_mem_take hr)
  · exact h row (List.mem_of_mem_drop hr)
theorem swapM_self (M : List (List Int)) (i : Nat) (h : i < M.length) : swapM M i i = M := by
  unfold swapM
  rw [List.set_set]
  refine List.ext_getElem? fun q => ?_
  by_cases e : q = i
  · subst e; rw [List.getElem?_set_self h, List.getD_eq_getElem?_getD, List.getElem?_eq_getElem h]; rfl
  · rw [List.getElem?_set_ne (fun e' => e e'.symm)]
theorem numB_one {p : Int} (hp : primeB p = true) : numB p 1 = true := by
  have := prime_ge hp
  exact numB_mk hp (by omega) (by omega)
theorem detE_inv {p : Int} (hp : primeB p = true) {l : Nat} {M : List (List Int)} (h : VM p l M) : ∀ c, c ≤ M.length → ∀ N d, detE p M c = some (N, d) → N.length = M.length ∧ VM p l N ∧ numB p d = true
  | 0, _ => by
    intro N d hd
    obtain ⟨rfl, rfl⟩ : M = N ∧ (1 : Int) = d := by simpa [detE] using hd
    exact ⟨rfl, h, numB_one hp⟩
  | c + 1, hc => by
    intro N d hd
    cases he : detE p M c with
    | none => rw [detE_none he 1] at hd; simp at hd
    | some x =>
      obtain ⟨N0, d0⟩ := x
      obtain ⟨h1, h2, h3⟩ := detE_inv hp h c (by omega) N0 d0 he
      rw [detE_step he] at hd
      unfold detStep at hd
      split at hd
      · simp at hd
      · rename_i r hr
        obtain ⟨g1, g2, _, _⟩ := firstW_some hr
        simp only [Option.some.injEq, Prod.mk.injEq] at hd
        obtain ⟨rfl, rfl⟩ := hd
        exact ⟨by rw [downM_len, swapM_len, h1], (h2.swap (by omega) (by omega)).down hp (by rw [swapM_len]; omega), numB_emod hp _⟩
theorem detV_none {p : Int} {M : List (List Int)} {c : Nat} (h : detE p M c = none) (hc : c ≤ M.length) : detV p M = 0 := by
  have h1 := detE_none h (M.length - c)
  rw [show c + (M.length - c) = M.length by omega] at h1
  unfold detV; rw [h1]
theorem detV_some {p : Int} {M N : List (List Int)} {d : Int} (h : detE p M M.length = some (N, d)) : detV p M = d := by unfold detV; rw [h]
theorem detStep_none {p : Int} {c : Nat} {N : List (List Int)} {d : Int} (h : firstW N c (N.length - c) c = none) : detStep p c N d = none := by unfold detStep; rw [h]
theorem detStep_some {p : Int} {c r : Nat} {N : List (List Int)} {d : Int} (h : firstW N c (N.length - c) c = some r) :
    detStep p c N d = some (downM p (swapM N r c) c (invM p (at2 (swapM N r c) c c)), (if r = c then d else -d % p) * at2 (swapM N r c) c c % p) := by unfold detStep; rw [h]
end Go.Proofs.Ytdecaokngedghaa
namespace Go.Proofs.Ytdecaokngedghaa
open Go.RowKit
theorem detR_no {p : Int} {M : List (List Int)} (h : matB p M = false) : detR p M = -1 := by unfold detR; rw [if_neg (by simp [h])]
theorem detR_odd {p : Int} {M : List (List Int)} (h : M.length ≠ (M.headD []).length) : detR p M = -1 := by
  unfold detR; rw [if_neg h]; split <;> rfl
theorem detR_yes {p : Int} {M : List (List Int)} (h : matB p M = true) (h2 : M.length = (M.headD []).length) : detR p M = detV p M := by unfold detR; rw [if_pos h, if_pos h2]
theorem OMF.cap {w : World} {B hi g n c : Nat} {M : List (List Int)} {vs : List Value} (h : OMF w B hi g n c M vs) : n ≤ c := by
  rcases h.om.out.2 with ⟨h1, _⟩ | ⟨g', cap, cur, hv, _, _, hnc, _⟩
  · simp at h1
  · simp only [Value.slice.injEq, true_and] at hv
    omega
set_option maxRecDepth 100000 in
set_option maxHeartbeats 800000 in
theorem implMatDet (p : Int) (A : Option Addr) (n c b o : Nat) (M : List (List Int)) (w : World) (h : RA w A n b o M) :
    Calls Try.prog 53 #[.int .i64 p, .slice A n c] w (IntBelow (detR p M) w) := by
  have hbig := h.big
  have H := Lib.hid h
  clear h
  rcases hv : matB p M
  · have HV := Lib.hid hv
    have HR := Lib.hid (detR_no hv)
    clear hv
    go_enter Try.func53, Try.ntmps53
    go_wp2_with (fail)
    refine (implMatValid p A n c b o M _ H.out).mono ?_
    rintro e w1 ⟨rfl, rfl⟩
    rw [HV.out]
    go_wp2_with (fail)
    go_ret
    exact ⟨by rw [HR.out]; rfl, Below.refl _ _⟩
  · obtain ⟨hn1, hn8, hl1, hl8, hrows⟩ := matB_true hv
    have hL := H.out.len
    obtain ⟨l0, hl0⟩ : ∃ l0, (M.headD []).length = l0 := ⟨_, rfl⟩
    have hvm := VM_of_mat hv
    have hp := prime_of_mat hv
    rw [hl0] at hl1 hl8 hrows hvm
    rw [hL] at hn1 hn8
    have HRW := Lib.hid (show ∀ row ∈ M, row.length = l0 from fun row hr => (hrows row hr).1)
    obtain ⟨row0, A0, c0, b0, o0, hm0, hc0, hI0⟩ := H.out.row 0 (by omega)
    have hr0 := HRW.out row0 (List.mem_of_getElem? hm0)
    rw [hr0, Nat.add_zero] at hc0
    obtain rfl := H.out.adr (by omega)
    clear hm0 hI0 hr0
    by_cases hsq : n = l0
    · subst hsq
      have hR : detR p M = detV p M := detR_yes hv (by rw [hl0, hL])
      have hq : ((n : Int) != (n : Int)) = false := by simp
      have hpb := prime_ge hp
      have HV := Lib.hid hv
      have HR := Lib.hid hR
      have HVM := Lib.hid hvm
      have HP := Lib.hid hp
      have HML := Lib.hid hL
      clear hv hR hvm hp hL hrows hl0
      go_enter Try.func53, Try.ntmps53
      go_wp2_with (fail)
      refine (implMatValid p _ n c b o M _ H.out).mono ?_
      rintro e w1 ⟨rfl, rfl⟩
      rw [HV.out]
      go_wp2_with (fail)
      refine (copyRows_any _ n c b o n M _ H.out hn8 hl1 (by omega) HRW.out).mono ?_
      rintro e w1 ⟨A1, c1, vs, rfl, hO, hB⟩
      obtain ⟨g, hg⟩ := hO.addr hn1
      subst hg
      have HOF := Lib.hid (OMF.mk hO (hO.out.lt g rfl).2 hO.foot)
      clear hO
      have hsz1 := hB.size
      have HB := Lib.hid hB
      have h1B := numB_bd (numB_one HP.out)
      clear hB
      go_wp2_with (fail)
      go_loopw [6, 29] (fun dv i wr => ∃ (col : Nat) (N : List (List Int)) (d : Int) (vs' : List Value), col ≤ n ∧ i = .int .i64 col ∧ dv = .int .i64 d ∧ detE p M col = some (N, d) ∧ OMF wr w.heap.size w1.heap.size g n c1 N vs' ∧ Keep (fun q => w.heap.size ≤ q ∧ q < w1.heap.size) w1 wr) (fun _ i _ => n - (intOf i).toNat)
      case atStart => exact ⟨0, M, 1, vs, by omega, rfl, rfl, rfl, HOF.out, Keep.refl _ _⟩
      case round =>
        obtain ⟨col, N, d, vs', hcol, rfl, rfl, hde, hom, hkp⟩ := hrel
        obtain ⟨wo, rfl⟩ : ∃ wo : World, wo = wr := ⟨_, rfl⟩
        obtain ⟨hNl, hNV, hdB⟩ := detE_inv HP.out HVM.out col (by rw [HML.out]; exact hcol) N d hde
        rw [HML.out] at hNl
        have HDN := Lib.hid hde
        have HO := Lib.hid hom
        have HK := Lib.hid hkp
        have HV := Lib.hid hNV
        have HNL := Lib.hid hNl
        have hdb := numB_bd hdB
        clear hde hom hkp hNV hNl hdB
        by_cases hlt : col < n
        · obtain ⟨br, hRA⟩ := HO.out.om.ra
          have HRA := Lib.hid hRA
          clear hRA
          go_wp2_with (fail)
          refine (firstRowWith_any _ n c1 br 0 N col col _ HRA.out (fun row hr => by rw [(HV.out row hr).1]; exact hlt) hcol (by omega)).mono ?_
          rintro e w' ⟨x, rfl, hx, rfl⟩
          rcases hx with ⟨rfl, hnone⟩ | ⟨r, rfl, hrn, hsome⟩
          · have HR0 := Lib.hid (show detR p M = 0 by rw [HR.out]; exact detV_none (c := col + 1) (by rw [detE_step HDN.out, detStep_none hnone]) (by rw [HML.out]; omega))
            clear hnone
            go_wp2_with (fail)
            go_ret
            exact ⟨by rw [HR0.out]; rfl, HB.out.trans (HK.out.below (B := w.heap.size) hsz1 (fun q hq => hq.1))⟩
          · obtain ⟨hf1, hf2', hf3, _⟩ := firstW_some hsome
            rw [HNL.out] at hrn
            by_cases hrc : r = col
            · obtain rfl : col = r := hrc.symm
              have hqr : ((col : Int) != (col : Int)) = false := by simp
              have hd0 := hdb.1
              have HDE := Lib.hid (show detE p M (col + 1) = some (downM p N col (invM p (at2 N col col)), d * at2 N col col % p) by rw [detE_step HDN.out, detStep_some hsome, swapM_self N col (by rw [HNL.out]; exact hlt), if_pos rfl])
              have HO2 := HO
              have HVM2 := HV
              have HK2 := HK
              have HNZ := Lib.hid hf3
              have HNL2 := HNL
              clear hsome hf1 hf2' hf3 hrn hrc
              obtain ⟨row2, b2, c2, hm2, hrl2, hrv2, h2x, hf2⟩ := HO2.out.cellAt HVM2.out hlt
              obtain ⟨hv2, hc2, hI2, hIA2⟩ := h2x hl1
              obtain ⟨x2, hx2, hxc2⟩ := hIA2.cell col hlt
              rw [Nat.zero_add] at hxc2
              have hxn := hrv2 x2 (List.mem_of_getElem? hx2)
              have hxb := numB_bd hxn
              have hat2 : at2 N col col = x2 := at2_of hm2 hx2
              have hx20 : x2 ≠ 0 := by rw [← hat2]; exact HNZ.out
              have hmb := mul_bd hd0 (by omega) hxb.1 (by omega)
              obtain ⟨u, hu⟩ : ∃ u, invM p x2 = u := ⟨_, rfl⟩
              have hnb : numBack p x2 = u := by unfold numBack; rw [if_pos ⟨hxn, hx20⟩, hu]
              have hun : numB p u = true := by rw [← hu]; exact numB_mk HP.out (inv_bd HP.out).1 (inv_bd HP.out).2
              have hub := numB_bd hun
              have HDE2 := Lib.hid (show detE p M (col + 1) = some (downM p N col u, d * x2 % p) by rw [HDE.out, hat2, hu])
              have HNB := Lib.hid hnb
              clear hm2 hrl2 hrv2 h2x hv2 hI2 hIA2 hx2 hxn hat2 hu hnb HDE HNZ hun
              go_wp2_with (fail)
              refine (implNumBack p x2 _).mono ?_
              rintro e w3 ⟨rfl, rfl⟩
              rw [HNB.out]
              have hcapn := HO2.out.cap
              have HO3 := HO2
              have HK3 := HK2
              go_wp2_with (fail)
              · rw [← h]
                have hz : n - c1 = 0 := by omega
                have hz2 : col + 1 = n := by omega
                clear h
                go_loopw [83] (fun i wi => ∃ k : Nat, k ≤ n - c1 ∧ i = .int .i64 k ∧ OMF wi w.heap.size w1.heap.size g n c1 ((downM p N col u).take (col + 1 + k) ++ N.drop (col + 1 + k)) vs' ∧ Keep (fun q => w.heap.size ≤ q ∧ q < w1.heap.size) w1 wi) (fun i _ => n - (intOf i).toNat)
                case atStart => exact ⟨0, by omega, rfl, by rw [Nat.add_zero, downMix_start (by rw [HNL2.out]; exact hlt)]; exact HO3.out, HK3.out⟩
                case round =>
                  obtain ⟨k, hk, rfl, hom, hkp⟩ := hrel
                  by_cases hlk : k < n - c1
                  · omega
                  · obtain rfl : k = 0 := by omega
                    rw [show col + 1 + 0 = n by omega, mixDone (by rw [downM_len]; exact HNL2.out) HNL2.out] at hom
                    have HO5 := Lib.hid hom
                    have HK5 := Lib.hid hkp
                    clear hom hkp
                    go_wp2_with (fail)
                    go_roundw
                    case rel => exact ⟨col + 1, _, _, vs', by omega, by go_num, rfl, HDE2.out, HO5.out, HK5.out⟩
                    case measure => simp [intOf]; omega
              · go_loopw [83] (fun i wi => ∃ k : Nat, k ≤ n - (col + 1) ∧ i = .int .i64 k ∧ OMF wi w.heap.size w1.heap.size g n c1 ((downM p N col u).take (col + 1 + k) ++ N.drop (col + 1 + k)) vs' ∧ Keep (fun q => w.heap.size ≤ q ∧ q < w1.heap.size) w1 wi) (fun i _ => n - (intOf i).toNat)
                case atStart => exact ⟨0, by omega, rfl, by rw [Nat.add_zero, downMix_start (by rw [HNL2.out]; exact hlt)]; exact HO3.out, HK3.out⟩
                case round =>
                  obtain ⟨k, hk, rfl, hom, hkp⟩ := hrel
                  by_cases hlk : k < n - (col + 1)
                  · have hin : col + 1 + k < n := by omega
                    have hVM := HVM2.out.downMix (col := col) (k := col + 1 + k) (back := u) HP.out (by rw [HNL2.out]; exact hlt)
                    obtain ⟨row, bi, ci, hmi, hrl, hrv, hix, hfi⟩ := hom.cellAt hVM hin
                    obtain ⟨hvi, hci, hIi, hIAi⟩ := hix hl1
                    obtain ⟨rowt, bt, ct, hmt, hrlt, hrvt, htx, hft⟩ := hom.cellAt hVM hlt
                    obtain ⟨hvt, hct, hIt, hIAt⟩ := htx hl1
                    have hbne : bt ≠ bi := hom.apart (i := col) (j := col + 1 + k) (by omega) hvt hvi
                    rw [mix_get _ _ _ (downM_len p N col u) (by rw [downM_len, HNL2.out]; exact hin)] at hmi
                    rw [downMix_low (by rw [HNL2.out]; exact hlt) (Nat.le_refl _)] at hmt
                    obtain ⟨x, hx, hxc⟩ := hIAi.cell col hlt
                    rw [Nat.zero_add] at hxc
                    have hxb' := numB_bd (hrv x (List.mem_of_getElem? hx))
                    have hmb2 := mul_bd hxb'.1 (by omega) hub.1 (by omega)
                    have hat : at2 N (col + 1 + k) col = x := at2_of hmi hx
                    obtain ⟨t, ht⟩ : ∃ t, x * u % p = t := ⟨_, rfl⟩
                    have HTN := Lib.hid (show numB p t = true by rw [← ht]; exact numB_emod HP.out _)
                    have HSR := Lib.hid (show (downM p N col u)[col + 1 + k]? = some (subRow p t row rowt) by
                      rw [downM_get _ _ _ _ _ (by rw [HNL2.out]; exact hin)]; unfold downRow; rw [if_neg (by omega), hat, getD_of hmi, getD_of hmt, ht])
                    have HO := Lib.hid hom
                    have HKP := Lib.hid hkp
                    have HMI := Lib.hid hmi
                    have HVI := Lib.hid hvi
                    have HRL := Lib.hid hrl
                    have HRV := Lib.hid hrv
                    have HRVT := Lib.hid hrvt
                    have HRLT := Lib.hid hrlt
                    have HII := Lib.hid hIi
                    have HIT := Lib.hid hIAt
                    have HT := Lib.hid ht
                    clear hom hkp hmi hmt hvi hvt hrl hrv hrlt hrvt hIi hIt hIAi hIAt hx hat hix htx hVM ht
                    go_wp2_with (fail)
                    refine wp_quiet_tail 14 (by kernel_rfl) (by kernel_rfl) ?_
                    simp only [List.take_succ_cons, List.take_zero, List.drop_succ_cons, List.drop_zero]
                    repeat (go_big_quiet_step (fail))
                    refine wpQuiet_nil ?_
                    intro _ hw'
                    obtain ⟨nz, hw''⟩ := hw'
                    subst hw''
                    go_wp2_with (fail)
                    rw [HT.out]
                    refine (takeRow_any p t w.heap.size _ n ci row _ ct bt 0 rowt _ (owns_keep HII.out (drewN_keep (S := fun _ => False) _ _) (fun _ _ h => h)) (HIT.out.drewN ⟨nz, rfl⟩) (fun q hq => by simp [Value.ownBlock] at hq; omega) HTN.out HRV.out HRVT.out (by omega)).mono ?_
                    rintro e w5 ⟨rfl, hI5, hK5⟩
                    have hO5 := (HO.out.drewN nz).setRow (by rw [mix_get _ _ _ (downM_len p N col u) (by rw [downM_len, HNL2.out]; exact hin)]; exact HMI.out) (by rw [HRL.out]; exact HVI.out) (subRow_len p t row rowt (by rw [HRL.out, HRLT.out])) (by rw [HRL.out]; exact hI5) (by rw [HRL.out]; exact hK5)
                    rw [set_step _ _ (col + 1 + k) _ (downM_len _ _ _ _) HSR.out] at hO5
                    have HO5 := Lib.hid hO5
                    have HK5 := Lib.hid ((HKP.out.drewN nz).trans (hK5.mono (T := fun q => w.heap.size ≤ q ∧ q < w1.heap.size) (fun q _ hq => HO.out.foot (col + 1 + k) _ q HVI.out hq)))
                    clear hO5 hI5 hK5
                    go_wp2_with (fail)
                    go_roundw
                    case rel => exact ⟨k + 1, by omega, by go_num, by rw [← Nat.add_assoc]; exact HO5.out, HK5.out⟩
                    case measure => simp [intOf]; omega
                  · obtain rfl : k = n - (col + 1) := by omega
                    rw [show col + 1 + (n - (col + 1)) = n by omega, mixDone (by rw [downM_len]; exact HNL2.out) HNL2.out] at hom
                    have HO5 := Lib.hid hom
                    have HK5 := Lib.hid hkp
                    clear hom hkp
                    go_wp2_with (fail)
                    go_roundw
                    case rel => exact ⟨col + 1, _, _, vs', by omega, by go_num, rfl, HDE2.out, HO5.out, HK5.out⟩
                    case measure => simp [intOf]; omega
            · have hqr : ((r : Int) != (col : Int)) = true := neInt hrc
              have HDE1 := Lib.hid (show detE p M (col + 1) = some (downM p (swapM N r col) col (invM p (at2 (swapM N r col) col col)), -d % p * at2 (swapM N r col) col col % p) by rw [detE_step HDN.out, detStep_some hsome, if_neg hrc])
              have HNZ1 := Lib.hid hf3
              obtain ⟨rowR, bk, ck, hmR, hrlR, hrvR, hRx, hfR⟩ := HO.out.cellAt HV.out hrn
              obtain ⟨hvR, hcR, hIR, hIAR⟩ := hRx hl1
              obtain ⟨rowT, bT, cT, hmT, hrlT, hrvT, hTx, hfT⟩ := HO.out.cellAt HV.out hlt
              obtain ⟨hvT, hcT, hIT, hIAT⟩ := hTx hl1
              obtain ⟨hO2, hK2⟩ := HO.out.swapped' hrn hlt hvR hvT
              obtain ⟨v2, hv2⟩ : ∃ v2, (wo.setCell ⟨g, r, none⟩ (.slice (some ⟨bT, 0, none⟩) n cT)).cell? ⟨g, col, none⟩ = some v2 := ⟨_, (World.cell?_setCell_other _ _ _ _ (fun h => hrc (congrArg Addr.off h))).trans hcT⟩
              obtain ⟨N2, hN2⟩ : ∃ N2, swapM N r col = N2 := ⟨_, rfl⟩
              obtain ⟨vs2, hvs2⟩ : ∃ vs2, swapV vs' r col = vs2 := ⟨_, rfl⟩
              obtain ⟨d2, hd2⟩ : ∃ d2, (p - d) % p = d2 := ⟨_, rfl⟩
              have hd0 : 0 ≤ d2 := hd2 ▸ Int.emod_nonneg _ (by omega)
              have hd1 : d2 < p := hd2 ▸ Int.emod_lt_of_pos _ (by omega)
              have hd3 : -d % p = d2 := by rw [← hd2, Int.sub_eq_add_neg, Int.add_emod_left]
              rw [hN2] at hO2
              rw [hvs2] at hO2
              rw [hN2, hd3] at HDE1
              have HDE := HDE1
              have HVM2 := Lib.hid (show VM p n N2 from hN2 ▸ HV.out.swap (i := r) (j := col) (by rw [HNL.out]; exact hrn) (by rw [HNL.out]; exact hlt))
              have HNL2 := Lib.hid (show N2.length = n by rw [← hN2, swapM_len]; exact HNL.out)
              have HNZ := Lib.hid (show at2 N2 col col ≠ 0 by
                have e2 : at2 (swapM N r col) col col = at2 N r col := by unfold at2; rw [getD_congr (swapM_at (by rw [HNL.out]; exact hrn) (by rw [HNL.out]; exact hlt))]
                rw [← hN2, e2]; exact HNZ1.out)
              have HO2' := Lib.hid hO2
              have HK2' := Lib.hid (HK.out.trans (hK2.mono (T := fun q => w.heap.size ≤ q ∧ q < w1.heap.size) (fun q _ hq => by rw [hq]; exact ⟨(HOF.out.om.out.lt g rfl).1, (HOF.out.om.out.lt g rfl).2⟩)))
              have HD2 := Lib.hid hd2
              clear HDE1 HNZ1 hmR hrlR hrvR hRx hvR hIR hIAR hmT hrlT hrvT hTx hvT hIT hIAT hO2 hK2 hN2 hvs2 hd2 hd3 hsome hf1 hf2' hf3 hrc
              go_wp2_with (fail)
              go_region
              go_wp2_with (fail)
              refine (negative_is HD2.out _ hpb.1 hpb.2 hdb.1 hdb.2.1).mono ?_
              rintro e w3 ⟨rfl, rfl⟩
              obtain ⟨w2, hw2⟩ : ∃ w2, w2 = (((wo.setCell ⟨g, r, none⟩ (.slice (some ⟨bT, 0, none⟩) n cT)).setCell ⟨g, col, none⟩ (.slice (some ⟨bk, 0, none⟩) n ck)).drew) := ⟨_, rfl⟩
              rw [← hw2]
              have HO2 := Lib.hid (show OMF w2 w.heap.size w1.heap.size g n c1 N2 vs2 from hw2 ▸ HO2'.out.drewN 1)
              have HK2 := Lib.hid (show Keep (fun q => w.heap.size ≤ q ∧ q < w1.heap.size) w1 w2 from hw2 ▸ HK2'.out.drewN 1)
              clear hw2 hv2 hcR hcT hfR hfT
              obtain ⟨row2, b2, c2, hm2, hrl2, hrv2, h2x, hf2⟩ := HO2.out.cellAt HVM2.out hlt
              obtain ⟨hv2, hc2, hI2, hIA2⟩ := h2x hl1
              obtain ⟨x2, hx2, hxc2⟩ := hIA2.cell col hlt
              rw [Nat.zero_add] at hxc2
              have hxn := hrv2 x2 (List.mem_of_getElem? hx2)
              have hxb := numB_bd hxn
              have hat2 : at2 N2 col col = x2 := at2_of hm2 hx2
              have hx20 : x2 ≠ 0 := by rw [← hat2]; exact HNZ.out
              have hmb := mul_bd hd0 (by omega) hxb.1 (by omega)
              obtain ⟨u, hu⟩ : ∃ u, invM p x2 = u := ⟨_, rfl⟩
              have hnb : numBack p x2 = u := by unfold numBack; rw [if_pos ⟨hxn, hx20⟩, hu]
              have hun : numB p u = true := by rw [← hu]; exact numB_mk HP.out (inv_bd HP.out).1 (inv_bd HP.out).2
              have hub := numB_bd hun
              have HDE2 := Lib.hid (show detE p M (col + 1) = some (downM p N2 col u, d2 * x2 % p) by rw [HDE.out, hat2, hu])
              have HNB := Lib.hid hnb
              clear hm2 hrl2 hrv2 h2x hv2 hI2 hIA2 hx2 hxn hat2 hu hnb HDE HNZ hun
              go_wp2_with (fail)
              refine (implNumBack p x2 _).mono ?_
              rintro e w3 ⟨rfl, rfl⟩
              rw [HNB.out]
              have hcapn := HO2.out.cap
              have HO3 := HO2
              have HK3 := HK2
              go_wp2_with (fail)
              · rw [← h]
                have hz : n - c1 = 0 := by omega
                have hz2 : col + 1 = n := by omega
                clear h
                go_loopw [83] (fun i wi => ∃ k : Nat, k ≤ n - c1 ∧ i = .int .i64 k ∧ OMF wi w.heap.size w1.heap.size g n c1 ((downM p N2 col u).take (col + 1 + k) ++ N2.drop (col + 1 + k)) vs2 ∧ Keep (fun q => w.heap.size ≤ q ∧ q < w1.heap.size) w1 wi) (fun i _ => n - (intOf i).toNat)
                case atStart => exact ⟨0, by omega, rfl, by rw [Nat.add_zero, downMix_start (by rw [HNL2.out]; exact hlt)]; exact HO3.out, HK3.out⟩
                case round =>
                  obtain ⟨k, hk, rfl, hom, hkp⟩ := hrel
                  by_cases hlk : k < n - c1
                  · omega
                  · obtain rfl : k = 0 := by omega
                    rw [show col + 1 + 0 = n by omega, mixDone (by rw [downM_len]; exact HNL2.out) HNL2.out] at hom
                    have HO5 := Lib.hid hom
                    have HK5 := Lib.hid hkp
                    clear hom hkp
                    go_wp2_with (fail)
                    go_roundw
                    case rel => exact ⟨col + 1, _, _, vs2, by omega, by go_num, rfl, HDE2.out, HO5.out, HK5.out⟩
                    case measure => simp [intOf]; omega
              · go_loopw [83] (fun i wi => ∃ k : Nat, k ≤ n - (col + 1) ∧ i = .int .i64 k ∧ OMF wi w.heap.size w1.heap.size g n c1 ((downM p N2 col u).take (col + 1 + k) ++ N2.drop (col + 1 + k)) vs2 ∧ Keep (fun q => w.heap.size ≤ q ∧ q < w1.heap.size) w1 wi) (fun i _ => n - (intOf i).toNat)
                case atStart => exact ⟨0, by omega, rfl, by rw [Nat.add_zero, downMix_start (by rw [HNL2.out]; exact hlt)]; exact HO3.out, HK3.out⟩
                case round =>
                  obtain ⟨k, hk, rfl, hom, hkp⟩ := hrel
                  by_cases hlk : k < n - (col + 1)
                  · have hin : col + 1 + k < n := by omega
                    have hVM := HVM2.out.downMix (col := col) (k := col + 1 + k) (back := u) HP.out (by rw [HNL2.out]; exact hlt)
                    obtain ⟨row, bi, ci, hmi, hrl, hrv, hix, hfi⟩ := hom.cellAt hVM hin
                    obtain ⟨hvi, hci, hIi, hIAi⟩ := hix hl1
                    obtain ⟨rowt, bt, ct, hmt, hrlt, hrvt, htx, hft⟩ := hom.cellAt hVM hlt
                    obtain ⟨hvt, hct, hIt, hIAt⟩ := htx hl1
                    have hbne : bt ≠ bi := hom.apart (i := col) (j := col + 1 + k) (by omega) hvt hvi
                    rw [mix_get _ _ _ (downM_len p N2 col u) (by rw [downM_len, HNL2.out]; exact hin)] at hmi
                    rw [downMix_low (by rw [HNL2.out]; exact hlt) (Nat.le_refl _)] at hmt
                    obtain ⟨x, hx, hxc⟩ := hIAi.cell col hlt
                    rw [Nat.zero_add] at hxc
                    have hxb' := numB_bd (hrv x (List.mem_of_getElem? hx))
                    have hmb2 := mul_bd hxb'.1 (by omega) hub.1 (by omega)
                    have hat : at2 N2 (col + 1 + k) col = x := at2_of hmi hx
                    obtain ⟨t, ht⟩ : ∃ t, x * u % p = t := ⟨_, rfl⟩
                    have HTN := Lib.hid (show numB p t = true by rw [← ht]; exact numB_emod HP.out _)
                    have HSR := Lib.hid (show (downM p N2 col u)[col + 1 + k]? = some (subRow p t row rowt) by
                      rw [downM_get _ _ _ _ _ (by rw [HNL2.out]; exact hin)]; unfold downRow; rw [if_neg (by omega), hat, getD_of hmi, getD_of hmt, ht])
                    have HO := Lib.hid hom
                    have HKP := Lib.hid hkp
                    have HMI := Lib.hid hmi
                    have HVI := Lib.hid hvi
                    have HRL := Lib.hid hrl
                    have HRV := Lib.hid hrv
                    have HRVT := Lib.hid hrvt
                    have HRLT := Lib.hid hrlt
                    have HII := Lib.hid hIi
                    have HIT := Lib.hid hIAt
                    have HT := Lib.hid ht
                    clear hom hkp hmi hmt hvi hvt hrl hrv hrlt hrvt hIi hIt hIAi hIAt hx hat hix htx hVM ht
                    go_wp2_with (fail)
                    refine wp_quiet_tail 14 (by kernel_rfl) (by kernel_rfl) ?_
                    simp only [List.take_succ_cons, List.take_zero, List.drop_succ_cons, List.drop_zero]
                    repeat (go_big_quiet_step (fail))
                    refine wpQuiet_nil ?_
                    intro _ hw'
                    obtain ⟨nz, hw''⟩ := hw'
                    subst hw''
                    go_wp2_with (fail)
                    rw [HT.out]
                    refine (takeRow_any p t w.heap.size _ n ci row _ ct bt 0 rowt _ (owns_keep HII.out (drewN_keep (S := fun _ => False) _ _) (fun _ _ h => h)) (HIT.out.drewN ⟨nz, rfl⟩) (fun q hq => by simp [Value.ownBlock] at hq; omega) HTN.out HRV.out HRVT.out (by omega)).mono ?_
                    rintro e w5 ⟨rfl, hI5, hK5⟩
                    have hO5 := (HO.out.drewN nz).setRow (by rw [mix_get _ _ _ (downM_len p N2 col u) (by rw [downM_len, HNL2.out]; exact hin)]; exact HMI.out) (by rw [HRL.out]; exact HVI.out) (subRow_len p t row rowt (by rw [HRL.out, HRLT.out])) (by rw [HRL.out]; exact hI5) (by rw [HRL.out]; exact hK5)
                    rw [set_step _ _ (col + 1 + k) _ (downM_len _ _ _ _) HSR.out] at hO5
                    have HO5 := Lib.hid hO5
                    have HK5 := Lib.hid ((HKP.out.drewN nz).trans (hK5.mono (T := fun q => w.heap.size ≤ q ∧ q < w1.heap.size) (fun q _ hq => HO.out.foot (col + 1 + k) _ q HVI.out hq)))
                    clear hO5 hI5 hK5
                    go_wp2_with (fail)
                    go_roundw
                    case rel => exact ⟨k + 1, by omega, by go_num, by rw [← Nat.add_assoc]; exact HO5.out, HK5.out⟩
                    case measure => simp [intOf]; omega
                  · obtain rfl : k = n - (col + 1) := by omega
                    rw [show col + 1 + (n - (col + 1)) = n by omega, mixDone (by rw [downM_len]; exact HNL2.out) HNL2.out] at hom
                    have HO5 := Lib.hid hom
                    have HK5 := Lib.hid hkp
                    clear hom hkp
                    go_wp2_with (fail)
                    go_roundw
                    case rel => exact ⟨col + 1, _, _, vs2, by omega, by go_num, rfl, HDE2.out, HO5.out, HK5.out⟩
                    case measure => simp [intOf]; omega
        · obtain rfl : col = n := by omega
          have HR0 := Lib.hid (show detR p M = d by rw [HR.out]; exact detV_some (N := N) (by rw [HML.out]; exact HDN.out))
          go_wp2_with (fail)
          go_ret
          exact ⟨by rw [HR0.out]; rfl, HB.out.trans (HK.out.below (B := w.heap.size) hsz1 (fun q hq => hq.1))⟩
    · have hq : ((n : Int) != (l0 : Int)) = true := neInt hsq
      have HV := Lib.hid hv
      have HR := Lib.hid (show detR p M = -1 from detR_odd (by rw [hl0, hL]; exact hsq))
      clear hv hvm hp hL hrows hl0
      go_enter Try.func53, Try.ntmps53
      go_wp2_with (fail)
      refine (implMatValid p _ n c b o M _ H.out).mono ?_
      rintro e w1 ⟨rfl, rfl⟩
      rw [HV.out]
      go_wp2_with (fail)
      go_ret
      exact ⟨by rw [HR.out]; rfl, Below.refl _ _⟩
end Go.Proofs.Ytdecaokngedghaa
namespace Go.Proofs.Ytdecaokngedghaa
open Go.RowKit
set_option maxRecDepth 100000 in
set_option maxHeartbeats 1600000 in
theorem specMatDet (p : Int) (A : Option Addr) (n c b o : Nat) (M : List (List Int)) (w : World) (h : RA w A n b o M) :
    Calls Try.prog 55 #[.int .i64 p, .slice A n c] w (IntBelow (detR p M) w) := by
  have hbig := h.big
  have H := Lib.hid h
  clear h
  rcases hv : matB p M
  · have HV := Lib.hid hv
    have HR := Lib.hid (detR_no hv)
    clear hv
    go_enter Try.func55, Try.ntmps55
    go_wp2_with (fail)
    refine (specMatValid p A n c b o M _ H.out).mono ?_
    rintro e w1 ⟨rfl, m, rfl⟩
    rw [HV.out]
    go_wp2_with (fail)
    go_ret
    exact ⟨by rw [HR.out]; rfl, below_undraw (Below.refl _ _)⟩
  · obtain ⟨hn1, hn8, hl1, hl8, hrows⟩ := matB_true hv
    have hL := H.out.len
    obtain ⟨l0, hl0⟩ : ∃ l0, (M.headD []).length = l0 := ⟨_, rfl⟩
    have hvm := VM_of_mat hv
    have hp := prime_of_mat hv
    rw [hl0] at hl1 hl8 hrows hvm
    rw [hL] at hn1 hn8
    have HRW := Lib.hid (show ∀ row ∈ M, row.length = l0 from fun row hr => (hrows row hr).1)
    obtain ⟨row0, A0, c0, b0, o0, hm0, hc0, hI0⟩ := H.out.row 0 (by omega)
    have hr0 := HRW.out row0 (List.mem_of_getElem? hm0)
    rw [hr0, Nat.add_zero] at hc0
    obtain rfl := H.out.adr (by omega)
    clear hm0 hI0 hr0
    by_cases hsq : n = l0
    · subst hsq
      have hR : detR p M = detV p M := detR_yes hv (by rw [hl0, hL])
      have hq : ((n : Int) != (n : Int)) = false := by simp
      have hpb := prime_ge hp
      have HV := Lib.hid hv
      have HR := Lib.hid hR
      have HVM := Lib.hid hvm
      have HP := Lib.hid hp
      have HML := Lib.hid hL
      clear hv hR hvm hp hL hrows hl0
      go_enter Try.func55, Try.ntmps55
      go_wp2_with (fail)
      refine (specMatValid p _ n c b o M _ H.out).mono ?_
      rintro e w1 ⟨rfl, md, rfl⟩
      rw [HV.out]
      go_wp2_with (fail)
      refine (specCopy _ n c b o n M _ (H.out.seen md) (by omega) hl1 (by omega) HRW.out).mono ?_
      rintro e w1 ⟨A1, c1, vs, rfl, hO, hB⟩
      obtain ⟨g, hg⟩ := hO.addr hn1
      subst hg
      have hO' : OM w1 w.heap.size (some ⟨g, 0, none⟩) n c1 M vs := hO
      have HOF := Lib.hid (OMF.mk hO' (hO'.out.lt g rfl).2 hO'.foot)
      have hsz1 := hB.size
      have HB := Lib.hid (below_undraw hB)
      have h1B := numB_bd (numB_one HP.out)
      clear hO hB hO'
      go_wp2_with (fail)
      go_loopw [6, 7] (fun dv i wr => ∃ (col : Nat) (N : List (List Int)) (d : Int) (vs' : List Value), col ≤ n ∧ i = .int .i64 col ∧ dv = .int .i64 d ∧ detE p M col = some (N, d) ∧ OMF wr w.heap.size w1.heap.size g n c1 N vs' ∧ Keep (fun q => w.heap.size ≤ q ∧ q < w1.heap.size) w1 wr) (fun _ i _ => n - (intOf i).toNat)
      case atStart => exact ⟨0, M, 1, vs, by omega, rfl, rfl, rfl, HOF.out, Keep.refl _ _⟩
      case round =>
        obtain ⟨col, N, d, vs', hcol, rfl, rfl, hde, hom, hkp⟩ := hrel
        obtain ⟨wo, rfl⟩ : ∃ wo : World, wo = wr := ⟨_, rfl⟩
        obtain ⟨hNl, hNV, hdB⟩ := detE_inv HP.out HVM.out col (by rw [HML.out]; exact hcol) N d hde
        rw [HML.out] at hNl
        have HDN := Lib.hid hde
        have HO := Lib.hid hom
        have HK := Lib.hid hkp
        have HV := Lib.hid hNV
        have HNL := Lib.hid hNl
        have hdb := numB_bd hdB
        clear hde hom hkp hNV hNl hdB
        by_cases hlt : col < n
        · go_wp2_with (fail)
          go_loop [8] (fun i => ∃ k : Nat, col ≤ k ∧ k ≤ n ∧ i = .int .i64 k ∧ Hid (∀ q, col ≤ q → q < k → at2 N q col = 0)) (fun i => n - (intOf i).toNat)
          case atStart => exact ⟨col, Nat.le_refl _, by omega, rfl, fun q h1 h2 => absurd h2 (by omega)⟩
          case round =>
            obtain ⟨r, hk0, hk, rfl, hz⟩ := hrel
            by_cases hrn : r < n
            · obtain ⟨rowR, bk, ck, hmR, hrlR, hrvR, hRx, hfR⟩ := HO.out.cellAt HV.out hrn
              obtain ⟨hvR, hcR, hIR, hIAR⟩ := hRx hl1
              obtain ⟨x, hx, hxc⟩ := hIAR.cell col hlt
              rw [Nat.zero_add] at hxc
              have HAT := Lib.hid (at2_of hmR hx)
              have HVR := Lib.hid hvR
              clear hRx hmR hrlR hrvR hvR hIR hIAR hx
              by_cases hx0 : x = 0
              · have hb : (x == 0) = true := by simp [hx0]
                have HX0 := Lib.hid hx0
                clear hx0
                go_wp2_with (fail)
                go_round
                case rel => exact ⟨r + 1, by omega, by omega, by go_num, fun q h1 h2 => if e : q = r then by rw [e, HAT.out, HX0.out] else hz.out q h1 (by omega)⟩
                case measure => simp [intOf]; omega
              · have hb : (x == 0) = false := by simp [hx0]
                have HSM := Lib.hid (show firstW N col (N.length - col) col = some r from firstW_is hk0 (by rw [HNL.out]; omega) (by rw [HAT.out]; exact hx0) hz.out)
                have hqn : ((r : Int) == (n : Int)) = false := by rw [beq_eq_false_iff_ne]; omega
                have HX0 := Lib.hid hx0
                clear hx0
                by_cases hrc : r = col
                · obtain rfl : col = r := hrc.symm
                  have hqr : ((col : Int) != (col : Int)) = false := by simp
                  have hd0 := hdb.1
                  have HDE := Lib.hid (show detE p M (col + 1) = some (downM p N col (invM p (at2 N col col)), d * at2 N col col % p) by rw [detE_step HDN.out, detStep_some HSM.out, swapM_self N col (by rw [HNL.out]; exact hlt), if_pos rfl])
                  have HO2 := HO
                  have HVM2 := HV
                  have HK2 := HK
                  have HNL2 := HNL
                  have HNZ := Lib.hid (show at2 N col col ≠ 0 by rw [HAT.out]; exact HX0.out)
                  clear hrc hcR hfR hxc HAT HVR HSM HDN
                  obtain ⟨row2, b2, c2, hm2, hrl2, hrv2, h2x, hf2⟩ := HO2.out.cellAt HVM2.out hlt
                  obtain ⟨hv2, hc2, hI2, hIA2⟩ := h2x hl1
                  obtain ⟨x2, hx2, hxc2⟩ := hIA2.cell col hlt
                  rw [Nat.zero_add] at hxc2
                  have hxn := hrv2 x2 (List.mem_of_getElem? hx2)
                  have hxb := numB_bd hxn
                  have hat2 : at2 N col col = x2 := at2_of hm2 hx2
                  have hb2 : (x2 == 0) = false := by have h9 := HNZ.out; rw [hat2] at h9; simp [h9]
                  have hmb := mul_bd hd0 (by omega) hxb.1 (by omega)
                  obtain ⟨u, hu⟩ : ∃ u, invM p x2 = u := ⟨_, rfl⟩
                  have hun : numB p u = true := by rw [← hu]; exact numB_mk HP.out (inv_bd HP.out).1 (inv_bd HP.out).2
                  have hub := numB_bd hun
                  have HDE2 := Lib.hid (show detE p M (col + 1) = some (downM p N col u, d * x2 % p) by rw [HDE.out, hat2, hu])
                  have HU := Lib.hid hu
                  clear hm2 hrl2 hrv2 h2x hv2 hI2 hIA2 hx2 hxn hat2 hu HDE hun HNZ
                  go_wp2_with (fail)
                  refine (specBack p x2 _ HP.out hxb.1 hxb.2.1).mono ?_
                  rintro e w3 ⟨rfl, rfl⟩
                  rw [HU.out]
                  go_wp2_with (fail)
                  go_loopw [11] (fun i wi => ∃ k : Nat, k ≤ n - (col + 1) ∧ i = .int .i64 ((col + 1 + k : Nat) : Int) ∧ OMF wi w.heap.size w1.heap.size g n c1 ((downM p N col u).take (col + 1 + k) ++ N.drop (col + 1 + k)) vs' ∧ Keep (fun q => w.heap.size ≤ q ∧ q < w1.heap.size) w1 wi) (fun i _ => n - (intOf i).toNat)
                  case atStart => exact ⟨0, by omega, by go_num, by rw [Nat.add_zero, downMix_start (by rw [HNL2.out]; exact hlt)]; exact HO2.out, HK2.out⟩
                  case round =>
                    obtain ⟨k, hk, rfl, hom, hkp⟩ := hrel
                    obtain ⟨ri, hri⟩ : ∃ ri, col + 1 + k = ri := ⟨_, rfl⟩
                    simp only [hri] at hom ⊢
                    by_cases hin : ri < n
                    · have hVM := HVM2.out.downMix (col := col) (k := ri) (back := u) HP.out (by rw [HNL2.out]; exact hlt)
                      have HVX := Lib.hid hVM
                      obtain ⟨row, bi, ci, hmi, hrl, hrv, hix, hfi⟩ := hom.cellAt hVM hin
                      obtain ⟨hvi, hci, hIi, hIAi⟩ := hix hl1
                      obtain ⟨rowt, bt, ct, hmt, hrlt, hrvt, htx, hft⟩ := hom.cellAt hVM hlt
                      obtain ⟨hvt, hct, hIt, hIAt⟩ := htx hl1
                      rw [mix_get _ _ _ (downM_len p N col u) (by rw [downM_len, HNL2.out]; exact hin)] at hmi
                      have hmt0 := hmt
                      rw [downMix_low (by rw [HNL2.out]; exact hlt) (Nat.le_refl _)] at hmt
                      obtain ⟨x, hx, hxc⟩ := hIAi.cell col hlt
                      rw [Nat.zero_add] at hxc
                      have hxb' := numB_bd (hrv x (List.mem_of_getElem? hx))
                      have hmb2 := mul_bd hxb'.1 (by omega) hub.1 (by omega)
                      have hat : at2 N ri col = x := at2_of hmi hx
                      obtain ⟨t, ht⟩ : ∃ t, x * u % p = t := ⟨_, rfl⟩
                      have htn : numB p t = true := by rw [← ht]; exact numB_emod HP.out _
                      have htb := numB_bd htn
                      have HSR := Lib.hid (show (downM p N col u)[ri]? = some (subRow p t row rowt) by
                        rw [downM_get _ _ _ _ _ (by rw [HNL2.out]; exact hin)]; unfold downRow; rw [if_neg (by omega), hat, getD_of hmi, getD_of hmt, ht])
                      have HO := Lib.hid hom
                      have HKP := Lib.hid hkp
                      have HMI := Lib.hid hmi
                      have HMT := Lib.hid hmt0
                      have HRL := Lib.hid hrl
                      have HRV := Lib.hid hrv
                      have HRVT := Lib.hid hrvt
                      have HRLT := Lib.hid hrlt
                      have HT := Lib.hid ht
                      clear hom hkp hmi hmt hmt0 hvi hvt hrl hrv hrlt hrvt hIi hIt hIAi hIAt hx hat hix htx hVM ht htn
                      go_wp2_with (fail)
                      rw [HT.out]
                      go_loopw [13] (fun i wi => ∃ s : Nat, s ≤ n ∧ i = .int .i64 s ∧ OMF wi w.heap.size w1.heap.size g n c1 (((downM p N col u).take ri ++ N.drop ri).set ri ((subRow p t row rowt).take s ++ row.drop s)) vs' ∧ Keep (fun q => w.heap.size ≤ q ∧ q < w1.heap.size) w1 wi) (fun i _ => n - (intOf i).toNat)
                      case atStart => exact ⟨0, by omega, rfl, by rw [List.take_zero, List.nil_append, List.drop_zero, set_same (by rw [mix_get _ _ _ (downM_len p N col u) (by rw [downM_len, HNL2.out]; exact hin)]; exact HMI.out)]; exact HO.out, HKP.out⟩
                      case round =>
                        obtain ⟨s, hs', rfl, hom, hkp⟩ := hrel
                        have hsl : (subRow p t row rowt).length = n := subRow_full HRL.out HRLT.out
                        have hVq := HVX.out.mixRow (i := ri) hsl HRL.out hs' (subRow_valid HP.out row rowt) HRV.out
                        obtain ⟨rowq, bq, cq, hmq, hrlq, hrvq, hqx, hfq⟩ := hom.cellAt hVq hin
                        obtain ⟨hvq, hcq, hIq, hIAq⟩ := hqx hl1
                        obtain ⟨rowt', bt', ct', hmt', hrlt', hrvt', htx', hft'⟩ := hom.cellAt hVq hlt
                        obtain ⟨hvt', hct', hIt', hIAt'⟩ := htx' hl1
                        have hml : ri < ((downM p N col u).take ri ++ N.drop ri).length := by simp [downM_len, HNL2.out]; omega
                        rw [List.getElem?_set_self hml] at hmq
                        obtain rfl := Option.some.inj hmq
                        rw [List.getElem?_set_ne (by omega), HMT.out] at hmt'
                        obtain rfl := Option.some.inj hmt'
                        by_cases hlq : s < n
                        · have hl := HRL.out
                          have hlt' := HRLT.out
                          have hxq : row[s]? = some (row[s]'(by omega)) := List.getElem?_eq_getElem (by omega)
                          obtain ⟨z, hz⟩ : ∃ z, row[s]'(by omega) = z := ⟨_, rfl⟩
                          rw [hz] at hxq
                          have hzb := numB_bd (HRV.out z (List.mem_of_getElem? hxq))
                          obtain ⟨z', hz', hzc⟩ := hIAq.cell s hlq
                          rw [mix_get _ _ _ (by rw [hsl]; omega) (by rw [hsl]; exact hlq), hxq] at hz'
                          obtain rfl := Option.some.inj hz'
                          obtain ⟨y, hy, hyc⟩ := hIAt'.cell s hlq
                          have hyb := numB_bd (HRVT.out y (List.mem_of_getElem? hy))
                          have hmb3 := mul_bd htb.1 (by omega) hyb.1 (by omega)
                          rw [Nat.zero_add] at hzc hyc
                          have hfz := World.ownsRow.frozenAt hIq s
                          obtain ⟨hO4, hK4⟩ := hom.store (List.getElem?_set_self hml) hrlq hvq hIq (q := s) ((z - t * y) % p)
                          rw [List.set_set, mix_set (by rw [hsl]; omega) (subRow_get hxq hy)] at hO4
                          have HO4 := Lib.hid hO4
                          have HK4 := Lib.hid (hkp.trans hK4)
                          obtain ⟨u', hu'⟩ : ∃ u', (z - t * y) % p = u' := ⟨_, rfl⟩
                          rw [hu'] at HO4 HK4
                          have HU' := Lib.hid hu'
                          clear hO4 hK4 hkp hom hVq hrlq hrvq hqx hvq hIq hIAq hl hxq hz hz' hy hml hsl hlt' hrlt' hrvt' htx' hvt' hIt' hIAt' hu'
                          go_wp2_with (fail)
                          refine wp_quiet_tail 25 (by kernel_rfl) (by kernel_rfl) ?_
                          simp only [List.take_succ_cons, List.take_zero, List.drop_succ_cons, List.drop_zero]
                          repeat (go_big_quiet_step ((go_at_call 72; exact quiet_same (l1Mod_is HU'.out _ hpb.1 hpb.2))))
                          refine wpQuiet_nil ?_
                          intro _ hw'
                          obtain ⟨nq, hw''⟩ := hw'
                          subst hw''
                          go_wp2_with (fail)
                          go_roundw
                          case rel => exact ⟨s + 1, by omega, by go_num, HO4.out.drewN _, HK4.out.drewN _⟩
                          case measure => simp [intOf]; omega
                        · obtain rfl : s = n := by omega
                          rw [mixDone hsl HRL.out, set_step _ _ ri _ (downM_len _ _ _ _) HSR.out] at hom
                          have HO5 := Lib.hid hom
                          have HK5 := Lib.hid hkp
                          clear hom hkp hVq hrlq hrvq hqx hvq hIq hIAq hml hsl hrlt' hrvt' htx' hvt' hIt' hIAt'
                          go_wp2_with (fail)
                          go_roundw
                          case rel => exact ⟨k + 1, by omega, by rw [← hri]; go_num, by rw [← Nat.add_assoc, hri]; exact HO5.out, HK5.out⟩
                          case measure => simp [intOf]; omega
                    · obtain rfl : ri = n := by omega
                      rw [mixDone (by rw [downM_len]; exact HNL2.out) HNL2.out] at hom
                      have HO5 := Lib.hid hom
                      have HK5 := Lib.hid hkp
                      clear hom hkp
                      go_wp2_with (fail)
                      go_roundw
                      case rel => exact ⟨col + 1, _, _, vs', by omega, by go_num, rfl, HDE2.out, HO5.out, HK5.out⟩
                      case measure => simp [intOf]; omega
                · have hqr : ((r : Int) != (col : Int)) = true := neInt hrc
                  obtain ⟨rowT, bT, cT, hmT, hrlT, hrvT, hTx, hfT⟩ := HO.out.cellAt HV.out hlt
                  obtain ⟨hvT, hcT, hIT, hIAT⟩ := hTx hl1
                  obtain ⟨hO2, hK2⟩ := HO.out.swapped' hrn hlt HVR.out hvT
                  obtain ⟨v2, hv2⟩ : ∃ v2, (wo.setCell ⟨g, r, none⟩ (.slice (some ⟨bT, 0, none⟩) n cT)).cell? ⟨g, col, none⟩ = some v2 := ⟨_, (World.cell?_setCell_other _ _ _ _ (fun h => hrc (congrArg Addr.off h))).trans hcT⟩
                  have HDE1 := Lib.hid (show detE p M (col + 1) = some (downM p (swapM N r col) col (invM p (at2 (swapM N r col) col col)), -d % p * at2 (swapM N r col) col col % p) by rw [detE_step HDN.out, detStep_some HSM.out, if_neg hrc])
                  obtain ⟨N2, hN2⟩ : ∃ N2, swapM N r col = N2 := ⟨_, rfl⟩
                  obtain ⟨vs2, hvs2⟩ : ∃ vs2, swapV vs' r col = vs2 := ⟨_, rfl⟩
                  obtain ⟨d2, hd2⟩ : ∃ d2, -d % p = d2 := ⟨_, rfl⟩
                  have hd0 : 0 ≤ d2 := hd2 ▸ Int.emod_nonneg _ (by omega)
                  have hd1 : d2 < p := hd2 ▸ Int.emod_lt_of_pos _ (by omega)
                  rw [hN2] at hO2
                  rw [hvs2] at hO2
                  rw [hN2, hd2] at HDE1
                  have HDE := HDE1
                  have HVM2 := Lib.hid (show VM p n N2 from hN2 ▸ HV.out.swap (i := r) (j := col) (by rw [HNL.out]; exact hrn) (by rw [HNL.out]; exact hlt))
                  have HNL2 := Lib.hid (show N2.length = n by rw [← hN2, swapM_len]; exact HNL.out)
                  have HNZ := Lib.hid (show at2 N2 col col ≠ 0 by
                    have e2 : at2 (swapM N r col) col col = at2 N r col := by unfold at2; rw [getD_congr (swapM_at (by rw [HNL.out]; exact hrn) (by rw [HNL.out]; exact hlt))]
                    rw [← hN2, e2, HAT.out]; exact HX0.out)
                  have HO2' := Lib.hid hO2
                  have HK2' := Lib.hid (HK.out.trans (hK2.mono (T := fun q => w.heap.size ≤ q ∧ q < w1.heap.size) (fun q _ hq => by rw [hq]; exact ⟨(HOF.out.om.out.lt g rfl).1, (HOF.out.om.out.lt g rfl).2⟩)))
                  have HD2 := Lib.hid hd2
                  clear HDE1 hmT hrlT hrvT hTx hvT hIT hIAT hO2 hK2 hN2 hvs2 hd2 hrc HAT HVR HSM HDN
                  go_wp2_with (fail)
                  refine (l1Mod_is HD2.out _ hpb.1 hpb.2).mono ?_
                  rintro e w3 ⟨rfl, rfl⟩
                  obtain ⟨w2, hw2⟩ : ∃ w2, w2 = (wo.setCell ⟨g, r, none⟩ (.slice (some ⟨bT, 0, none⟩) n cT)).setCell ⟨g, col, none⟩ (.slice (some ⟨bk, 0, none⟩) n ck) := ⟨_, rfl⟩
                  rw [← hw2]
                  have HO2 := Lib.hid (show OMF w2 w.heap.size w1.heap.size g n c1 N2 vs2 from hw2 ▸ HO2'.out)
                  have HK2 := Lib.hid (show Keep (fun q => w.heap.size ≤ q ∧ q < w1.heap.size) w1 w2 from hw2 ▸ HK2'.out)
                  clear hw2 hv2 hcR hcT hfR hfT hxc
                  obtain ⟨row2, b2, c2, hm2, hrl2, hrv2, h2x, hf2⟩ := HO2.out.cellAt HVM2.out hlt
                  obtain ⟨hv2, hc2, hI2, hIA2⟩ := h2x hl1
                  obtain ⟨x2, hx2, hxc2⟩ := hIA2.cell col hlt
                  rw [Nat.zero_add] at hxc2
                  have hxn := hrv2 x2 (List.mem_of_getElem? hx2)
                  have hxb := numB_bd hxn
                  have hat2 : at2 N2 col col = x2 := at2_of hm2 hx2
                  have hb2 : (x2 == 0) = false := by have h9 := HNZ.out; rw [hat2] at h9; simp [h9]
                  have hmb := mul_bd hd0 (by omega) hxb.1 (by omega)
                  obtain ⟨u, hu⟩ : ∃ u, invM p x2 = u := ⟨_, rfl⟩
                  have hun : numB p u = true := by rw [← hu]; exact numB_mk HP.out (inv_bd HP.out).1 (inv_bd HP.out).2
                  have hub := numB_bd hun
                  have HDE2 := Lib.hid (show detE p M (col + 1) = some (downM p N2 col u, d2 * x2 % p) by rw [HDE.out, hat2, hu])
                  have HU := Lib.hid hu
                  clear hm2 hrl2 hrv2 h2x hv2 hI2 hIA2 hx2 hxn hat2 hu HDE hun HNZ
                  go_wp2_with (fail)
                  refine (specBack p x2 _ HP.out hxb.1 hxb.2.1).mono ?_
                  rintro e w3 ⟨rfl, rfl⟩
                  rw [HU.out]
                  go_wp2_with (fail)
                  go_loopw [11] (fun i wi => ∃ k : Nat, k ≤ n - (col + 1) ∧ i = .int .i64 ((col + 1 + k : Nat) : Int) ∧ OMF wi w.heap.size w1.heap.size g n c1 ((downM p N2 col u).take (col + 1 + k) ++ N2.drop (col + 1 + k)) vs2 ∧ Keep (fun q => w.heap.size ≤ q ∧ q < w1.heap.size) w1 wi) (fun i _ => n - (intOf i).toNat)
                  case atStart => exact ⟨0, by omega, by go_num, by rw [Nat.add_zero, downMix_start (by rw [HNL2.out]; exact hlt)]; exact HO2.out, HK2.out⟩
                  case round =>
                    obtain ⟨k, hk, rfl, hom, hkp⟩ := hrel
                    obtain ⟨ri, hri⟩ : ∃ ri, col + 1 + k = ri := ⟨_, rfl⟩
                    simp only [hri] at hom ⊢
                    by_cases hin : ri < n
                    · have hVM := HVM2.out.downMix (col := col) (k := ri) (back := u) HP.out (by rw [HNL2.out]; exact hlt)
                      have HVX := Lib.hid hVM
                      obtain ⟨row, bi, ci, hmi, hrl, hrv, hix, hfi⟩ := hom.cellAt hVM hin
                      obtain ⟨hvi, hci, hIi, hIAi⟩ := hix hl1
                      obtain ⟨rowt, bt, ct, hmt, hrlt, hrvt, htx, hft⟩ := hom.cellAt hVM hlt
                      obtain ⟨hvt, hct, hIt, hIAt⟩ := htx hl1
                      rw [mix_get _ _ _ (downM_len p N2 col u) (by rw [downM_len, HNL2.out]; exact hin)] at hmi
                      have hmt0 := hmt
                      rw [downMix_low (by rw [HNL2.out]; exact hlt) (Nat.le_refl _)] at hmt
                      obtain ⟨x, hx, hxc⟩ := hIAi.cell col hlt
                      rw [Nat.zero_add] at hxc
                      have hxb' := numB_bd (hrv x (List.mem_of_getElem? hx))
                      have hmb2 := mul_bd hxb'.1 (by omega) hub.1 (by omega)
                      have hat : at2 N2 ri col = x := at2_of hmi hx
                      obtain ⟨t, ht⟩ : ∃ t, x * u % p = t := ⟨_, rfl⟩
                      have htn : numB p t = true := by rw [← ht]; exact numB_emod HP.out _
                      have htb := numB_bd htn
                      have HSR := Lib.hid (show (downM p N2 col u)[ri]? = some (subRow p t row rowt) by
                        rw [downM_get _ _ _ _ _ (by rw [HNL2.out]; exact hin)]; unfold downRow; rw [if_neg (by omega), hat, getD_of hmi, getD_of hmt, ht])
                      have HO := Lib.hid hom
                      have HKP := Lib.hid hkp
                      have HMI := Lib.hid hmi
                      have HMT := Lib.hid hmt0
                      have HRL := Lib.hid hrl
                      have HRV := Lib.hid hrv
                      have HRVT := Lib.hid hrvt
                      have HRLT := Lib.hid hrlt
                      have HT := Lib.hid ht
                      clear hom hkp hmi hmt hmt0 hvi hvt hrl hrv hrlt hrvt hIi hIt hIAi hIAt hx hat hix htx hVM ht htn
                      go_wp2_with (fail)
                      rw [HT.out]
                      go_loopw [13] (fun i wi => ∃ s : Nat, s ≤ n ∧ i = .int .i64 s ∧ OMF wi w.heap.size w1.heap.size g n c1 (((downM p N2 col u).take ri ++ N2.drop ri).set ri ((subRow p t row rowt).take s ++ row.drop s)) vs2 ∧ Keep (fun q => w.heap.size ≤ q ∧ q < w1.heap.size) w1 wi) (fun i _ => n - (intOf i).toNat)
                      case atStart => exact ⟨0, by omega, rfl, by rw [List.take_zero, List.nil_append, List.drop_zero, set_same (by rw [mix_get _ _ _ (downM_len p N2 col u) (by rw [downM_len, HNL2.out]; exact hin)]; exact HMI.out)]; exact HO.out, HKP.out⟩
                      case round =>
                        obtain ⟨s, hs', rfl, hom, hkp⟩ := hrel
                        have hsl : (subRow p t row rowt).length = n := subRow_full HRL.out HRLT.out
                        have hVq := HVX.out.mixRow (i := ri) hsl HRL.out hs' (subRow_valid HP.out row rowt) HRV.out
                        obtain ⟨rowq, bq, cq, hmq, hrlq, hrvq, hqx, hfq⟩ := hom.cellAt hVq hin
                        obtain ⟨hvq, hcq, hIq, hIAq⟩ := hqx hl1
                        obtain ⟨rowt', bt', ct', hmt', hrlt', hrvt', htx', hft'⟩ := hom.cellAt hVq hlt
                        obtain ⟨hvt', hct', hIt', hIAt'⟩ := htx' hl1
                        have hml : ri < ((downM p N2 col u).take ri ++ N2.drop ri).length := by simp [downM_len, HNL2.out]; omega
                        rw [List.getElem?_set_self hml] at hmq
                        obtain rfl := Option.some.inj hmq
                        rw [List.getElem?_set_ne (by omega), HMT.out] at hmt'
                        obtain rfl := Option.some.inj hmt'
                        by_cases hlq : s < n
                        · have hl := HRL.out
                          have hlt' := HRLT.out
                          have hxq : row[s]? = some (row[s]'(by omega)) := List.getElem?_eq_getElem (by omega)
                          obtain ⟨z, hz⟩ : ∃ z, row[s]'(by omega) = z := ⟨_, rfl⟩
                          rw [hz] at hxq
                          have hzb := numB_bd (HRV.out z (List.mem_of_getElem? hxq))
                          obtain ⟨z', hz', hzc⟩ := hIAq.cell s hlq
                          rw [mix_get _ _ _ (by rw [hsl]; omega) (by rw [hsl]; exact hlq), hxq] at hz'
                          obtain rfl := Option.some.inj hz'
                          obtain ⟨y, hy, hyc⟩ := hIAt'.cell s hlq
                          have hyb := numB_bd (HRVT.out y (List.mem_of_getElem? hy))
                          have hmb3 := mul_bd htb.1 (by omega) hyb.1 (by omega)
                          rw [Nat.zero_add] at hzc hyc
                          have hfz := World.ownsRow.frozenAt hIq s
                          obtain ⟨hO4, hK4⟩ := hom.store (List.getElem?_set_self hml) hrlq hvq hIq (q := s) ((z - t * y) % p)
                          rw [List.set_set, mix_set (by rw [hsl]; omega) (subRow_get hxq hy)] at hO4
                          have HO4 := Lib.hid hO4
                          have HK4 := Lib.hid (hkp.trans hK4)
                          obtain ⟨u', hu'⟩ : ∃ u', (z - t * y) % p = u' := ⟨_, rfl⟩
                          rw [hu'] at HO4 HK4
                          have HU' := Lib.hid hu'
                          clear hO4 hK4 hkp hom hVq hrlq hrvq hqx hvq hIq hIAq hl hxq hz hz' hy hml hsl hlt' hrlt' hrvt' htx' hvt' hIt' hIAt' hu'
                          go_wp2_with (fail)
                          refine wp_quiet_tail 25 (by kernel_rfl) (by kernel_rfl) ?_
                          simp only [List.take_succ_cons, List.take_zero, List.drop_succ_cons, List.drop_zero]
                          repeat (go_big_quiet_step ((go_at_call 72; exact quiet_same (l1Mod_is HU'.out _ hpb.1 hpb.2))))
                          refine wpQuiet_nil ?_
                          intro _ hw'
                          obtain ⟨nq, hw''⟩ := hw'
                          subst hw''
                          go_wp2_with (fail)
                          go_roundw
                          case rel => exact ⟨s + 1, by omega, by go_num, HO4.out.drewN _, HK4.out.drewN _⟩
                          case measure => simp [intOf]; omega
                        · obtain rfl : s = n := by omega
                          rw [mixDone hsl HRL.out, set_step _ _ ri _ (downM_len _ _ _ _) HSR.out] at hom
                          have HO5 := Lib.hid hom
                          have HK5 := Lib.hid hkp
                          clear hom hkp hVq hrlq hrvq hqx hvq hIq hIAq hml hsl hrlt' hrvt' htx' hvt' hIt' hIAt'
                          go_wp2_with (fail)
                          go_roundw
                          case rel => exact ⟨k + 1, by omega, by rw [← hri]; go_num, by rw [← Nat.add_assoc, hri]; exact HO5.out, HK5.out⟩
                          case measure => simp [intOf]; omega
                    · obtain rfl : ri = n := by omega
                      rw [mixDone (by rw [downM_len]; exact HNL2.out) HNL2.out] at hom
                      have HO5 := Lib.hid hom
                      have HK5 := Lib.hid hkp
                      clear hom hkp
                      go_wp2_with (fail)
                      go_roundw
                      case rel => exact ⟨col + 1, _, _, vs2, by omega, by go_num, rfl, HDE2.out, HO5.out, HK5.out⟩
                      case measure => simp [intOf]; omega
            · obtain rfl : r = n := by omega
              have hqn : ((r : Int) == (r : Int)) = true := by simp
              have HR0 := Lib.hid (show detR p M = 0 by rw [HR.out]; exact detV_none (c := col + 1) (by rw [detE_step HDN.out, detStep_none (firstW_not (fun q h1 h2 => hz.out q h1 (by rw [HNL.out] at h2; omega)))]) (by rw [HML.out]; omega))
              go_wp2_with (fail)
              go_ret
              exact ⟨by rw [HR0.out]; rfl, HB.out.trans (HK.out.below (B := w.heap.size) hsz1 (fun q hq => hq.1))⟩
        · obtain rfl : col = n := by omega
          have HR0 := Lib.hid (show detR p M = d by rw [HR.out]; exact detV_some (N := N) (by rw [HML.out]; exact HDN.out))
          go_wp2_with (fail)
          go_ret
          exact ⟨by rw [HR0.out]; rfl, HB.out.trans (HK.out.below (B := w.heap.size) hsz1 (fun q hq => hq.1))⟩
    · have hq : ((n : Int) != (l0 : Int)) = true := neInt hsq
      have HV := Lib.hid hv
      have HR := Lib.hid (show detR p M = -1 from detR_odd (by rw [hl0, hL]; exact hsq))
      clear hv hvm hp hL hrows hl0
      go_enter Try.func55, Try.ntmps55
      go_wp2_with (fail)
      refine (specMatValid p _ n c b o M _ H.out).mono ?_
      rintro e w1 ⟨rfl, md, rfl⟩
      rw [HV.out]
      go_wp2_with (fail)
      go_ret
      exact ⟨by rw [HR.out]; rfl, below_undraw (Below.refl _ _)⟩
end Go.Proofs.Ytdecaokngedghaa
namespace Go.Proofs.Ytdecaokngedghaa
open Go.RowKit
def detsL (p : Int) (T F : List Int) : List Int := (List.range 8).map fun i => detR p (sqrL p T F (i + 1))
def detsO (p : Int) (T F : List Int) : List Int := if recB p T F = true then detsL p T F else []
theorem detsL_len (p : Int) (T F : List Int) : (detsL p T F).length = 8 := by simp [detsL]
theorem detsL_get (p : Int) (T F : List Int) {k : Nat} (h : k < 8) : (detsL p T F)[k]? = some (detR p (sqrL p T F (k + 1))) := by unfold detsL; rw [List.getElem?_map, List.getElem?_range h]; rfl
theorem detsO_len (p : Int) (T F : List Int) : (detsO p T F).length ≤ 1048576 := by
  unfold detsO
  split
  · rw [detsL_len]; decide
  · simp
set_option maxRecDepth 100000 in
set_option maxHeartbeats 4000000 in
theorem implTableDets (v : Value) (p : Int) (T F : List Int) (w : World) (h : RV w v p T F) :
    Calls Try.prog 26 #[v] w (MadeI (detsO p T F).length (detsO p T F) w) := by
  obtain ⟨A, n, c, b, o, A', n', c', b', o', rfl, g1, g2⟩ := h
  have hbx := Bx.new w (.int .i64 p) (.slice A n c) (.slice A' n' c') 27
  have hB0 : Below w.heap.size w (w.alloc (.cells #[.int .i64 p, .slice A n c, .slice A' n' c'] 27)) := (Below.refl _ w).alloc (Nat.le_refl _) _
  have HV0 := Lib.hid (show RV _ (.agg #[.int .i64 p, .slice A n c, .slice A' n' c']) p T F from ⟨_, _, _, _, _, _, _, _, _, _, rfl, g1.below hB0, g2.below hB0⟩)
  have HBX := Lib.hid hbx
  have HB0 := Lib.hid hB0
  clear g1 g2 hB0 hbx
  rcases hv : recB p T F
  · have HV := Lib.hid hv
    have HE := Lib.hid (show detsO p T F = [] by unfold detsO; rw [if_neg (by simp [hv])])
    clear hv
    go_enter Try.func26, Try.ntmps26
    go_wp2_with (go_at_call 13; refine (implRecValid _ p T F _ HV0.out).mono ?_; rintro e w1 ⟨rfl, hB⟩; rw [HV.out]; have HB := Lib.hid hB; clear hB)
    go_ret
    rw [HE.out]
    exact ⟨none, 0, rfl, World.ownsRow_nil _ _ _ _, below_more HB0.out HB.out⟩
  have HV := Lib.hid hv
  have HE := Lib.hid (show detsO p T F = detsL p T F by unfold detsO; rw [if_pos hv])
  obtain ⟨D, hD⟩ : ∃ D, detsL p T F = D := ⟨_, rfl⟩
  have HD := Lib.hid hD
  have HDL := Lib.hid (show D.length = 8 by rw [← hD, detsL_len])
  have HDG := Lib.hid (show ∀ k, k < 8 → D[k]? = some (detR p (sqrL p T F (k + 1))) from fun k hk => by rw [← hD, detsL_get p T F hk])
  have hmk := run_make_row' (P := Try.prog) 23 3 (.int .i64 0) 8 Try.underlying23 infoInt rfl .i64 .i64 8 (by omega) (by omega)
  rw [show ((8 : Nat) : Int) = 8 from rfl] at hmk
  clear hv hD
  go_enter Try.func26, Try.ntmps26
  go_wp2_with (go_at_call 13; refine (implRecValid _ p T F _ HV0.out).mono ?_; rintro e w1 ⟨rfl, hB⟩; rw [HV.out]; have HB1 := Lib.hid (below_more HB0.out hB); have HBX1 := Lib.hid (HBX.out.below hB); have HV1 := Lib.hid (HV0.out.below hB); clear hB)
  go_loopw [11] (fun i wr => ∃ k : Nat, k ≤ 8 ∧ i = .int .i64 (k : Int) ∧ OI wr w1.heap.size (some ⟨w1.heap.size, 0, none⟩) 8 8 (D.take k ++ List.replicate (8 - k) 0) ∧ Below w1.heap.size w1 wr) (fun i _ => 8 - (intOf i).toNat)
  case atStart => exact ⟨0, by omega, rfl, by simpa using made_ints w1 8 (by omega), below_new _ _⟩
  case round =>
    obtain ⟨k, hk, rfl, hown, hbel⟩ := hrel
    by_cases hlt : k < 8
    · have HBr := Lib.hid hbel
      have HBXr := Lib.hid (HBX1.out.below hbel)
      have HVr := Lib.hid (HV1.out.below hbel)
      obtain ⟨y, hy⟩ : ∃ y, detR p (sqrL p T F (k + 1)) = y := ⟨_, rfl⟩
      have HY := Lib.hid hy
      have hyc : D[k]? = some y := by rw [HDG.out k hlt, hy]
      have hmx : (D.take k ++ List.replicate (8 - k) 0).set k y = D.take (k + 1) ++ List.replicate (8 - (k + 1)) 0 := by
        have := set_step D (List.replicate 8 0) k y (by rw [HDL.out, List.length_replicate]) hyc
        rwa [List.drop_replicate, List.drop_replicate] at this
      have HMX := Lib.hid hmx
      have HO := Lib.hid hown
      have HSQ := Lib.hid (show ∀ (W : World), RV W (.agg #[.int .i64 p, .slice A n c, .slice A' n' c']) p T F → Calls Try.prog 54 #[.agg #[.int .i64 p, .slice A n c, .slice A' n' c'], .int .i64 ((k : Int) + 1)] W (MadeM (k + 1) (sqrL p T F (k + 1)) W) from fun W h => by
        have := squareTable_any _ p T F (k + 1) W h HV.out (by omega) (by omega)
        rwa [show ((k + 1 : Nat) : Int) = (k : Int) + 1 by omega] at this)
      have hk1 : IntKind.i64.wrap ((k : Int) + 1) = (k : Int) + 1 := IntWalk.i64_in _ ⟨by omega, by omega⟩
      obtain ⟨y0, y1, y2⟩ := HBXr.out
      clear hy hyc hmx hown hbel
      go_wp2_with (fail)
      have HVd := Lib.hid (HVr.out.below (below_new_drew _))
      have HOd := Lib.hid (owns_below HO.out (below_new_drew _))
      have HBd := Lib.hid HBr.out.drew
      have hf0 : ∀ (W : World) (o1 o2 : Nat) (v : Value), (W.setCell ⟨w1.heap.size, o1, none⟩ v).cell? ⟨w.heap.size, o2, none⟩ = W.cell? ⟨w.heap.size, o2, none⟩ := fun W o1 o2 v => World.cell?_setCell_far _ _ _ _ (by show w1.heap.size ≠ w.heap.size; have := HBX1.out.lt; omega)
      have ZS := HBXr.out
      have Zd := HBXr.out.drew
      unfold Bx at ZS Zd
      go_region_held3 (fun w' => w'.cell? ⟨w.heap.size, 0, none⟩ = some (.int .i64 p) ∧ w'.cell? ⟨w.heap.size, 1, none⟩ = some (.slice A n c) ∧ w'.cell? ⟨w.heap.size, 2, none⟩ = some (.slice A' n' c')) (first | assumption | exact ZB | exact ZA | exact Zd | exact ZS | (simp only [hf0]; exact ZB) | go_keep)
        (first
          | (go_at_call 54; refine (HSQ.out _ HVd.out).mono ?_; rintro e w3 ⟨A5, c5, v5, rfl, hO, hB⟩; obtain ⟨b5, hR⟩ := hO.ra; have HR5 := Lib.hid hR; have HB3 := Lib.hid (below_more HBd.out hB); have HBX3 := Lib.hid (HBXr.out.drew.below hB); have HO3 := Lib.hid (owns_below HOd.out hB); have ZA := HBX3.out; unfold Bx at ZA; clear hO hB hR)
          | (go_at_call 53; refine (implMatDet p A5 _ c5 b5 0 (sqrL p T F (k + 1)) _ HR5.out).mono ?_; rintro e w4 ⟨rfl, hB⟩; rw [HY.out]; have HB4 := Lib.hid (below_more HB3.out hB); have HBX4 := Lib.hid (HBX3.out.below hB); have ZB := HBX4.out; unfold Bx at ZB; have hO4 := owns_below HO3.out hB; have hcell := World.ownsRow.cellAt hO4 k (by omega); have hfr := World.ownsRow.frozenAt hO4 k; have hst := World.ownsRow.stored hO4 k (.int .i64 y); rw [ints_set, HMX.out] at hst; have HO5 := Lib.hid hst.1; obtain ⟨v0, hv0⟩ : ∃ v0, w4.cell? ⟨w1.heap.size, k, none⟩ = some v0 := (by rw [hcell]; exact ⟨_, List.getElem?_eq_getElem (by simp only [ints, List.length_map, List.length_append, List.length_take, List.length_replicate, HDL.out]; omega)⟩); clear hB hcell hst hO4))
      all_goals
        go_wp2_with (fail)
        go_roundw
        case rel => exact ⟨k + 1, by omega, by go_num, HO5.out, HB4.out.setCell (Nat.le_refl _) _⟩
        case measure => simp [intOf]; omega
    · obtain rfl : k = 8 := by omega
      have e : D.take 8 ++ List.replicate (8 - 8) 0 = D := by rw [List.take_of_length_le (by rw [HDL.out]; exact Nat.le_refl _)]; simp
      rw [e] at hown
      have HO := Lib.hid hown
      have HB := Lib.hid hbel
      clear e hown hbel
      go_wp2_with (fail)
      go_ret
      rw [HE.out, HD.out, HDL.out]
      exact ⟨_, _, rfl, owns_mono HO.out HB1.out.size, below_more HB1.out HB.out⟩
set_option maxRecDepth 100000 in
set_option maxHeartbeats 4000000 in
theorem specTableDets (v : Value) (p : Int) (T F : List Int) (w : World) (h : RV w v p T F) :
    Calls Try.prog 27 #[v] w (MadeI (detsO p T F).length (detsO p T F) w) := by
  obtain ⟨A, n, c, b, o, A', n', c', b', o', rfl, g1, g2⟩ := h
  have HRV := Lib.hid (show RV w (.agg #[.int .i64 p, .slice A n c, .slice A' n' c']) p T F from ⟨_, _, _, _, _, _, _, _, _, _, rfl, g1, g2⟩)
  clear g1 g2
  obtain ⟨W0, hW0⟩ : ∃ W0, (w.alloc (.cells #[.int .i64 p, .slice A n c, .slice A' n' c'] 27)).alloc (.cells #[] 3) = W0 := ⟨_, rfl⟩
  have hH0 : HoldR w W0 (.int .i64 p) (.slice A n c) (.slice A' n' c') := by rw [← hW0]; exact (HoldR.start w _ _ _ _).below ((Below.refl _ _).alloc (Nat.le_refl _) _)
  have hrow : OI W0 (w.heap.size + 1) (some ⟨w.heap.size + 1, 0, none⟩) 0 0 [] := by
    have := oi_empty (w.alloc (.cells #[.int .i64 p, .slice A n c, .slice A' n' c'] 27)) (w.heap.size + 1) (by simp)
    rw [World.size_alloc] at this
    rw [← hW0]; exact this
  have HH := Lib.hid hH0
  have HR := Lib.hid hrow
  have z0 := hH0.c0
  have z1 := hH0.c1
  have z2 := hH0.c2
  clear hH0 hrow
  rcases hv : recB p T F
  · have HV := Lib.hid hv
    have HE := Lib.hid (show detsO p T F = [] by unfold detsO; rw [if_neg (by simp [hv])])
    clear hv
    go_enter Try.func27, Try.ntmps27
    go_wp2_with (fail)
    clear hW0
    go_loopw [3, 4] (fun s i wr => i = .int .i64 1 ∧ s = .slice (some ⟨w.heap.size + 1, 0, none⟩) 0 0 ∧ wr = W0) (fun _ _ _ => 0)
    case atStart => exact ⟨rfl, rfl, rfl⟩
    case round =>
      obtain ⟨rfl, rfl, rfl⟩ := hrel
      go_wp2_with (go_at_call 23; refine (specRecValid _ p T F _ (HRV.out.below HH.out.bel)).mono ?_; rintro e w1 ⟨rfl, hB⟩; rw [HV.out]; have HB := Lib.hid hB; clear hB)
      go_ret
      rw [HE.out]
      exact ⟨_, 0, rfl, owns_mono (owns_below HR.out HB.out) (by omega), below_more HH.out.bel HB.out⟩
  have HV := Lib.hid hv
  have HE := Lib.hid (show detsO p T F = detsL p T F by unfold detsO; rw [if_pos hv])
  obtain ⟨D, hD⟩ : ∃ D, detsL p T F = D := ⟨_, rfl⟩
  have HD := Lib.hid hD
  have HDL := Lib.hid (show D.length = 8 by rw [← hD, detsL_len])
  have HDG := Lib.hid (show ∀ k, k < 8 → D[k]? = some (detR p (sqrL p T F (k + 1))) from fun k hk => by rw [← hD, detsL_get p T F hk])
  have HTR := Lib.hid (show ∀ k : Nat, k < 8 → tabR p (trm p T F (2 * k + 1)) ((k : Int) + 1) ((k : Int) + 1) = sqrL p T F (k + 1) from fun k hk => by
    have := sqr_tab hv (show 1 ≤ k + 1 by omega) (show k + 1 ≤ 8 by omega)
    rwa [show ((k + 1 : Nat) : Int) = (k : Int) + 1 by omega, show 2 * (k + 1) - 1 = 2 * k + 1 by omega] at this)
  clear hv hD
  go_enter Try.func27, Try.ntmps27
  go_wp2_with (fail)
  clear hW0
  go_loopw [3, 4] (fun s i wr => ∃ (k g5 c5 : Nat), k ≤ 8 ∧ i = .int .i64 ((k : Int) + 1) ∧ s = .slice (some ⟨g5, 0, none⟩) k c5 ∧ OI wr (w.heap.size + 1) (some ⟨g5, 0, none⟩) k c5 (D.take k) ∧ Hid (HoldR w wr (.int .i64 p) (.slice A n c) (.slice A' n' c'))) (fun _ i _ => 9 - (intOf i).toNat)
  case atStart => exact ⟨0, _, _, by omega, rfl, rfl, HR.out, HH.out⟩
  case round =>
    obtain ⟨k, g5, c5, hk, rfl, rfl, hown, hh⟩ := hrel
    obtain ⟨wo, rfl⟩ : ∃ wo : World, wo = wr := ⟨_, rfl⟩
    have z0 := hh.out.c0
    have z1 := hh.out.c1
    have z2 := hh.out.c2
    have HO := Lib.hid hown
    clear hown
    by_cases hlt : k < 8
    · obtain ⟨y, hy⟩ : ∃ y, detR p (sqrL p T F (k + 1)) = y := ⟨_, rfl⟩
      have HY := Lib.hid hy
      have HST := Lib.hid (show D.take k ++ [y] = D.take (k + 1) by rw [List.take_add_one, HDG.out k hlt, hy]; rfl)
      have hq : decide ((k : Int) + 1 ≤ 8) = true := decide_eq_true (by omega)
      have hw0 : IntKind.i64.wrap (2 * ((k : Int) + 1)) = 2 * ((k : Int) + 1) := IntWalk.i64_in _ ⟨by omega, by omega⟩
      have hw1 : IntKind.i64.wrap (2 * ((k : Int) + 1) - 1) = 2 * ((k : Int) + 1) - 1 := IntWalk.i64_in _ ⟨by omega, by omega⟩
      have HL3 := Lib.hid (show ∀ (W : World), RV W (.agg #[.int .i64 p, .slice A n c, .slice A' n' c']) p T F → Calls Try.prog 51 #[.agg #[.int .i64 p, .slice A n c, .slice A' n' c'], .int .i64 (2 * ((k : Int) + 1) - 1)] W (MadeI (2 * k + 1) (trm p T F (2 * k + 1)) W) from fun W h => by
        have := specL3 _ p T F (2 * k + 1) W h HV.out (by omega)
        rwa [show ((2 * k + 1 : Nat) : Int) = 2 * ((k : Int) + 1) - 1 by omega] at this)
      clear hy
      go_wp2_with (go_at_call 23; refine (specRecValid _ p T F _ (HRV.out.below hh.out.bel)).mono ?_; rintro e w1 ⟨rfl, hB⟩; rw [HV.out]; have h1 := hh.out.below hB; have y0 := h1.c0; have y1 := h1.c1; have y2 := h1.c2; have HO1 := Lib.hid (owns_below HO.out hB); have HH1 := Lib.hid h1; have hlt1 := h1.lt; clear hB h1)
      have Z0 := And.intro y0 (And.intro y1 y2)
      have Zd : w1.drew.cell? ⟨w.heap.size, 0, none⟩ = some (.int .i64 p) ∧ w1.drew.cell? ⟨w.heap.size, 1, none⟩ = some (.slice A n c) ∧ w1.drew.cell? ⟨w.heap.size, 2, none⟩ = some (.slice A' n' c') := Z0
      have HVd := Lib.hid (HRV.out.below HH1.out.drew.bel)
      have HOd := Lib.hid (owns_below HO1.out (below_new_drew _))
      have HHd := Lib.hid HH1.out.drew
      go_region_held3 (fun w' => w'.cell? ⟨w.heap.size, 0, none⟩ = some (.int .i64 p) ∧ w'.cell? ⟨w.heap.size, 1, none⟩ = some (.slice A n c) ∧ w'.cell? ⟨w.heap.size, 2, none⟩ = some (.slice A' n' c')) (first | assumption | exact ZE | exact ZC | exact ZB | exact ZA | exact Zd | exact Z0 | go_keep)
        (first
          | (go_at_call 51; refine (HL3.out _ HVd.out).mono ?_; rintro e w3 ⟨A5, d5, rfl, hO, hB⟩; obtain ⟨b5, hI⟩ := hO.ia; have hc5 := OI.capLe hO; have HI5 := Lib.hid hI; have HH3 := Lib.hid (HHd.out.below hB); have HO3 := Lib.hid (owns_below HOd.out hB); have ZA := And.intro HH3.out.c0 (And.intro HH3.out.c1 HH3.out.c2); clear hO hB hI)
          | (go_at_call 56; refine (specTableOf p A5 _ d5 b5 0 (trm p T F (2 * k + 1)) ((k : Int) + 1) ((k : Int) + 1) _ HI5.out hc5).mono ?_; rw [HTR.out k hlt, sqr_len]; rintro e w4 ⟨A6, d6, v6, rfl, hO, hB⟩; obtain ⟨b6, hR⟩ := hO.ra; have HR6 := Lib.hid hR; have HH4 := Lib.hid (HH3.out.below hB); have HO4 := Lib.hid (owns_below HO3.out hB); have ZB := And.intro HH4.out.c0 (And.intro HH4.out.c1 HH4.out.c2); clear hO hB hR)
          | (go_at_call 55; refine (specMatDet p A6 _ d6 b6 0 (sqrL p T F (k + 1)) _ HR6.out).mono ?_; rintro e wL ⟨rfl, hB⟩; rw [HY.out]; have HHL := Lib.hid (HH4.out.below hB); have HOL := Lib.hid (owns_below HO4.out hB); have ZC := And.intro HHL.out.c0 (And.intro HHL.out.c1 HHL.out.c2); have hltL := HHL.out.lt; clear hB)
          | (refine step_app_any rfl (.tmp 14) (.tmp 28) rfl rfl (w.heap.size + 1) g5 k c5 (D.take k) rfl (World.ownsRow.alloc HOL.out _) (some ⟨wL.heap.size, 0, none⟩) 1 1 wL.heap.size 0 [y] rfl (IA.freshI y) (by simp) (by omega) (by simp; omega) ?_; intro A6 c6 w6 hO6 hg6; have hH6 := (HHL.out.below ((Below.refl _ wL).alloc (Nat.le_refl _) (.cells #[.int .i64 y] 3))).grown hg6 (fun g hg => by cases hg; exact (HOL.out.lt g5 rfl).1); have ZE := And.intro hH6.c0 (And.intro hH6.c1 hH6.c2); have HH6 := Lib.hid hH6; have HO6 := Lib.hid hO6; clear hO6 hg6 hH6))
      all_goals
        obtain ⟨g6, rfl⟩ := oi_some HO6.out (by omega)
        rw [HST.out] at HO6
        go_wp2_with (fail)
        go_roundw
        case rel => exact ⟨k + 1, g6, c6, by omega, by go_num, rfl, HO6.out, HH6.out⟩
        case measure => simp [intOf]; omega
    · obtain rfl : k = 8 := by omega
      have e : D.take 8 = D := List.take_of_length_le (by rw [HDL.out]; exact Nat.le_refl _)
      rw [e] at HO
      clear e
      go_wp2_with (fail)
      go_ret
      rw [HE.out, HD.out, HDL.out]
      exact ⟨_, _, rfl, owns_mono HO.out (by omega), hh.out.bel⟩
end Go.Proofs.Ytdecaokngedghaa
namespace Go.Proofs.Ytdecaokngedghaa
def sgn (i : Nat) : Int := if i % 2 = 0 then 1 else -1
theorem sgn_succ (i : Nat) : sgn (i + 1) = -sgn i := by
  unfold sgn
  by_cases h : i % 2 = 0
  · rw [if_pos h, if_neg (by omega)]
  · rw [if_neg h, if_pos (by omega)]; rfl
def up (i a : Nat) : Nat := if a < i then a else a + 1
def minor (f : Nat → Nat → Int) (i : Nat) : Nat → Nat → Int := fun a b => f (up i a) (b + 1)
def dt : Nat → (Nat → Nat → Int) → Int
  | 0, _ => 1
  | n + 1, f => sigN (n + 1) (fun i => sgn i * f i 0 * dt n (minor f i))
def upd (f : Nat → Nat → Int) (i : Nat) (x : Nat → Int) : Nat → Nat → Int := fun a b => if a = i then x b else f a b
theorem upd_self (f : Nat → Nat → Int) (i : Nat) (x : Nat → Int) : upd f i x i = x := by funext b; unfold upd; rw [if_pos rfl]
theorem upd_ne (f : Nat → Nat → Int) {i a : Nat} (x : Nat → Int) (h : a ≠ i) : upd f i x a = f a := by funext b; unfold upd; rw [if_neg h]
theorem upd_id (f : Nat → Nat → Int) (i : Nat) : upd f i (f i) = f := by
  funext a b; unfold upd; split
  · rename_i h; rw [h]
  · rfl
theorem upd_upd (f : Nat → Nat → Int) (i : Nat) (x y : Nat → Int) : upd (upd f i x) i y = upd f i y := by
  funext a b; unfold upd; split
  · rfl
  · rfl
theorem upd_comm (f : Nat → Nat → Int) {i j : Nat} (x y : Nat → Int) (h : i ≠ j) : upd (upd f i x) j y = upd (upd f j y) i x := by
  funext a b; unfold upd
  by_cases h1 : a = j
  · rw [if_pos h1, if_neg (by omega), if_pos h1]
  · rw [if_neg h1]
    by_cases h2 : a = i
    · rw [if_pos h2, if_pos h2]
    · rw [if_neg h2, if_neg h2, if_neg h1]
theorem up_lt {i a n : Nat} (ha : a < n) : up i a < n + 1 := by unfold up; split <;> omega
theorem up_ne (i a : Nat) : up i a ≠ i := by unfold up; split <;> omega
theorem dt_near {p : Int} : ∀ (n : Nat) (f g : Nat → Nat → Int), (∀ i, i < n → ∀ j, j < n → p ∣ f i j - g i j) → p ∣ dt n f - dt n g
  | 0, _, _, _ => by simp [dt]
  | n + 1, f, g, h => by
    refine sigN_near fun k hk => ?_
    have h1 := h k hk 0 (by omega)
    have h2 := dt_near n (minor f k) (minor g k) (fun i hi j hj => h _ (up_lt hi) _ (by omega))
    obtain ⟨x, hx⟩ : ∃ x, dt n (minor f k) = x := ⟨_, rfl⟩
    obtain ⟨y, hy⟩ : ∃ y, dt n (minor g k) = y := ⟨_, rfl⟩
    rw [hx, hy] at h2 ⊢
    rw [show sgn k * f k 0 * x - sgn k * g k 0 * y = sgn k * x * (f k 0 - g k 0) + sgn k * g k 0 * (x - y) by grind]
    exact Int.dvd_add (dvd_mulL h1 _) (dvd_mulL h2 _)
theorem dt_congr : ∀ (n : Nat) (f g : Nat → Nat → Int), (∀ i, i < n → ∀ j, j < n → f i j = g i j) → dt n f = dt n g
  | 0, _, _, _ => rfl
  | n + 1, f, g, h => sigN_congr fun k hk => by rw [h k hk 0 (by omega), dt_congr n (minor f k) (minor g k) (fun i hi j hj => h _ (up_lt hi) _ (by omega))]
theorem minor_upd_eq (f : Nat → Nat → Int) (i : Nat) (x : Nat → Int) : minor (upd f i x) i = minor f i := by
  funext a b; show (if up i a = i then x (b + 1) else f (up i a) (b + 1)) = _
  rw [if_neg (up_ne i a)]; rfl
theorem minor_upd_ne (f : Nat → Nat → Int) {i k : Nat} (x : Nat → Int) (h : k ≠ i) : minor (upd f i x) k = upd (minor f k) (if k < i then i - 1 else i) (fun b => x (b + 1)) := by
  funext a b
  show (if up k a = i then x (b + 1) else f (up k a) (b + 1)) = if a = (if k < i then i - 1 else i) then x (b + 1) else f (up k a) (b + 1)
  have e : up k a = i ↔ a = (if k < i then i - 1 else i) := by
    unfold up
    split <;> split <;> omega
  by_cases h1 : up k a = i
  · rw [if_pos h1, if_pos (e.1 h1)]
  · rw [if_neg h1, if_neg (fun h2 => h1 (e.2 h2))]
theorem dt_lin : ∀ (n : Nat) (f : Nat → Nat → Int) (i : Nat) (c : Int) (x y : Nat → Int), i < n → dt n (upd f i (fun b => c * x b + y b)) = c * dt n (upd f i x) + dt n (upd f i y)
  | 0, _, _, _, _, _, h => absurd h (by omega)
  | n + 1, f, i, c, x, y, h => by
    show sigN (n + 1) _ = c * sigN (n + 1) _ + sigN (n + 1) _
    rw [← sigN_mul, ← sigN_add]
    refine sigN_congr fun k hk => ?_
    by_cases e : k = i
    · subst e
      rw [minor_upd_eq, minor_upd_eq, minor_upd_eq, upd_self, upd_self, upd_self]
      grind
    · rw [minor_upd_ne f _ e, minor_upd_ne f _ e, minor_upd_ne f _ e, upd_ne f _ e, upd_ne f _ e, upd_ne f _ e]
      have := dt_lin n (minor f k) (if k < i then i - 1 else i) c (fun b => x (b + 1)) (fun b => y (b + 1)) (by split <;> omega)
      rw [this]
      grind
theorem dt_adj : ∀ (n : Nat) (f : Nat → Nat → Int) (k : Nat), k + 1 < n → (∀ b, b < n → f k b = f (k + 1) b) → dt n f = 0
  | 0, _, _, h, _ => absurd h (by omega)
  | n + 1, f, k, h, he => by
    show sigN (n + 1) _ = 0
    rw [sigN_two (c := k) (d := k + 1) (by omega) (by omega) h (fun i hi h1 h2 => ?_)]
    · rw [sgn_succ, he 0 (by omega), dt_congr n (minor f k) (minor f (k + 1)) (fun a ha b hb => ?_)]
      · grind
      · show f (up k a) (b + 1) = f (up (k + 1) a) (b + 1)
        unfold up
        by_cases h1 : a < k
        · rw [if_pos h1, if_pos (by omega)]
        · rw [if_neg h1]
          by_cases h2 : a = k
          · subst h2; rw [if_pos (by omega)]; exact (he (b + 1) (by omega)).symm
          · rw [if_neg (by omega)]
    · rw [dt_adj n (minor f i) (if i < k then k - 1 else k) (by split <;> omega) (fun b hb => ?_)]
      · simp
      · show f (up i _) (b + 1) = f (up i _) (b + 1)
        have e1 : up i (if i < k then k - 1 else k) = k := by unfold up; split <;> split <;> omega
        have e2 : up i ((if i < k then k - 1 else k) + 1) = k + 1 := by unfold up; split <;> split <;> omega
        rw [e1, e2]
        exact he (b + 1) (by omega)
def idF : Nat → Nat → Int := fun i j => if i = j then 1 else 0
theorem dt_one : ∀ n, dt n idF = 1
  | 0 => rfl
  | n + 1 => by
    show sigN (n + 1) _ = 1
    rw [sigN_one (c := 0) (by omega) (fun k hk hne => by unfold idF; rw [if_neg hne]; simp)]
    have e : ∀ a b, minor idF 0 a b = idF a b := fun a b => by
      show idF (up 0 a) (b + 1) = idF a b
      rw [show up 0 a = a + 1 by unfold up; rw [if_neg (by omega)]]
      unfold idF
      by_cases e : a = b
      · rw [if_pos e, if_pos (by omega)]
      · rw [if_neg e, if_neg (by omega)]
    rw [dt_congr n (minor idF 0) idF (fun a _ b _ => e a b), dt_one n]
    rfl
def updc (f : Nat → Nat → Int) (j : Nat) (x : Nat → Int) : Nat → Nat → Int := fun a b => if b = j then x a else f a b
theorem minor_updc_zero (f : Nat → Nat → Int) (x : Nat → Int) (i : Nat) : minor (updc f 0 x) i = minor f i := by
  funext a b; show (if b + 1 = 0 then x (up i a) else f (up i a) (b + 1)) = f (up i a) (b + 1); rw [if_neg (by omega)]
theorem minor_updc_succ (f : Nat → Nat → Int) (x : Nat → Int) (i j : Nat) : minor (updc f (j + 1) x) i = updc (minor f i) j (fun a => x (up i a)) := by
  funext a b
  show (if b + 1 = j + 1 then x (up i a) else f (up i a) (b + 1)) = if b = j then x (up i a) else f (up i a) (b + 1)
  by_cases e : b = j
  · rw [if_pos e, if_pos (by omega)]
  · rw [if_neg e, if_neg (by omega)]
theorem dt_linc : ∀ (n : Nat) (f : Nat → Nat → Int) (j : Nat) (c : Int) (x y : Nat → Int), j < n → dt n (updc f j (fun a => c * x a + y a)) = c * dt n (updc f j x) + dt n (updc f j y)
  | 0, _, _, _, _, _, h => absurd h (by omega)
  | n + 1, f, 0, c, x, y, h => by
    show sigN (n + 1) _ = c * sigN (n + 1) _ + sigN (n + 1) _
    rw [← sigN_mul, ← sigN_add]
    refine sigN_congr fun k hk => ?_
    rw [minor_updc_zero, minor_updc_zero, minor_updc_zero]
    have e : ∀ z : Nat → Int, updc f 0 z k 0 = z k := fun z => by unfold updc; rw [if_pos rfl]
    rw [e, e, e]
    grind
  | n + 1, f, j + 1, c, x, y, h => by
    show sigN (n + 1) _ = c * sigN (n + 1) _ + sigN (n + 1) _
    rw [← sigN_mul, ← sigN_add]
    refine sigN_congr fun k hk => ?_
    have e : ∀ z : Nat → Int, updc f (j + 1) z k 0 = f k 0 := fun z => by unfold updc; rw [if_neg (by omega)]
    rw [e, e, e, minor_updc_succ, minor_updc_succ, minor_updc_succ]
    have := dt_linc n (minor f k) j c (fun a => x (up k a)) (fun a => y (up k a)) (by omega)
    rw [this]
    grind
/-- a function of matrices that is a sum in each row, and 0 if two rows behind each other are the same -/
structure Alt (p : Int) (n : Nat) (g : (Nat → Nat → Int) → Int) : Prop where
  near : ∀ f f', (∀ i, i < n → ∀ j, j < n → p ∣ f i j - f' i j) → p ∣ g f - g f'
  lin : ∀ f i (c : Int) (x y : Nat → Int), i < n → p ∣ g (upd f i (fun b => c * x b + y b)) - (c * g (upd f i x) + g (upd f i y))
  adj : ∀ f k, k + 1 < n → (∀ b, b < n → f k b = f (k + 1) b) → p ∣ g f
theorem alt_dt (p : Int) (n : Nat) : Alt p n (dt n) := ⟨dt_near n, fun f i c x y h => by rw [dt_lin n f i c x y h, Int.sub_self]; exact Int.dvd_zero p, fun f k h he => by rw [dt_adj n f k h he]; exact Int.dvd_zero p⟩
def swF (f : Nat → Nat → Int) (i j : Nat) : Nat → Nat → Int := upd (upd f i (f j)) j (f i)
theorem Alt.swap_of {p : Int} {n : Nat} {g : (Nat → Nat → Int) → Int} (hg : Alt p n g) {i j : Nat} (hij : i ≠ j) (hi : i < n) (hj : j < n) (ha : ∀ f, (∀ b, b < n → f i b = f j b) → p ∣ g f) (f : Nat → Nat → Int) : p ∣ g f + g (swF f i j) := by
  have A : ∀ x y, p ∣ g (upd (upd f i x) j y) + g (upd (upd f i y) j x) := by
    intro x y
    have h0 := ha (upd (upd f i (fun b => 1 * x b + y b)) j (fun b => 1 * x b + y b)) (fun b _ => by rw [upd_self, upd_ne _ _ hij, upd_self])
    have h1 := hg.lin (upd f i (fun b => 1 * x b + y b)) j 1 x y hj
    have h2 := hg.lin (upd f j x) i 1 x y hi
    have h3 := hg.lin (upd f j y) i 1 x y hi
    rw [upd_comm f x _ (fun e => hij e.symm), upd_comm f x _ (fun e => hij e.symm), upd_comm f x _ (fun e => hij e.symm)] at h2
    rw [upd_comm f y _ (fun e => hij e.symm), upd_comm f y _ (fun e => hij e.symm), upd_comm f y _ (fun e => hij e.symm)] at h3
    have h4 := ha (upd (upd f i x) j x) (fun b _ => by rw [upd_self, upd_ne _ _ hij, upd_self])
    have h5 := ha (upd (upd f i y) j y) (fun b _ => by rw [upd_self, upd_ne _ _ hij, upd_self])
    have h6 := (near_move h1).1 h0
    have h7 := Int.dvd_sub (Int.dvd_sub (Int.dvd_sub (Int.dvd_sub h6 h2) h3) h4) h5
    generalize g (upd (upd f i (fun b => 1 * x b + y b)) j x) = a at h7
    generalize g (upd (upd f i (fun b => 1 * x b + y b)) j y) = b at h7
    generalize g (upd (upd f i x) j x) = c at h7
    generalize g (upd (upd f i y) j y) = d at h7
    generalize g (upd (upd f i x) j y) = u at h7 ⊢
    generalize g (upd (upd f i y) j x) = v at h7 ⊢
    rwa [show 1 * a + b - (a - (1 * c + v)) - (b - (1 * u + d)) - c - d = u + v by omega] at h7
  have := A (f i) (f j)
  rw [upd_id, upd_id] at this
  exact this
theorem Alt.alt {p : Int} {n : Nat} {g : (Nat → Nat → Int) → Int} (hg : Alt p n g) : ∀ (d a : Nat), a + d + 1 < n → ∀ f, (∀ b, b < n → f a b = f (a + d + 1) b) → p ∣ g f
  | 0, a, h, f, he => hg.adj f a h he
  | d + 1, a, h, f, he => by
    have h1 := hg.swap_of (i := a + d + 1) (j := a + d + 2) (by omega) (by omega) h (fun f' h' => hg.adj f' (a + d + 1) (by omega) h') f
    have h2 := Alt.alt hg d a (by omega) (swF f (a + d + 1) (a + d + 2)) (fun b hb => by
      unfold swF
      rw [upd_ne _ _ (by omega), upd_ne _ _ (by omega), upd_ne _ _ (by omega), upd_self]
      exact he b hb)
    have h3 := Int.dvd_sub h1 h2
    rwa [Int.add_sub_cancel] at h3
theorem Alt.same {p : Int} {n : Nat} {g : (Nat → Nat → Int) → Int} (hg : Alt p n g) {i j : Nat} (hij : i ≠ j) (hi : i < n) (hj : j < n) (f : Nat → Nat → Int) (he : ∀ b, b < n → f i b = f j b) : p ∣ g f := by
  rcases Nat.lt_or_gt_of_ne hij with h | h
  · refine hg.alt (j - i - 1) i (by omega) f (fun b hb => ?_)
    rw [he b hb, show i + (j - i - 1) + 1 = j by omega]
  · refine hg.alt (i - j - 1) j (by omega) f (fun b hb => ?_)
    rw [← he b hb, show j + (i - j - 1) + 1 = i by omega]
theorem Alt.swap {p : Int} {n : Nat} {g : (Nat → Nat → Int) → Int} (hg : Alt p n g) {i j : Nat} (hij : i ≠ j) (hi : i < n) (hj : j < n) (f : Nat → Nat → Int) : p ∣ g f + g (swF f i j) := hg.swap_of hij hi hj (fun f' h' => hg.same hij hi hj f' h') f
theorem Alt.rowop {p : Int} {n : Nat} {g : (Nat → Nat → Int) → Int} (hg : Alt p n g) {i j : Nat} (hij : i ≠ j) (hi : i < n) (hj : j < n) (t : Int) (f : Nat → Nat → Int) : p ∣ g (upd f i (fun b => t * f j b + f i b)) - g f := by
  have h1 := hg.lin f i t (f j) (f i) hi
  have h2 := hg.same hij hi hj (upd f i (f j)) (fun b _ => by rw [upd_self, upd_ne _ _ (fun e => hij e.symm)])
  rw [upd_id] at h1
  have h3 := Int.dvd_add h1 (dvd_mulL h2 t)
  rwa [show g (upd f i fun b => t * f j b + f i b) - (t * g (upd f i (f j)) + g f) + t * g (upd f i (f j)) = g (upd f i fun b => t * f j b + f i b) - g f by omega] at h3
theorem Alt.zero {p : Int} {n : Nat} {g : (Nat → Nat → Int) → Int} (hg : Alt p n g) {i : Nat} (hi : i < n) (f : Nat → Nat → Int) (h : ∀ b, b < n → p ∣ f i b) : p ∣ g f := by
  have h1 := hg.lin f i 1 (fun _ => 0) (fun _ => 0) hi
  have h2 := hg.near f (upd f i (fun _ => 0)) (fun a ha b hb => by
    by_cases e : a = i
    · subst e; rw [upd_self]; simpa using h b hb
    · rw [upd_ne _ _ e, Int.sub_self]; exact Int.dvd_zero p)
  have e : (fun b : Nat => (1 : Int) * (fun _ => (0 : Int)) b + (fun _ => (0 : Int)) b) = fun _ => 0 := by funext b; rfl
  rw [e] at h1
  have h3 : p ∣ g (upd f i (fun _ => 0)) := by
    have := Int.dvd_neg.2 h1
    rwa [show -(g (upd f i fun _ => 0) - (1 * g (upd f i fun _ => 0) + g (upd f i fun _ => 0))) = g (upd f i fun _ => 0) by omega] at this
  exact (near_move h2).2 h3
/-- rows, one of them once, whose sum is 0 -/
theorem Alt.depend {p : Int} {n : Nat} {g : (Nat → Nat → Int) → Int} (hg : Alt p n g) {c : Nat} (hc : c < n) (f : Nat → Nat → Int) (v : Nat → Int) (hv : v c = 1) (h : ∀ j, j < n → p ∣ sigN n (fun i => v i * f i j)) : p ∣ g f := by
  have A : ∀ m, m ≤ n → p ∣ g (upd f c (fun b => f c b + sigN m (fun i => if i = c then 0 else v i * f i b))) - g f := by
    intro m
    induction m with
    | zero =>
      intro _
      have e : (fun b => f c b + sigN 0 (fun i => if i = c then 0 else v i * f i b)) = f c := by funext b; show f c b + 0 = _; omega
      rw [e, upd_id, Int.sub_self]
      exact Int.dvd_zero p
    | succ m ih =>
      intro hm
      have h1 := ih (by omega)
      by_cases e : m = c
      · have e2 : (fun b => f c b + sigN (m + 1) (fun i => if i = c then 0 else v i * f i b)) = fun b => f c b + sigN m (fun i => if i = c then 0 else v i * f i b) := by
          funext b; show f c b + (sigN m _ + (if m = c then 0 else v m * f m b)) = _
          rw [if_pos e]; omega
        rw [e2]; exact h1
      · have h2 := hg.rowop (i := c) (j := m) (fun e' => e e'.symm) hc (by omega) (v m) (upd f c (fun b => f c b + sigN m (fun i => if i = c then 0 else v i * f i b)))
        rw [upd_upd, upd_self, upd_ne _ _ e] at h2
        have e2 : (fun b => f c b + sigN (m + 1) (fun i => if i = c then 0 else v i * f i b)) = fun b => v m * f m b + (f c b + sigN m (fun i => if i = c then 0 else v i * f i b)) := by
          funext b; show f c b + (sigN m _ + (if m = c then 0 else v m * f m b)) = _
          rw [if_neg e]; omega
        rw [e2]
        exact near_trans h2 h1
  have h1 := A n (Nat.le_refl _)
  refine (near_move h1).1 (hg.zero hc _ fun b hb => ?_)
  rw [upd_self]
  have h2 := h b hb
  rw [sigN_plus hc, hv, Int.one_mul] at h2
  exact h2
/-- columns, one of them once, whose sum is 0 -/
theorem Alt.dependc {p : Int} (hp : primeB p = true) {n : Nat} {g : (Nat → Nat → Int) → Int} (hg : Alt p n g) {c : Nat} (hc : c < n) (f : Nat → Nat → Int) (v : Nat → Int) (hv : v c = 1) (h : Ker p n n f v) : p ∣ g f := by
  have hpb := prime_ge hp
  have hV := mk2_VM hp n n f
  have hl := mk2_len p n n f
  have hR := elim_red hp hV n (Nat.le_refl _)
  rw [hl] at hR
  have hlt : (elim p (mk2 p n n f) n).2.length < n := by
    refine Classical.byContradiction fun hno => ?_
    have hle := hR.le
    have hk : Ker p n n (at2 (elim p (mk2 p n n f) n).1) v := by
      have := elim_ker hp hV v n (Nat.le_refl _)
      rw [hl] at this
      refine this.2 fun i hi => ?_
      refine (near_move (sigN_near (f := fun j => at2 (mk2 p n n f) i j * v j) (g := fun j => f i j * v j) fun j hj => ?_)).2 (h i hi)
      rw [mk2_at hi hj, ← Int.sub_mul]
      exact dvd_mulR (near_mod _ _) _
    have hall : ∀ x, x < n → x ∈ (elim p (mk2 p n n f) n).2 := fun x hx => by
      refine Classical.byContradiction fun hm => ?_
      have h1 : ∀ y ∈ (elim p (mk2 p n n f) n).2, y < n := hR.bound
      have h2 := frees_len hR
      have h3 : x ∈ frees (elim p (mk2 p n n f) n).2 n := by
        unfold frees; rw [List.mem_filter]; exact ⟨List.mem_range.2 hx, by simpa using hm⟩
      have := List.length_pos_of_mem h3
      omega
    obtain ⟨q, hq, hqc⟩ := mem_getD (hall c hc)
    have h1 := hk q (by omega)
    rw [sigN_one hc (fun j hj hne => ?_), ← hqc, hR.one q hq q (by omega), if_pos rfl, hqc, hv] at h1
    · have := Int.le_of_dvd (by omega) h1
      omega
    · obtain ⟨q', hq', hqj⟩ := mem_getD (hall j hj)
      have hne' : q ≠ q' := fun e => hne (by rw [← hqj, ← e, hqc])
      rw [← hqj, hR.one q' hq' q (by omega), if_neg hne']; simp
  obtain ⟨X, Y, hf⟩ := Fac.elim hp hV
  rw [hl] at hf
  obtain ⟨u, ⟨d, hd, hu1⟩, hu⟩ := pigeon hp hlt (fun k i => X i k)
  refine (near_move (hg.near f (at2 (mk2 p n n f)) fun i hi j hj => by rw [mk2_at hi hj]; exact near_symm (near_mod _ _))).2 ?_
  refine hg.depend hd _ u hu1 fun j hj => ?_
  refine (near_move (sigN_near (f := fun i => u i * at2 (mk2 p n n f) i j) (g := fun i => u i * sigN (elim p (mk2 p n n f) n).2.length (fun k => X i k * Y k j)) fun i hi => by rw [← Int.mul_sub]; exact dvd_mulL (hf i hi j hj) _)).2 ?_
  rw [sigN_congr (g := fun i => sigN (elim p (mk2 p n n f) n).2.length (fun k => X i k * u i * Y k j)) (fun i _ => by rw [← sigN_mul]; exact sigN_congr fun k _ => by grind), sigN_swap]
  refine sigN_dvd fun k hk => ?_
  rw [sigN_mulr]
  exact dvd_mulR (hu k hk) _
end Go.Proofs.Ytdecaokngedghaa
namespace Go.Proofs.Ytdecaokngedghaa
theorem down_at {p : Int} {l : Nat} {N : List (List Int)} (h : VM p l N) {c : Nat} {back : Int} (hc : c < N.length) {i : Nat} (hi : i < N.length) (j : Nat) : at2 (downM p N c back) i j = if i ≤ c then at2 N i j else (at2 N i j - (at2 N i c * back % p) * at2 N c j) % p := by
  show ((downM p N c back).getD i []).getD j 0 = _
  rw [getD_row (downM_get p N c back i hi)]
  unfold downRow
  by_cases e : i ≤ c
  · rw [if_pos e, if_pos e]; rfl
  · rw [if_neg e, if_neg e, subRow_at _ _ _ _ (by rw [(h.getD hi).1, (h.getD hc).1])]; rfl
theorem down_alt {p : Int} {n : Nat} {g : (Nat → Nat → Int) → Int} (hg : Alt p n g) {N : List (List Int)} (h : VM p n N) (hn : N.length = n) {c : Nat} (hc : c < n) (back : Int) : p ∣ g (at2 (downM p N c back)) - g (at2 N) := by
  have A : ∀ m, m ≤ n → p ∣ g (fun i j => if c < i ∧ i < m then -(at2 N i c * back % p) * at2 N c j + at2 N i j else at2 N i j) - g (at2 N) := by
    intro m
    induction m with
    | zero =>
      intro _
      have e : (fun i j => if c < i ∧ i < 0 then -(at2 N i c * back % p) * at2 N c j + at2 N i j else at2 N i j) = at2 N := by funext i j; rw [if_neg (by omega)]
      rw [e, Int.sub_self]; exact Int.dvd_zero p
    | succ m ih =>
      intro hm
      have h1 := ih (by omega)
      by_cases e : c < m
      · have h2 := hg.rowop (i := m) (j := c) (by omega) (by omega) hc (-(at2 N m c * back % p)) (fun i j => if c < i ∧ i < m then -(at2 N i c * back % p) * at2 N c j + at2 N i j else at2 N i j)
        have e2 : upd (fun i j => if c < i ∧ i < m then -(at2 N i c * back % p) * at2 N c j + at2 N i j else at2 N i j) m (fun b => -(at2 N m c * back % p) * (fun i j => if c < i ∧ i < m then -(at2 N i c * back % p) * at2 N c j + at2 N i j else at2 N i j) c b + (fun i j => if c < i ∧ i < m then -(at2 N i c * back % p) * at2 N c j + at2 N i j else at2 N i j) m b) = fun i j => if c < i ∧ i < m + 1 then -(at2 N i c * back % p) * at2 N c j + at2 N i j else at2 N i j := by
          funext i j
          unfold upd
          by_cases e3 : i = m
          · subst e3
            rw [if_pos rfl]
            show -(at2 N i c * back % p) * (if c < c ∧ c < i then _ else _) + (if c < i ∧ i < i then _ else _) = _
            rw [if_neg (by omega), if_neg (by omega), if_pos (by omega)]
          · rw [if_neg e3]
            show (if c < i ∧ i < m then _ else _) = _
            by_cases e4 : c < i ∧ i < m
            · rw [if_pos e4, if_pos (by omega)]
            · rw [if_neg e4, if_neg (by omega)]
        rw [e2] at h2
        exact near_trans h2 h1
      · have e2 : (fun i j => if c < i ∧ i < m + 1 then -(at2 N i c * back % p) * at2 N c j + at2 N i j else at2 N i j) = fun i j => if c < i ∧ i < m then -(at2 N i c * back % p) * at2 N c j + at2 N i j else at2 N i j := by
          funext i j
          rw [if_neg (by omega), if_neg (by omega)]
        rw [e2]; exact h1
  refine near_trans (hg.near _ _ fun i hi j hj => ?_) (A n (Nat.le_refl _))
  rw [down_at h (by omega) (by omega)]
  by_cases e : i ≤ c
  · rw [if_pos e, if_neg (by omega), Int.sub_self]; exact Int.dvd_zero p
  · rw [if_neg e, if_pos (by omega)]
    obtain ⟨t, ht⟩ : ∃ t, at2 N i c * back % p = t := ⟨_, rfl⟩
    rw [ht, show -t * at2 N c j + at2 N i j = at2 N i j - t * at2 N c j by grind]
    exact near_mod _ _
theorem swap_F {N : List (List Int)} {r c : Nat} (hr : r < N.length) (hc : c < N.length) : at2 (swapM N r c) = swF (at2 N) r c := by
  funext a b
  rw [at2_swap hr hc]
  unfold swF upd
  by_cases h1 : a = c
  · rw [if_pos h1]
  · rw [if_neg h1]
/-- the product of the numbers on the diagonal -/
def diag (f : Nat → Nat → Int) : Nat → Int
  | 0 => 1
  | c + 1 => diag f c * f c c
theorem diag_congr {f g : Nat → Nat → Int} : ∀ c, (∀ q, q < c → f q q = g q q) → diag f c = diag g c
  | 0, _ => rfl
  | c + 1, h => by show diag f c * f c c = diag g c * g c c; rw [diag_congr c (fun q hq => h q (by omega)), h c (by omega)]
/-- below the diagonal there is 0, on it there is not, in the first columns -/
structure Tri (n c : Nat) (f : Nat → Nat → Int) : Prop where
  low : ∀ j, j < c → ∀ i, j < i → i < n → f i j = 0
  on : ∀ j, j < c → f j j ≠ 0
theorem detE_tri {p : Int} (hp : primeB p = true) {n : Nat} {M : List (List Int)} (h : VM p n M) (hn : M.length = n) {g : (Nat → Nat → Int) → Int} (hg : Alt p n g) : ∀ c, c ≤ n → ∀ N d, detE p M c = some (N, d) →
    N.length = n ∧ VM p n N ∧ Tri n c (at2 N) ∧ ∃ s : Int, (s = 1 ∨ s = -1) ∧ p ∣ g (at2 M) - s * g (at2 N) ∧ p ∣ d - s * diag (at2 N) c
  | 0, _, N, d, hd => by
    obtain ⟨rfl, rfl⟩ : M = N ∧ (1 : Int) = d := by simpa [detE] using hd
    exact ⟨hn, h, ⟨fun j hj => absurd hj (by omega), fun j hj => absurd hj (by omega)⟩, 1, .inl rfl, by rw [Int.one_mul, Int.sub_self]; exact Int.dvd_zero p, by simp [diag]⟩
  | c + 1, hc, N, d, hd => by
    cases he : detE p M c with
    | none => rw [detE_none he 1] at hd; simp at hd
    | some x =>
      obtain ⟨N0, d0⟩ := x
      obtain ⟨h1, h2, h3, s, hs, h4, h5⟩ := detE_tri hp h hn hg c (by omega) N0 d0 he
      rw [detE_step he] at hd
      cases hf : firstW N0 c (N0.length - c) c with
      | none => rw [detStep_none hf] at hd; simp at hd
      | some r =>
        rw [detStep_some hf] at hd
        obtain ⟨g1, g2, g3, g4⟩ := firstW_some hf
        simp only [Option.some.injEq, Prod.mk.injEq] at hd
        obtain ⟨rfl, rfl⟩ := hd
        have hVS := h2.swap (i := r) (j := c) (by omega) (by omega)
        have hSl := swapM_len N0 r c
        have hsa := fun a b => at2_swap (M := N0) (i := r) (j := c) (by omega) (by omega) a b
        obtain ⟨S, hS⟩ : ∃ S, swapM N0 r c = S := ⟨_, rfl⟩
        rw [hS] at hVS hSl hsa ⊢
        have hpiv : at2 S c c = at2 N0 r c := by rw [hsa, if_pos rfl]
        have hpv : numB p (at2 S c c) = true := hVS.at2 (by omega) (by omega)
        have hpv := numB_true hpv
        have hne : at2 S c c ≠ 0 := by rw [hpiv]; exact g3
        have hinv := inv_ok hp hpv.2.1 hpv.2.2 hne
        obtain ⟨bk, hbk⟩ : ∃ bk, invM p (at2 S c c) = bk := ⟨_, rfl⟩
        rw [hbk] at hinv ⊢
        have hda := fun {i : Nat} (hi : i < S.length) (j : Nat) => down_at hVS (c := c) (back := bk) (by omega) hi j
        have hSr : ∀ i, i < c → ∀ b, at2 S i b = at2 N0 i b := fun i hi b => by rw [hsa, if_neg (by omega), if_neg (by omega)]
        have hSlow : ∀ i, c ≤ i → i < n → ∀ j, j < c → at2 S i j = 0 := fun i hi1 hi j hj => by
          rw [hsa]
          split
          · exact h3.low j hj r (by omega) (by omega)
          · split
            · exact h3.low j hj c (by omega) (by omega)
            · exact h3.low j hj i (by omega) hi
        have hdS : p ∣ g (at2 (downM p S c bk)) - g (at2 S) := down_alt hg hVS (by omega) (by omega) bk
        refine ⟨by rw [downM_len, hSl, h1], hVS.down hp (by omega), ⟨fun j hj i hji hi => ?_, fun j hj => ?_⟩, ?_⟩
        · rw [hda (by omega)]
          by_cases e : i ≤ c
          · rw [if_pos e]
            by_cases e2 : i = c
            · exact hSlow i (by omega) hi j (by omega)
            · rw [hSr i (by omega)]; exact h3.low j (by omega) i hji hi
          · rw [if_neg e]
            by_cases e2 : j = c
            · subst e2
              refine Int.emod_eq_zero_of_dvd ?_
              obtain ⟨x, hx⟩ : ∃ x, at2 S i j = x := ⟨_, rfl⟩
              obtain ⟨y, hy⟩ : ∃ y, at2 S j j = y := ⟨_, rfl⟩
              rw [hx, hy]
              rw [hy] at hinv
              have k1 := near_mod p (x * bk)
              have k2 := near_mod p (y * bk)
              rw [hinv] at k2
              have k3 := Int.dvd_sub (dvd_mulL k2 x) (dvd_mulR k1 y)
              rwa [show x * (1 - y * bk) - (x * bk % p - x * bk) * y = x - x * bk % p * y by grind] at k3
            · rw [hSlow i (by omega) hi j (by omega), hSlow c (by omega) (by omega) j (by omega)]; simp
        · rw [hda (by omega), if_pos (by omega)]
          by_cases e2 : j = c
          · rw [e2]; exact hne
          · rw [hSr j (by omega)]; exact h3.on j (by omega)
        · have hdg : diag (at2 (downM p S c bk)) (c + 1) = diag (at2 N0) c * at2 S c c := by
            show diag _ c * at2 (downM p S c bk) c c = _
            rw [hda (by omega), if_pos (Nat.le_refl _), diag_congr c (g := at2 N0) (fun q hq => by rw [hda (by omega), if_pos (by omega), hSr q hq])]
          rw [hdg]
          generalize diag (at2 N0) c = D at h5 ⊢
          generalize at2 S c c = pv
          generalize g (at2 M) = G at h4 ⊢
          by_cases hrc : r = c
          · refine ⟨s, hs, ?_, ?_⟩
            · have e : S = N0 := by rw [← hS, hrc]; exact swapM_self _ _ (by omega)
              rw [e] at hdS ⊢
              generalize g (at2 (downM p N0 c bk)) = y at hdS ⊢
              generalize g (at2 N0) = x at hdS h4 ⊢
              have := Int.dvd_sub h4 (dvd_mulL hdS s)
              rwa [show G - s * x - s * (y - x) = G - s * y by grind] at this
            · rw [if_pos hrc]
              have k1 := near_mod p (d0 * pv)
              have k2 := Int.dvd_add k1 (dvd_mulR h5 pv)
              rwa [show d0 * pv % p - d0 * pv + (d0 - s * D) * pv = d0 * pv % p - s * (D * pv) by grind] at k2
          · refine ⟨-s, by omega, ?_, ?_⟩
            · have k1 := hg.swap (i := r) (j := c) hrc (by omega) (by omega) (at2 N0)
              rw [← swap_F (by omega) (by omega), hS] at k1
              generalize g (at2 (downM p S c bk)) = y at hdS ⊢
              generalize g (at2 S) = x at hdS k1 ⊢
              generalize g (at2 N0) = z at h4 k1 ⊢
              have := Int.dvd_add (Int.dvd_add h4 (dvd_mulL hdS s)) (dvd_mulL k1 s)
              rwa [show G - s * z + s * (y - x) + s * (z + x) = G - -s * y by grind] at this
            · rw [if_neg hrc]
              have k1 := near_mod p (-d0 % p * pv)
              have k0 := near_mod p (-d0)
              have k2 := Int.dvd_sub (Int.dvd_add k1 (dvd_mulR k0 pv)) (dvd_mulR h5 pv)
              generalize -d0 % p = e0 at k2 ⊢
              rwa [show e0 * pv % p - e0 * pv + (e0 - -d0) * pv - (d0 - s * D) * pv = e0 * pv % p - -s * (D * pv) by grind] at k2
/-- a row that is the diagonal's number alone, when the rows behind are -/
theorem Alt.row {p : Int} {n : Nat} {g : (Nat → Nat → Int) → Int} (hg : Alt p n g) {q : Nat} (hq : q < n) (f : Nat → Nat → Int) (hlow : ∀ j, j < q → f q j = 0) (hun : ∀ i, q < i → i < n → ∀ j, f i j = idF i j) : p ∣ g f - f q q * g (upd f q (idF q)) := by
  have A : ∀ m, q + 1 + m ≤ n → p ∣ g (upd f q (fun j => if q < j ∧ j < q + 1 + m then 0 else f q j)) - g f := by
    intro m
    induction m with
    | zero =>
      intro _
      have e : (fun j => if q < j ∧ j < q + 1 + 0 then 0 else f q j) = f q := by funext j; rw [if_neg (by omega)]
      rw [e, upd_id, Int.sub_self]; exact Int.dvd_zero p
    | succ m ih =>
      intro hm
      have h1 := ih (by omega)
      have h2 := hg.rowop (i := q) (j := q + 1 + m) (by omega) hq (by omega) (-(f q (q + 1 + m))) (upd f q (fun j => if q < j ∧ j < q + 1 + m then 0 else f q j))
      rw [upd_upd, upd_self, upd_ne _ _ (show q + 1 + m ≠ q by omega)] at h2
      have e : (fun b => -(f q (q + 1 + m)) * f (q + 1 + m) b + (fun j => if q < j ∧ j < q + 1 + m then 0 else f q j) b) = fun j => if q < j ∧ j < q + 1 + (m + 1) then 0 else f q j := by
        funext b
        rw [hun (q + 1 + m) (by omega) (by omega)]
        unfold idF
        show _ + (if q < b ∧ b < q + 1 + m then _ else _) = _
        by_cases e : q + 1 + m = b
        · subst e; rw [if_pos rfl, if_neg (by omega), if_pos (by omega)]; omega
        · rw [if_neg e]
          by_cases e2 : q < b ∧ b < q + 1 + m
          · rw [if_pos e2, if_pos (by omega)]; omega
          · rw [if_neg e2, if_neg (by omega)]; omega
      rw [e] at h2
      exact near_trans h2 h1
  have h1 := A (n - (q + 1)) (by omega)
  have h2 := hg.near (upd f q (fun j => if q < j ∧ j < q + 1 + (n - (q + 1)) then 0 else f q j)) (upd f q (fun b => f q q * idF q b + (fun _ => (0 : Int)) b)) (fun i hi j hj => by
    by_cases e : i = q
    · subst e
      rw [upd_self, upd_self]
      show p ∣ (if i < j ∧ j < i + 1 + (n - (i + 1)) then 0 else f i j) - (f i i * idF i j + 0)
      unfold idF
      by_cases e2 : i = j
      · subst e2; rw [if_neg (by omega), if_pos rfl, Int.mul_one, Int.add_zero, Int.sub_self]; exact Int.dvd_zero p
      · rw [if_neg e2]
        by_cases e3 : i < j ∧ j < i + 1 + (n - (i + 1))
        · rw [if_pos e3]; simp
        · rw [if_neg e3, hlow j (by omega)]; simp
    · rw [upd_ne _ _ e, upd_ne _ _ e, Int.sub_self]; exact Int.dvd_zero p)
  have h3 := hg.lin f q (f q q) (idF q) (fun _ => 0) hq
  have h4 := hg.zero (i := q) hq (upd f q (fun _ => 0)) (fun b _ => by rw [upd_self]; exact Int.dvd_zero p)
  have h5 := near_trans (near_trans (near_symm h1) h2) h3
  have h6 := Int.dvd_add h5 h4
  generalize g (upd f q (idF q)) = a at h6 ⊢
  generalize g (upd f q (fun _ => 0)) = b at h6
  rwa [show g f - (f q q * a + b) + b = g f - f q q * a by omega] at h6
theorem Alt.tri {p : Int} {n : Nat} {g : (Nat → Nat → Int) → Int} (hg : Alt p n g) : ∀ (m : Nat), m ≤ n → ∀ f, (∀ i, m ≤ i → i < n → ∀ j, f i j = idF i j) → (∀ j, j < n → ∀ i, j < i → i < n → f i j = 0) → p ∣ g f - diag f m * g idF
  | 0, _, f, hun, _ => by
    show p ∣ g f - 1 * g idF
    rw [Int.one_mul]
    exact hg.near _ _ fun i hi j hj => by rw [hun i (by omega) hi, Int.sub_self]; exact Int.dvd_zero p
  | m + 1, hm, f, hun, hlow => by
    have h1 := hg.row (q := m) (by omega) f (fun j hj => hlow j (by omega) m hj (by omega)) (fun i hi1 hi j => hun i (by omega) hi j)
    have h2 := Alt.tri hg m (by omega) (upd f m (idF m)) (fun i hi1 hi j => by
      by_cases e : i = m
      · subst e; rw [upd_self]
      · rw [upd_ne _ _ e]; exact hun i (by omega) hi j) (fun j hj i hji hi => by
      by_cases e : i = m
      · subst e; rw [upd_self]; unfold idF; rw [if_neg (by omega)]
      · rw [upd_ne _ _ e]; exact hlow j hj i hji hi)
    rw [diag_congr m (g := f) (fun q hq => by rw [upd_ne _ _ (by omega)])] at h2
    have h3 := Int.dvd_add h1 (dvd_mulL h2 (f m m))
    generalize g (upd f m (idF m)) = a at h3
    show p ∣ g f - diag f m * f m m * g idF
    generalize diag f m = D at h3 ⊢
    generalize f m m = x at h3 ⊢
    generalize g idF = y at h3 ⊢
    rwa [show g f - x * a + x * (a - D * y) = g f - D * x * y by grind] at h3
/-- what the elimination computes, for each such function -/
theorem detV_alt {p : Int} (hp : primeB p = true) {n : Nat} {M : List (List Int)} (h : VM p n M) (hn : M.length = n) {g : (Nat → Nat → Int) → Int} (hg : Alt p n g) : p ∣ g (at2 M) - detV p M * g idF := by
  have hpb := prime_ge hp
  have step : ∀ c, c ≤ n → detE p M c = none → p ∣ g (at2 M) ∧ detV p M = 0 := by
    intro c
    induction c with
    | zero => intro _ he; simp [detE] at he
    | succ c ih =>
      intro hc he
      cases he0 : detE p M c with
      | none => exact ih (by omega) he0
      | some x =>
        obtain ⟨N0, d0⟩ := x
        refine ⟨?_, detV_none he (by omega)⟩
        obtain ⟨h1, h2, h3, s, hs, h4, h5⟩ := detE_tri hp h hn hg c (by omega) N0 d0 he0
        rw [detE_step he0] at he
        cases hf : firstW N0 c (N0.length - c) c with
        | some r => rw [detStep_some hf] at he; simp at he
        | none =>
          have hz := firstW_none hf
          obtain ⟨v, ⟨q, hq, hv1⟩, hv⟩ := pigeon hp (r := c) (s := c + 1) (by omega) (at2 N0)
          have hk : Ker p n n (at2 N0) (fun j => if j < c + 1 then v j else 0) := fun i hi => by
            have e : sigN n (fun j => at2 N0 i j * (if j < c + 1 then v j else 0)) = sigN (c + 1) (fun j => at2 N0 i j * v j) := by
              rw [sigN_heads (fun k => k) (m := c + 1) (fun k hk => by omega) (fun k k' h1 _ => h1) (fun j hj hne => by
                by_cases e : j < c + 1
                · exact absurd rfl (hne j e)
                · simp [if_neg e])]
              exact sigN_congr fun k hk => by rw [if_pos hk]
            rw [e]
            by_cases hi2 : i < c
            · exact hv i hi2
            · rw [sigN_zero (fun j hj => by
                by_cases e2 : j = c
                · rw [e2, hz i (by omega) (by omega)]; simp
                · rw [h3.low j (by omega) i (by omega) hi]; simp)]
              exact Int.dvd_zero p
          have h6 := hg.dependc hp (c := q) (by omega) (at2 N0) _ (by show (if q < c + 1 then v q else 0) = 1; rw [if_pos hq]; exact hv1) hk
          exact (near_move h4).2 (dvd_mulL h6 s)
  cases he : detE p M n with
  | none =>
    obtain ⟨h1, h2⟩ := step n (Nat.le_refl _) he
    rw [h2]
    simpa using h1
  | some x =>
    obtain ⟨N, d⟩ := x
    obtain ⟨h1, h2, h3, s, hs, h4, h5⟩ := detE_tri hp h hn hg n (Nat.le_refl _) N d he
    rw [detV_some (by rw [hn]; exact he)]
    have h6 := hg.tri n (Nat.le_refl _) (at2 N) (fun i hi1 hi => absurd hi (by omega)) h3.low
    have h7 := Int.dvd_sub (Int.dvd_add h4 (dvd_mulL h6 s)) (dvd_mulR h5 (g idF))
    generalize g (at2 M) = a at h7 ⊢
    generalize g (at2 N) = b at h7
    generalize g idF = y at h7 ⊢
    generalize diag (at2 N) n = D at h7
    rwa [show a - s * b + s * (b - D * y) - (d - s * D) * y = a - d * y by grind] at h7
theorem detV_dt {p : Int} (hp : primeB p = true) {n : Nat} {M : List (List Int)} (h : VM p n M) (hn : M.length = n) : p ∣ dt n (at2 M) - detV p M := by
  have := detV_alt hp h hn (alt_dt p n)
  rwa [dt_one, Int.mul_one] at this
theorem detV_num {p : Int} (hp : primeB p = true) {n : Nat} {M : List (List Int)} (h : VM p n M) (hn : M.length = n) : numB p (detV p M) = true := by
  have hpb := prime_ge hp
  cases he : detE p M n with
  | none => rw [detV_none he (by omega)]; exact numB_mk hp (by omega) (by omega)
  | some x =>
    obtain ⟨N, d⟩ := x
    rw [detV_some (by rw [hn]; exact he)]
    exact (detE_inv hp h n (by omega) N d he).2.2
/-- a product's: the product of both -/
theorem alt_times (p : Int) (n : Nat) (B : Nat → Nat → Int) : Alt p n (fun f => dt n (fun i j => sigN n (fun k => f i k * B k j))) := by
  have hg := alt_dt p n
  have e : ∀ f i (x : Nat → Int), (fun a j => sigN n (fun k => upd f i x a k * B k j)) = upd (fun a j => sigN n (fun k => f a k * B k j)) i (fun j => sigN n (fun k => x k * B k j)) := by
    intro f i x
    funext a j
    by_cases h : a = i
    · subst h; rw [upd_self, upd_self]
    · rw [upd_ne _ _ h, upd_ne _ _ h]
  refine ⟨fun f f' h => hg.near _ _ fun i hi j hj => sigN_near fun k hk => ?_, fun f i c x y hi => ?_, fun f k hk he => ?_⟩
  · rw [← Int.sub_mul]; exact dvd_mulR (h i hi k hk) _
  · show p ∣ dt n (fun a j => sigN n (fun k => upd f i _ a k * B k j)) - (c * dt n (fun a j => sigN n (fun k => upd f i x a k * B k j)) + dt n (fun a j => sigN n (fun k => upd f i y a k * B k j)))
    rw [e, e, e]
    have := hg.lin (fun a j => sigN n (fun k => f a k * B k j)) i c (fun j => sigN n (fun k => x k * B k j)) (fun j => sigN n (fun k => y k * B k j)) hi
    rwa [show (fun b => c * (fun j => sigN n (fun k => x k * B k j)) b + (fun j => sigN n (fun k => y k * B k j)) b) = fun j => sigN n (fun k => (c * x k + y k) * B k j) by
      funext b
      show c * sigN n _ + sigN n _ = _
      rw [← sigN_mul, ← sigN_add]
      exact sigN_congr fun k _ => by grind] at this
  · refine hg.adj _ k hk fun b hb => ?_
    exact sigN_congr fun q hq => by rw [he q hq]
theorem alt_turn {p : Int} (hp : primeB p = true) (n : Nat) : Alt p n (fun f => dt n (fun i j => f j i)) := by
  have hg := alt_dt p n
  refine ⟨fun f f' h => hg.near _ _ fun i hi j hj => h j hj i hi, fun f i c x y hi => ?_, fun f k hk he => ?_⟩
  · have e : ∀ z : Nat → Int, (fun a b => upd f i z b a) = updc (fun a b => f b a) i z := fun z => by funext a b; rfl
    show p ∣ dt n (fun a b => upd f i _ b a) - (c * dt n (fun a b => upd f i x b a) + dt n (fun a b => upd f i y b a))
    rw [e, e, e, dt_linc n _ i c x y hi, Int.sub_self]
    exact Int.dvd_zero p
  · refine hg.dependc hp (c := k) (by omega) (fun i j => f j i) (fun j => if j = k then 1 else if j = k + 1 then -1 else 0) (by rw [if_pos rfl]) fun i hi => ?_
    rw [sigN_two (c := k) (d := k + 1) (by omega) (by omega) hk (fun j _ h1 h2 => by
      show f j i * (if j = k then 1 else if j = k + 1 then -1 else 0) = 0
      rw [if_neg h1, if_neg h2]; simp)]
    show p ∣ f k i * (if k = k then 1 else if k = k + 1 then -1 else 0) + f (k + 1) i * (if k + 1 = k then 1 else if k + 1 = k + 1 then -1 else 0)
    rw [if_pos rfl, if_neg (by omega), if_pos rfl, he i hi]
    rw [show f (k + 1) i * 1 + f (k + 1) i * -1 = 0 by omega]
    exact Int.dvd_zero p
theorem det_sq {p : Int} {M : List (List Int)} (h : matB p M = true) (hsq : M.length = (M.headD []).length) : VM p M.length M := by have := VM_of_mat h; rwa [← hsq] at this
theorem detV_times {p : Int} {A B : List (List Int)} (hA : matB p A = true) (hB : matB p B = true) (sA : A.length = (A.headD []).length) (sB : B.length = (B.headD []).length) (hl : B.length = A.length) : detV p (timesM p A B) = detV p A * detV p B % p := by
  have hp := prime_of_mat hA
  have VA := det_sq hA sA
  have VB := det_sq hB sB
  rw [hl] at VB
  have hVT := VM.times hp A B
  rw [← sB, hl] at hVT
  have h1 := detV_dt hp hVT (timesM_len p A B)
  have h2 := detV_alt hp VA rfl (alt_times p A.length (at2 B))
  have h3 := detV_dt hp VB hl
  have h4 : p ∣ dt A.length (at2 (timesM p A B)) - dt A.length (fun i j => sigN A.length (fun k => at2 A i k * at2 B k j)) := dt_near _ _ _ fun i hi j hj => by
    rw [times_at VA hi (by omega)]; exact near_mod _ _
  have h5 : dt A.length (fun i j => sigN A.length (fun k => idF i k * at2 B k j)) = dt A.length (at2 B) := dt_congr _ _ _ fun i hi j hj => by
    rw [sigN_one hi (fun k hk hne => by unfold idF; rw [if_neg (fun e => hne e.symm)]; simp)]
    unfold idF; rw [if_pos rfl, Int.one_mul]
  have h2' : p ∣ dt A.length (fun i j => sigN A.length (fun k => at2 A i k * at2 B k j)) - detV p A * dt A.length (fun i j => sigN A.length (fun k => idF i k * at2 B k j)) := h2
  rw [h5] at h2'
  have hn := numB_true (detV_num hp hVT (timesM_len p A B))
  rw [← Int.emod_eq_of_lt hn.2.1 hn.2.2]
  refine mod_of_near (near_trans (near_trans (near_symm h1) h4) ?_)
  refine near_trans h2' ?_
  rw [← Int.mul_sub]
  exact dvd_mulL h3 _
theorem detV_turn {p : Int} {M : List (List Int)} (h : matB p M = true) (hsq : M.length = (M.headD []).length) : detV p (turnM M) = detV p M := by
  have hp := prime_of_mat h
  have hV := det_sq h hsq
  have hVT := VM.turn h
  have hl : (turnM M).length = M.length := by rw [turnM_len, hsq]
  have h1 := detV_dt hp hVT hl
  have h2 : p ∣ dt M.length (fun i j => at2 M j i) - detV p M * dt M.length (fun i j => idF j i) := detV_alt hp hV rfl (alt_turn hp M.length)
  have h3 : dt M.length (fun i j => idF j i) = 1 := by
    rw [← dt_one M.length]
    exact dt_congr _ _ _ fun i _ j _ => by unfold idF; by_cases e : i = j <;> simp [e, eq_comm]
  rw [h3, Int.mul_one] at h2
  rw [dt_congr M.length (at2 (turnM M)) (fun i j => at2 M j i) fun i hi j hj => turn_at (by omega)] at h1
  have hn := numB_true (detV_num hp hVT hl)
  have hn2 := numB_true (detV_num hp hV rfl)
  exact near_eq (near_trans (near_symm h1) h2) hn.2.1 hn.2.2 hn2.2.1 hn2.2.2
theorem detV_rank {p : Int} {M : List (List Int)} (h : matB p M = true) (hsq : M.length = (M.headD []).length) : detV p M = 0 ↔ (elim p M (M.headD []).length).2.length < M.length := by
  have hp := prime_of_mat h
  have hpb := prime_ge hp
  have hV := det_sq h hsq
  have h1 := detV_dt hp hV rfl
  have hn := numB_true (detV_num hp hV rfl)
  constructor
  · intro hz
    refine Classical.byContradiction fun hno => ?_
    have hle := (rank_bd h).1
    have hfull : (elim p M (M.headD []).length).2.length = M.length := by omega
    have hex : ∀ j, j < M.length → ∃ x : Nat → Int, ∀ i, i < M.length → p ∣ sigN M.length (fun k => at2 M i k * x k) - idF i j := by
      intro j hj
      obtain ⟨want, hw⟩ : ∃ want : List Int, want = (List.range M.length).map (fun i => idF i j) := ⟨_, rfl⟩
      have hwl : want.length = M.length := by rw [hw]; simp
      have hwv : rowB p want = true := List.all_eq_true.2 fun x hx => by
        rw [hw] at hx
        obtain ⟨i, _, rfl⟩ := List.mem_map.1 hx
        unfold idF
        split
        · exact numB_mk hp (by omega) (by omega)
        · exact numB_mk hp (by omega) (by omega)
      obtain ⟨s1, s2⟩ := solve_law h hwl hwv
      have hVW := VM.widen (VM_of_mat h) (rowB_mem hwv)
      have hWl := widenM_len hwl
      have i1 := (elim_inv hp hVW ((M.headD []).length + 1)).2.2.1
      have hsame : (elim p M (M.headD []).length).2.length ≤ (elim p (widenM M want) ((M.headD []).length + 1)).2.length := by
        have hRW := elim_red hp hVW ((M.headD []).length + 1) (Nat.le_refl _)
        have hF := Fac.elim hp hVW
        rw [hWl] at hF
        refine rank_le hp (VM_of_mat h) ?_
        obtain ⟨X, Y, hF⟩ := hF
        exact ⟨X, Y, fun i hi q hq => by rw [← (widen_at (VM_of_mat h) hwl hi).1 q hq]; exact hF i hi q (by omega)⟩
      have hd : (elim p (widenM M want) ((M.headD []).length + 1)).2.length = (elim p M (M.headD []).length).2.length := by omega
      rw [hd, decide_eq_true rfl] at s1
      obtain ⟨x, hx⟩ := Option.isSome_iff_exists.1 s1
      obtain ⟨_, s3⟩ := s2 x hx
      refine ⟨fun k => x.getD k 0, fun i hi => ?_⟩
      have s4 := s3 i hi
      rw [← hsq] at s4
      have s5 : want.getD i 0 = idF i j := by rw [hw, List.getD_eq_getElem?_getD, List.getElem?_map, List.getElem?_range hi]; rfl
      rw [s5] at s4
      have s6 := near_symm (near_mod p (sigN M.length (fun k => at2 M i k * x.getD k 0)))
      rwa [s4] at s6
    have hB : ∃ B : Nat → Nat → Int, ∀ j, j < M.length → ∀ i, i < M.length → p ∣ sigN M.length (fun k => at2 M i k * B k j) - idF i j := by
      refine ⟨fun k j => if hj : j < M.length then Classical.choose (hex j hj) k else 0, fun j hj i hi => ?_⟩
      simp only [dif_pos hj]
      exact Classical.choose_spec (hex j hj) i hi
    obtain ⟨B, hB⟩ := hB
    have h2 := detV_alt hp hV rfl (alt_times p M.length B)
    rw [hz, Int.zero_mul, Int.sub_zero] at h2
    have h3 : p ∣ dt M.length (fun i j => sigN M.length (fun k => at2 M i k * B k j)) - dt M.length idF := dt_near _ _ _ fun i hi j hj => hB j hj i hi
    rw [dt_one] at h3
    have h4 := (near_move h3).1 h2
    have := Int.le_of_dvd (by omega) h4
    omega
  · intro hlt
    obtain ⟨X, Y, hf⟩ := Fac.elim hp (VM_of_mat h)
    rw [← hsq] at hf
    rw [← hsq] at hlt
    obtain ⟨u, ⟨d, hd, hu1⟩, hu⟩ := pigeon hp hlt (fun k i => X i k)
    have h2 : p ∣ dt M.length (at2 M) := (alt_dt p M.length).depend hd _ u hu1 fun j hj => by
      refine (near_move (sigN_near (f := fun i => u i * at2 M i j) (g := fun i => u i * sigN (elim p M M.length).2.length (fun k => X i k * Y k j)) fun i hi => by rw [← Int.mul_sub]; exact dvd_mulL (hf i hi j hj) _)).2 ?_
      rw [sigN_congr (g := fun i => sigN (elim p M M.length).2.length (fun k => X i k * u i * Y k j)) (fun i _ => by rw [← sigN_mul]; exact sigN_congr fun k _ => by grind), sigN_swap]
      refine sigN_dvd fun k hk => ?_
      rw [sigN_mulr]
      exact dvd_mulR (hu k hk) _
    exact near_zero ((near_move h1).1 h2) hn.2.1 hn.2.2
end Go.Proofs.Ytdecaokngedghaa
namespace Go.Proofs.Ytdecaokngedghaa
/-- each window is made of the first ones -/
theorem stm_span {p : Int} {T F : List Int} (hl : F.length = T.length) : ∀ i, ∃ X : Nat → Int, ∀ j, p ∣ stm p T F (i + j) - sigN T.length (fun k => X k * stm p T F (k + j)) := by
  intro i
  induction i using Nat.strongRecOn with
  | ind i ih =>
    by_cases h : i < T.length
    · refine ⟨fun k => if k = i then 1 else 0, fun j => ?_⟩
      rw [sigN_one h (fun k _ hk => by simp [hk])]
      simp
    · have hX : ∃ X : Nat → Nat → Int, ∀ q, q < T.length → ∀ j, p ∣ stm p T F (i - 1 - q + j) - sigN T.length (fun k => X q k * stm p T F (k + j)) := by
        refine ⟨fun q => if hq : q < T.length then Classical.choose (ih (i - 1 - q) (by omega)) else fun _ => 0, fun q hq => ?_⟩
        simp only [dif_pos hq]
        exact Classical.choose_spec (ih (i - 1 - q) (by omega))
      obtain ⟨X, hX⟩ := hX
      refine ⟨fun k => sigN T.length (fun q => co T q * X q k), fun j => ?_⟩
      rw [stm_next p T F hl (by omega)]
      refine near_trans (near_mod _ _) ?_
      have e : sigN T.length (fun k => sigN T.length (fun q => co T q * X q k) * stm p T F (k + j)) = sigN T.length (fun q => co T q * sigN T.length (fun k => X q k * stm p T F (k + j))) := by
        rw [sigN_congr (g := fun k => sigN T.length (fun q => co T q * (X q k * stm p T F (k + j)))) (fun k _ => by rw [← sigN_mulr]; exact sigN_congr fun q _ => Int.mul_assoc _ _ _), sigN_swap]
        exact sigN_congr fun q _ => sigN_mul _ _ _
      rw [e]
      refine sigN_near fun q hq => ?_
      rw [← Int.mul_sub, show i + j - 1 - q = i - 1 - q + j by omega]
      exact dvd_mulL (hX q hq j) _
theorem rank_span {p : Int} (hp : primeB p = true) {T F : List Int} (hl : F.length = T.length) {R : Nat} {M : List (List Int)} (hM : VM p R M) (hn : M.length = R) (ha : ∀ i, i < R → ∀ j, j < R → at2 M i j = stm p T F (i + j)) : (elim p M R).2.length ≤ T.length := by
  refine rank_le hp hM ?_
  refine ⟨fun i => Classical.choose (stm_span (p := p) hl i), fun k j => stm p T F (k + j), fun i hi j hj => ?_⟩
  rw [ha i (by omega) j hj]
  exact Classical.choose_spec (stm_span (p := p) hl i) j
/-- what a sum of d numbers kills has a recurrence of less order -/
theorem kill_rec {p : Int} {T F : List Int} (h : recB p T F = true) (v : Nat → Int) (c : Nat) (hv : ¬ p ∣ v c) : ∀ d, d ≤ T.length → c < d → (∀ i, p ∣ sigN d (fun q => v q * stm p T F (i + q))) → ∃ T' F', recB p T' F' = true ∧ T'.length < d ∧ ∀ k, stm p T' F' k = stm p T F k
  | 0, _, hc, _ => absurd hc (by omega)
  | d + 1, hd, hc, hk => by
    obtain ⟨hp, h6, hl, hT, hF⟩ := recB_true h
    have hpb := prime_ge hp
    by_cases hz : p ∣ v d
    · have hcd : c ≠ d := fun e => hv (e ▸ hz)
      obtain ⟨T', F', h1, h2, h3⟩ := kill_rec h v c hv d (by omega) (by omega) (fun i => by
        have e : sigN (d + 1) (fun q => v q * stm p T F (i + q)) = sigN d (fun q => v q * stm p T F (i + q)) + v d * stm p T F (i + d) := rfl
        have := Int.dvd_sub (hk i) (dvd_mulR hz (stm p T F (i + d)))
        rwa [e, Int.add_sub_cancel] at this)
      exact ⟨T', F', h1, by omega, h3⟩
    · obtain ⟨b, hb⟩ : ∃ b, invM p (v d % p) = b := ⟨_, rfl⟩
      have hbv : p ∣ v d * b - 1 := by
        have h0 : v d % p ≠ 0 := fun e => hz (Int.dvd_of_emod_eq_zero e)
        have h1 := inv_ok hp (Int.emod_nonneg (v d) (by omega)) (Int.emod_lt_of_pos (v d) (by omega)) h0
        rw [hb] at h1
        have h2 : p ∣ v d % p * b - 1 := by have := near_mod p (v d % p * b); rw [h1] at this; exact near_symm this
        have h3 := Int.dvd_sub h2 (dvd_mulR (near_mod p (v d)) b)
        rwa [show v d % p * b - 1 - (v d % p - v d) * b = v d * b - 1 by grind] at h3
      have hTg : ∀ q, q < d → co ((List.range d).map fun q => -(v (d - 1 - q)) * b % p) q = -(v (d - 1 - q)) * b % p := fun q hq => by
        unfold co
        rw [List.getD_eq_getElem?_getD, List.getElem?_map, List.getElem?_range hq]; rfl
      refine ⟨(List.range d).map fun q => -(v (d - 1 - q)) * b % p, trm p T F d, recB_mk hp (by simp; omega) (by rw [trm_len]; simp) (fun x hx => ?_) (trm_num h d), by simp, fun k => ?_⟩
      · obtain ⟨q, _, rfl⟩ := List.mem_map.1 hx
        exact numB_emod hp _
      · have hTl : ((List.range d).map fun q => -(v (d - 1 - q)) * b % p).length = d := by simp
        generalize hTT : ((List.range d).map fun q => -(v (d - 1 - q)) * b % p) = TT at hTg hTl ⊢
        induction k using Nat.strongRecOn with
        | ind k ih =>
          by_cases hkd : k < d
          · rw [stm_low p TT _ (by rw [trm_len]; exact hkd)]
            exact co_trm p T F hkd
          · rw [stm_next p TT _ (by rw [trm_len, hTl]) (by rw [trm_len]; omega), hTl]
            have hs := numB_true (stm_num h k)
            refine near_eq (p := p) (near_trans (near_mod _ _) ?_) (Int.emod_nonneg _ (by omega)) (Int.emod_lt_of_pos _ (by omega)) hs.2.1 hs.2.2
            rw [sigN_congr (g := fun q => (-(v (d - 1 - q)) * b % p) * stm p T F (k - 1 - q)) (fun q hq => by rw [hTg q hq, ih (k - 1 - q) (by omega)])]
            have e1 : p ∣ sigN d (fun q => (-(v (d - 1 - q)) * b % p) * stm p T F (k - 1 - q)) - sigN d (fun q => (fun j => -(v j) * b * stm p T F (k - d + j)) (d - 1 - q)) := by
              refine sigN_near fun q hq => ?_
              show p ∣ _ - -(v (d - 1 - q)) * b * stm p T F (k - d + (d - 1 - q))
              rw [show k - d + (d - 1 - q) = k - 1 - q by omega, ← Int.sub_mul]
              exact dvd_mulR (near_mod _ _) _
            refine near_trans e1 ?_
            rw [sigN_rev (fun j => -(v j) * b * stm p T F (k - d + j)) d]
            have h5 := hk (k - d)
            have e : sigN (d + 1) (fun q => v q * stm p T F (k - d + q)) = sigN d (fun q => v q * stm p T F (k - d + q)) + v d * stm p T F (k - d + d) := rfl
            rw [e, show k - d + d = k by omega] at h5
            have e2 : sigN d (fun j => -(v j) * b * stm p T F (k - d + j)) = -b * sigN d (fun q => v q * stm p T F (k - d + q)) := by
              rw [← sigN_mul]
              exact sigN_congr fun q _ => by grind
            rw [e2]
            generalize sigN d (fun q => v q * stm p T F (k - d + q)) = S at h5
            generalize stm p T F k = s at h5
            have h6 := Int.dvd_sub (dvd_mulR hbv s) (dvd_mulR h5 b)
            rwa [show (v d * b - 1) * s - (S + v d * s) * b = -b * S - s by grind] at h6
theorem rank_least {p : Int} {T F : List Int} (h : recB p T F = true) {R d : Nat} (hR : T.length ≤ R) (hd : d ≤ T.length) (least : ∀ T' F', recB p T' F' = true → (∀ k, stm p T' F' k = stm p T F k) → d ≤ T'.length) {M : List (List Int)} (hM : VM p R M) (hn : M.length = R) (ha : ∀ i, i < R → ∀ j, j < R → at2 M i j = stm p T F (i + j)) : d ≤ (elim p M R).2.length := by
  refine Classical.byContradiction fun hno => ?_
  obtain ⟨hp, h6, hl, hT, hF⟩ := recB_true h
  have hpb := prime_ge hp
  obtain ⟨X, Y, hf⟩ := Fac.elim hp hM
  obtain ⟨v, ⟨c, hc, hv1⟩, hv⟩ := pigeon hp (r := (elim p M R).2.length) (s := d) (by omega) (fun k q => Y k q)
  have h0 : ∀ i, i < R → p ∣ sigN d (fun q => v q * stm p T F (i + q)) := fun i hi => by
    have h2 : p ∣ sigN d (fun q => v q * stm p T F (i + q)) - sigN d (fun q => v q * sigN (elim p M R).2.length (fun k => X i k * Y k q)) := by
      refine sigN_near fun q hq => ?_
      rw [← Int.mul_sub, ← ha i hi q (by omega)]
      exact dvd_mulL (hf i (by omega) q (by omega)) _
    have h3 : sigN d (fun q => v q * sigN (elim p M R).2.length (fun k => X i k * Y k q)) = sigN (elim p M R).2.length (fun k => X i k * sigN d (fun q => Y k q * v q)) := by
      rw [sigN_congr (g := fun q => sigN (elim p M R).2.length (fun k => X i k * (Y k q * v q))) (fun q _ => by rw [← sigN_mul]; exact sigN_congr fun k _ => by grind), sigN_swap]
      exact sigN_congr fun k _ => sigN_mul _ _ _
    rw [h3] at h2
    exact (near_move h2).2 (sigN_dvd fun k hk => dvd_mulL (hv k hk) _)
  have hK : kills p (co (recP p T)) T.length (fun i => sigN d (fun q => v q * stm p T F (i + q))) := fun k => by
    have e : app (co (recP p T)) (fun i => sigN d (fun q => v q * stm p T F (i + q))) (T.length + 1) k = sigN d (fun q => v q * app (co (recP p T)) (stm p T F) (T.length + 1) (k + q)) := by
      unfold app
      rw [sigN_congr (g := fun j => sigN d (fun q => v q * (co (recP p T) j * stm p T F (k + q + j)))) (fun j _ => by rw [← sigN_mul]; exact sigN_congr fun q _ => by rw [show k + j + q = k + q + j by omega]; grind), sigN_swap]
      exact sigN_congr fun q _ => sigN_mul _ _ _
    rw [e]
    exact sigN_dvd fun q _ => dvd_mulL (recP_kills p T F hl (k + q)) _
  have hk := kills_zero (by rw [co_recP_top]; simp) hK (fun j hj => h0 j (by omega))
  obtain ⟨T', F', h1, h2, h3⟩ := kill_rec h v c (fun e => by rw [hv1] at e; have := Int.le_of_dvd (by omega) e; omega) d hd hc hk
  have := least T' F' h1 h3
  omega
end Go.Proofs.Ytdecaokngedghaa
namespace Go.Proofs.Ytdecaokngedghaa
theorem least_exists {p : Int} : ∀ (n : Nat) (T F : List Int), T.length ≤ n → recB p T F = true → ∃ T' F', recB p T' F' = true ∧ (∀ k, stm p T' F' k = stm p T F k) ∧ T'.length ≤ T.length ∧ ∀ T2 F2, recB p T2 F2 = true → (∀ k, stm p T2 F2 k = stm p T F k) → T'.length ≤ T2.length
  | 0, T, F, hn, h => ⟨T, F, h, fun _ => rfl, Nat.le_refl _, fun _ _ _ _ => by omega⟩
  | n + 1, T, F, hn, h => by
    by_cases hm : ∃ T2 F2, recB p T2 F2 = true ∧ (∀ k, stm p T2 F2 k = stm p T F k) ∧ T2.length < T.length
    · obtain ⟨T2, F2, h1, h2, h3⟩ := hm
      obtain ⟨T', F', r1, r2, r3, r4⟩ := least_exists n T2 F2 (by omega) h1
      exact ⟨T', F', r1, fun k => (r2 k).trans (h2 k), by omega, fun T3 F3 h5 h6 => r4 T3 F3 h5 (fun k => (h6 k).trans (h2 k).symm)⟩
    · exact ⟨T, F, h, fun _ => rfl, Nat.le_refl _, fun T2 F2 h1 h2 => by
        refine Classical.byContradiction fun hno => hm ⟨T2, F2, h1, h2, by omega⟩⟩
theorem sqr_headN {p : Int} {T F : List Int} {R : Nat} (h1 : 1 ≤ R) : ((sqrL p T F R).headD []).length = R := by
  have h0 : (sqrL p T F R).headD [] = winL (trm p T F (2 * R - 1)) R 0 := headD_of (tabL_get _ (by omega))
  rw [h0]
  exact winL_len (by rw [trm_len]; omega)
theorem sqr_matN {p : Int} {T F : List Int} (h : recB p T F = true) {R : Nat} (h1 : 1 ≤ R) (h8 : R ≤ 8) : matB p (sqrL p T F R) = true := by
  have hx := trm_num h (2 * R - 1)
  rw [matB_of ⟨by rw [sqr_len]; omega, by rw [sqr_len]; omega, by rw [sqr_headN h1]; omega, by rw [sqr_headN h1]; omega⟩, sqr_headN h1]
  refine List.all_eq_true.2 (fun row hr => ?_)
  obtain ⟨k, hk, rfl⟩ := List.mem_map.1 hr
  have hk := List.mem_range.1 hk
  unfold rowOk rowB
  rw [winL_len (by rw [trm_len]; omega), decide_eq_true rfl, Bool.true_and]
  refine List.all_eq_true.2 (fun x hxm => hx x ?_)
  unfold winL at hxm
  exact List.mem_of_mem_drop (List.mem_of_mem_take hxm)
theorem sqr_atN {p : Int} {T F : List Int} {R i j : Nat} (hi : i < R) (hj : j < R) : at2 (sqrL p T F R) i j = stm p T F (i + j) := by
  have h1 : (sqrL p T F R).getD i [] = winL (trm p T F (2 * R - 1)) R i := by
    unfold sqrL
    rw [List.getD_eq_getElem?_getD, tabL_get _ hi]; rfl
  unfold at2
  rw [h1]
  unfold winL
  rw [List.getD_eq_getElem?_getD, List.getElem?_take_of_lt hj, List.getElem?_drop, ← List.getD_eq_getElem?_getD]
  exact co_trm p T F (by omega)
theorem sqr_vm {p : Int} {T F : List Int} (h : recB p T F = true) {R : Nat} (h1 : 1 ≤ R) (h8 : R ≤ 8) : VM p R (sqrL p T F R) := by
  have := VM_of_mat (sqr_matN h h1 h8); rwa [sqr_headN h1] at this
/-- the rank, and the determinants -/
theorem dets_law {p : Int} {T F : List Int} (h : recB p T F = true) : ∃ d : Nat, streamRankR p T F = (d : Int) ∧ d ≤ T.length ∧ (∀ k, d ≤ k → k < 8 → detR p (sqrL p T F (k + 1)) = 0) ∧ (1 ≤ d → detR p (sqrL p T F d) ≠ 0) := by
  obtain ⟨T', F', r1, r2, r3, r4⟩ := least_exists T.length T F (Nat.le_refl _) h
  have hp := (recB_true h).1
  have h6 := (recB_true h).2.1
  have hup : ∀ R, 1 ≤ R → R ≤ 8 → (elim p (sqrL p T F R) R).2.length ≤ T'.length := fun R h1 h8 =>
    rank_span hp (recB_true r1).2.2.1 (sqr_vm h h1 h8) (sqr_len p T F R) (fun i hi j hj => by rw [sqr_atN hi hj, r2])
  have hlow : ∀ R, 1 ≤ R → R ≤ 8 → T'.length ≤ R → T'.length ≤ (elim p (sqrL p T F R) R).2.length := fun R h1 h8 hR =>
    rank_least r1 hR (Nat.le_refl _) (fun T2 F2 h3 h4 => r4 T2 F2 h3 (fun k => (h4 k).trans (r2 k))) (sqr_vm h h1 h8) (sqr_len p T F R) (fun i hi j hj => by rw [sqr_atN hi hj, r2])
  have hdet : ∀ R, 1 ≤ R → R ≤ 8 → (detR p (sqrL p T F R) = 0 ↔ (elim p (sqrL p T F R) R).2.length < R) := fun R h1 h8 => by
    have hm := sqr_matN h h1 h8
    have hsq : (sqrL p T F R).length = ((sqrL p T F R).headD []).length := by rw [sqr_len, sqr_headN h1]
    have := detV_rank hm hsq
    rw [sqr_headN h1, sqr_len] at this
    unfold detR
    rw [if_pos hm, if_pos hsq]
    exact this
  refine ⟨T'.length, ?_, r3, fun k hk h8 => (hdet (k + 1) (by omega) (by omega)).2 ?_, fun h1 e => ?_⟩
  · unfold streamRankR rankR
    rw [if_pos h, if_pos (sqr_matN h (by decide) (by decide)), sqr_headN (by decide)]
    have e1 := hup 8 (by decide) (by decide)
    have e2 := hlow 8 (by decide) (by decide) (by omega)
    omega
  · have := hup (k + 1) (by omega) (by omega)
    omega
  · have e1 := (hdet T'.length h1 (by omega)).1 e
    have e2 := hlow T'.length h1 (by omega) (Nat.le_refl _)
    omega
end Go.Proofs.Ytdecaokngedghaa

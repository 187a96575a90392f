/-
  The contracts of squareTable, StreamRank of the program and of the model.
  Plain mathematics of the determinant, as both texts compute it; the contract of the program's MatDet.
  The contract of the program's MatDet.
  The contract of the model's MatDet.
  The contracts of TableDets of the program and of the model.
-/
import Derived.Deep.RegionHeld3
import Derived.Test.YtcjpjcigjljplaaTab
import Derived.Test.YtcjpjcigjljplaaSRt
import Derived.Test.YtcjpjcigjljplaaFormM
import Derived.Test.YtcjpjcigjljplaaBxs
import Derived.Test.YtcjpjcigjljplaaFormS
namespace Go.Proofs.Ytcjpjcigjljplaa
open Go.RowKit
theorem trm_ser {p : Int} {T F : List Int} (h : recB p T F = true) {m : Nat} (hm : m ≤ 24) : serB p (trm p T F m) = true :=
  serB_mk (recB_true h).1 (by rw [trm_len]; exact hm) (trm_num h m)
def sqrL (p : Int) (T F : List Int) (R : Nat) : List (List Int) := tabL (trm p T F (2 * R - 1)) R R
theorem sqr_terms {p : Int} {T F : List Int} (h : recB p T F = true) {R : Nat} (h1 : 1 ≤ R) (h8 : R ≤ 8) : termsO p T F (2 * (R : Int) - 1) = trm p T F (2 * R - 1) := by
  unfold termsO
  rw [if_pos ⟨h, by omega, by omega⟩]
  congr 1
  omega
theorem sqr_tab {p : Int} {T F : List Int} (h : recB p T F = true) {R : Nat} (h1 : 1 ≤ R) (h8 : R ≤ 8) : tabR p (trm p T F (2 * R - 1)) (R : Int) (R : Int) = sqrL p T F R := by
  unfold tabR
  rw [if_pos]
  · rfl
  · unfold tabOk inB
    rw [trm_ser h (by omega), trm_len]
    simp only [Bool.true_and, Bool.and_eq_true, decide_eq_true_eq]
    omega
theorem sqr_len (p : Int) (T F : List Int) (R : Nat) : (sqrL p T F R).length = R := tabL_len _ _ _
def streamRankR (p : Int) (T F : List Int) : Int := if recB p T F = true then rankR p (sqrL p T F 8) else -1
theorem streamRank_bd (p : Int) (T F : List Int) : -1 ≤ streamRankR p T F ∧ streamRankR p T F ≤ 13 := by
  unfold streamRankR
  split
  · rename_i h
    unfold rankR
    split
    · rename_i hm
      have h8 := (matB_true hm).2.2.2.1
      have hv := VM_of_mat hm
      have := (elim_inv (recB_true h).1 hv (((sqrL p T F 8).headD []).length)).2.2.2
      omega
    · omega
  · omega
set_option maxRecDepth 100000 in
set_option maxHeartbeats 4000000 in
theorem squareTable_any (v : Value) (p : Int) (T F : List Int) (R : Nat) (w : World) (h : RV w v p T F) (hv : recB p T F = true) (h1 : 1 ≤ R) (h8 : R ≤ 8) :
    Calls Try.prog 56 #[v, .int .i64 (R : Int)] w (MadeM R (sqrL p T F R) w) := by
  obtain ⟨A, n, c, b, o, A', n', c', b', o', rfl, g1, g2⟩ := h
  have hbx := Bx.new w (.int .i64 p) (.slice A n c) (.slice A' n' c') 42
  have hB0 : Below w.heap.size w (w.alloc (.cells #[.int .i64 p, .slice A n c, .slice A' n' c'] 42)) := (Below.refl _ w).alloc (Nat.le_refl _) _
  have HV0 := Lib.hid (show RV _ (.agg #[.int .i64 p, .slice A n c, .slice A' n' c']) p T F from ⟨_, _, _, _, _, _, _, _, _, _, rfl, g1.below hB0, g2.below hB0⟩)
  have HBX := Lib.hid hbx
  have HB0 := Lib.hid hB0
  have E1 := Lib.hid (sqr_terms hv h1 h8)
  have E2 := Lib.hid (sqr_tab hv h1 h8)
  have hw0 : IntKind.i64.wrap (2 * (R : Int)) = 2 * (R : Int) := IntWalk.i64_in _ ⟨by omega, by omega⟩
  have hw1 : IntKind.i64.wrap (2 * (R : Int) - 1) = 2 * (R : Int) - 1 := IntWalk.i64_in _ ⟨by omega, by omega⟩
  clear g1 g2 hB0 hbx hv
  go_enter Try.func56, Try.ntmps56
  go_wp2_with (fail)
  have HVd := Lib.hid (HV0.out.below (below_new_drew _))
  have HBd := Lib.hid HB0.out.drew
  have ZS := HBX.out
  have Zd := HBX.out.drew
  unfold Bx at ZS Zd
  go_region_held3 (fun w' => w'.cell? ⟨w.heap.size, 0, none⟩ = some (.int .i64 p) ∧ w'.cell? ⟨w.heap.size, 1, none⟩ = some (.slice A n c) ∧ w'.cell? ⟨w.heap.size, 2, none⟩ = some (.slice A' n' c')) (first | assumption | exact ZB | exact ZA | exact Zd | exact ZS | go_keep)
    (first
      | (go_at_call 79; refine (implRecTerms _ p T F (2 * (R : Int) - 1) _ HVd.out).mono ?_; rw [E1.out, trm_len]; rintro e w3 ⟨A5, c5, rfl, hO, hB⟩; obtain ⟨b5, hI⟩ := hO.ia; have hc5 := OI.capLe hO; have HI5 := Lib.hid hI; have HB3 := Lib.hid (below_more HBd.out hB); have HBX3 := Lib.hid (HBX.out.drew.below hB); have ZA := HBX3.out; unfold Bx at ZA; clear hO hB hI)
      | (go_at_call 11; refine (implTableOf p A5 _ c5 b5 0 (trm p T F (2 * R - 1)) (R : Int) (R : Int) _ HI5.out hc5).mono ?_; rw [E2.out, sqr_len]; rintro e w4 ⟨A6, c6, v6, rfl, hO, hB⟩; have HO6 := Lib.hid hO; have hs3 := HB3.out.size; have HB4 := Lib.hid (below_more HB3.out hB); have HBX4 := Lib.hid (HBX3.out.below hB); have ZB := HBX4.out; unfold Bx at ZB; clear hO hB))
  all_goals
    go_wp2_with (fail)
    go_ret
    exact ⟨A6, c6, v6, rfl, HO6.out.mono hs3, HB4.out⟩
set_option maxRecDepth 100000 in
set_option maxHeartbeats 4000000 in
theorem implStreamRank (v : Value) (p : Int) (T F : List Int) (w : World) (h : RV w v p T F) :
    Calls Try.prog 26 #[v] w (IntBelow (streamRankR p T F) w) := by
  obtain ⟨A, n, c, b, o, A', n', c', b', o', rfl, g1, g2⟩ := h
  have hbx := Bx.new w (.int .i64 p) (.slice A n c) (.slice A' n' c') 42
  have hB0 : Below w.heap.size w (w.alloc (.cells #[.int .i64 p, .slice A n c, .slice A' n' c'] 42)) := (Below.refl _ w).alloc (Nat.le_refl _) _
  have HV0 := Lib.hid (show RV _ (.agg #[.int .i64 p, .slice A n c, .slice A' n' c']) p T F from ⟨_, _, _, _, _, _, _, _, _, _, rfl, g1.below hB0, g2.below hB0⟩)
  have HBX := Lib.hid hbx
  have HB0 := Lib.hid hB0
  clear g1 g2 hB0 hbx
  rcases hv : recB p T F
  · have HV := Lib.hid hv
    have HE := Lib.hid (show streamRankR p T F = -1 by unfold streamRankR; rw [if_neg (by simp [hv])])
    clear hv
    go_enter Try.func26, Try.ntmps26
    go_wp2_with (go_at_call 54; refine (implRecValid _ p T F _ HV0.out).mono ?_; rintro e w1 ⟨rfl, hB⟩; rw [HV.out]; have HB := Lib.hid hB; clear hB)
    go_ret
    exact ⟨by rw [HE.out]; rfl, below_more HB0.out HB.out⟩
  have HV := Lib.hid hv
  have HE := Lib.hid (show streamRankR p T F = rankR p (sqrL p T F 8) by unfold streamRankR; rw [if_pos hv])
  clear hv
  go_enter Try.func26, Try.ntmps26
  go_wp2_with (go_at_call 54; refine (implRecValid _ p T F _ HV0.out).mono ?_; rintro e w1 ⟨rfl, hB⟩; rw [HV.out]; have HB1 := Lib.hid (below_more HB0.out hB); have HBX1 := Lib.hid (HBX.out.below hB); have HV1 := Lib.hid (HV0.out.below hB); have y0 := HBX1.out.1; have y1 := HBX1.out.2.1; have y2 := HBX1.out.2.2; clear hB)
  have HVd := Lib.hid (HV1.out.below (below_new_drew _))
  have HBd := Lib.hid HB1.out.drew
  have ZS := HBX1.out
  have Zd := HBX1.out.drew
  unfold Bx at ZS Zd
  go_region_held3 (fun w' => w'.cell? ⟨w.heap.size, 0, none⟩ = some (.int .i64 p) ∧ w'.cell? ⟨w.heap.size, 1, none⟩ = some (.slice A n c) ∧ w'.cell? ⟨w.heap.size, 2, none⟩ = some (.slice A' n' c')) (first | assumption | exact ZB | exact ZA | exact Zd | exact ZS | go_keep)
    (first
      | (go_at_call 56; refine (squareTable_any _ p T F 8 _ HVd.out HV.out (by decide) (by decide)).mono ?_; rintro e w3 ⟨A5, c5, v5, rfl, hO, hB⟩; obtain ⟨b5, hR⟩ := hO.ra; have HR5 := Lib.hid hR; have HB3 := Lib.hid (below_more HBd.out hB); have HBX3 := Lib.hid (HBX1.out.drew.below hB); have ZA := HBX3.out; unfold Bx at ZA; clear hO hB hR)
      | (go_at_call 55; refine (implMatRank p A5 _ c5 b5 0 (sqrL p T F 8) _ HR5.out).mono ?_; rintro e w4 ⟨rfl, hB⟩; rw [← HE.out]; have HB4 := Lib.hid (below_more HB3.out hB); have HBX4 := Lib.hid (HBX3.out.below hB); have ZB := HBX4.out; unfold Bx at ZB; clear hB))
  all_goals
    go_wp2_with (fail)
    go_ret
    exact ⟨rfl, HB4.out⟩
set_option maxRecDepth 100000 in
set_option maxHeartbeats 4000000 in
theorem specStreamRank (v : Value) (p : Int) (T F : List Int) (w : World) (h : RV w v p T F) :
    Calls Try.prog 24 #[v] w (IntBelow (streamRankR p T F) w) := by
  obtain ⟨A, n, c, b, o, A', n', c', b', o', rfl, g1, g2⟩ := h
  have hbx := Bx.new w (.int .i64 p) (.slice A n c) (.slice A' n' c') 42
  have hB0 : Below w.heap.size w (w.alloc (.cells #[.int .i64 p, .slice A n c, .slice A' n' c'] 42)) := (Below.refl _ w).alloc (Nat.le_refl _) _
  have HV0 := Lib.hid (show RV _ (.agg #[.int .i64 p, .slice A n c, .slice A' n' c']) p T F from ⟨_, _, _, _, _, _, _, _, _, _, rfl, g1.below hB0, g2.below hB0⟩)
  have HBX := Lib.hid hbx
  have HB0 := Lib.hid hB0
  clear g1 g2 hB0 hbx
  rcases hv : recB p T F
  · have HV := Lib.hid hv
    have HE := Lib.hid (show streamRankR p T F = -1 by unfold streamRankR; rw [if_neg (by simp [hv])])
    clear hv
    go_enter Try.func24, Try.ntmps24
    go_wp2_with (go_at_call 51; refine (specRecValid _ p T F _ HV0.out).mono ?_; rintro e w1 ⟨rfl, hB⟩; rw [HV.out]; have HB := Lib.hid hB; clear hB)
    go_ret
    exact ⟨by rw [HE.out]; rfl, below_more HB0.out HB.out⟩
  have HV := Lib.hid hv
  have HE := Lib.hid (show streamRankR p T F = rankR p (sqrL p T F 8) by unfold streamRankR; rw [if_pos hv])
  have E2 := Lib.hid (sqr_tab hv (show 1 ≤ 8 by decide) (Nat.le_refl 8))
  clear hv
  go_enter Try.func24, Try.ntmps24
  go_wp2_with (go_at_call 51; refine (specRecValid _ p T F _ HV0.out).mono ?_; rintro e w1 ⟨rfl, hB⟩; rw [HV.out]; have HB1 := Lib.hid (below_more HB0.out hB); have HBX1 := Lib.hid (HBX.out.below hB); have HV1 := Lib.hid (HV0.out.below hB); have y0 := HBX1.out.1; have y1 := HBX1.out.2.1; have y2 := HBX1.out.2.2; clear hB)
  have HVd := Lib.hid (HV1.out.below (below_new_drew _))
  have HBd := Lib.hid HB1.out.drew
  have ZS := HBX1.out
  have Zd := HBX1.out.drew
  unfold Bx at ZS Zd
  go_region_held3 (fun w' => w'.cell? ⟨w.heap.size, 0, none⟩ = some (.int .i64 p) ∧ w'.cell? ⟨w.heap.size, 1, none⟩ = some (.slice A n c) ∧ w'.cell? ⟨w.heap.size, 2, none⟩ = some (.slice A' n' c')) (first | assumption | exact ZC | exact ZB | exact ZA | exact Zd | exact ZS | go_keep)
    (first
      | (go_at_call 53; refine (specL3 _ p T F 15 _ HVd.out HV.out (by decide)).mono ?_; rintro e w3 ⟨A5, c5, rfl, hO, hB⟩; obtain ⟨b5, hI⟩ := hO.ia; have hc5 := OI.capLe hO; have HI5 := Lib.hid hI; have HB3 := Lib.hid (below_more HBd.out hB); have HBX3 := Lib.hid (HBX1.out.drew.below hB); have ZA := HBX3.out; unfold Bx at ZA; clear hO hB hI)
      | (go_at_call 13; refine (specTableOf p A5 _ c5 b5 0 (trm p T F 15) ((8 : Nat) : Int) ((8 : Nat) : Int) _ HI5.out hc5).mono ?_; rw [show tabR p (trm p T F 15) ((8 : Nat) : Int) ((8 : Nat) : Int) = sqrL p T F 8 from E2.out, sqr_len]; rintro e w4 ⟨A6, c6, v6, rfl, hO, hB⟩; obtain ⟨b6, hR⟩ := hO.ra; have HR6 := Lib.hid hR; have HB4 := Lib.hid (below_more HB3.out hB); have HBX4 := Lib.hid (HBX3.out.below hB); have ZB := HBX4.out; unfold Bx at ZB; clear hO hB hR)
      | (go_at_call 52; refine (specMatRank p A6 _ c6 b6 0 (sqrL p T F 8) _ HR6.out).mono ?_; rintro e w5 ⟨rfl, hB⟩; rw [← HE.out]; have HB5 := Lib.hid (below_more HB4.out hB); have HBX5 := Lib.hid (HBX4.out.below hB); have ZC := HBX5.out; unfold Bx at ZC; clear hB))
  all_goals
    go_wp2_with (fail)
    go_ret
    exact ⟨rfl, HB5.out⟩
end Go.Proofs.Ytcjpjcigjljplaa
namespace Go.Proofs.Ytcjpjcigjljplaa
open Go.RowKit
def downRow (p : Int) (M : List (List Int)) (col : Nat) (back : Int) (i : Nat) : List Int := if i ≤ col then M.getD i [] else subRow p (at2 M i col * back % p) (M.getD i []) (M.getD col [])
def downM (p : Int) (M : List (List Int)) (col : Nat) (back : Int) : List (List Int) := (List.range M.length).map (downRow p M col back)
def detStep (p : Int) (col : Nat) (N : List (List Int)) (d : Int) : Option (List (List Int) × Int) :=
  match firstW N col (N.length - col) col with
  | none => none
  | some r => some (downM p (swapM N r col) col (invM p (at2 (swapM N r col) col col)), (if r = col then d else -d % p) * at2 (swapM N r col) col col % p)
def detE (p : Int) (M : List (List Int)) : Nat → Option (List (List Int) × Int)
  | 0 => some (M, 1)
  | c + 1 => match detE p M c with
    | none => none
    | some x => detStep p c x.1 x.2
def detV (p : Int) (M : List (List Int)) : Int := match detE p M M.length with
  | none => 0
  | some x => x.2
def detR (p : Int) (M : List (List Int)) : Int := if matB p M = true then (if M.length = (M.headD []).length then detV p M else -1) else -1
theorem detE_step {p : Int} {M N : List (List Int)} {c : Nat} {d : Int} (h : detE p M c = some (N, d)) : detE p M (c + 1) = detStep p c N d := by
  show (match detE p M c with | none => none | some x => detStep p c x.1 x.2) = _
  rw [h]
theorem detE_none {p : Int} {M : List (List Int)} {c : Nat} (h : detE p M c = none) : ∀ k, detE p M (c + k) = none
  | 0 => h
  | k + 1 => by
    show (match detE p M (c + k) with | none => none | some x => detStep p (c + k) x.1 x.2) = none
    rw [detE_none h k]
theorem downM_len (p : Int) (M : List (List Int)) (col : Nat) (back : Int) : (downM p M col back).length = M.length := by simp [downM]
theorem downM_get (p : Int) (M : List (List Int)) (col : Nat) (back : Int) (i : Nat) (h : i < M.length) : (downM p M col back)[i]? = some (downRow p M col back i) := by
  unfold downM; rw [List.getElem?_map, List.getElem?_range h]; rfl
theorem downRow_valid {p : Int} (hp : primeB p = true) {l : Nat} {M : List (List Int)} (h : VM p l M) {col i : Nat} {back : Int} (ht : col < M.length) (hi : i < M.length) : (downRow p M col back i).length = l ∧ ∀ x ∈ downRow p M col back i, numB p x = true := by
  unfold downRow
  split
  · exact h.getD hi
  · exact ⟨by rw [subRow_len _ _ _ _ (by rw [(h.getD hi).1, (h.getD ht).1])]; exact (h.getD hi).1, subRow_valid hp _ _⟩
theorem VM.down {p : Int} (hp : primeB p = true) {l : Nat} {M : List (List Int)} (h : VM p l M) {col : Nat} {back : Int} (ht : col < M.length) : VM p l (downM p M col back) := by
  intro row hr
  unfold downM at hr
  obtain ⟨i, hi, rfl⟩ := List.mem_map.1 hr
  exact downRow_valid hp h ht (List.mem_range.1 hi)
theorem downM_low {p : Int} {M : List (List Int)} {col : Nat} {back : Int} {i : Nat} (hi : i < M.length) (hc : i ≤ col) : (downM p M col back)[i]? = M[i]? := by
  rw [downM_get _ _ _ _ _ hi]
  unfold downRow
  rw [if_pos hc, List.getD_eq_getElem?_getD, List.getElem?_eq_getElem hi]; rfl
theorem downMix_low {p : Int} {M : List (List Int)} {col k : Nat} {back : Int} {i : Nat} (hi : i < M.length) (hc : i ≤ col) : ((downM p M col back).take k ++ M.drop k)[i]? = M[i]? := by
  by_cases hlt : i < k
  · rw [List.getElem?_append_left (by simp [downM_len]; omega), List.getElem?_take, if_pos hlt, downM_low hi hc]
  · rw [List.getElem?_append_right (by simp [downM_len]; omega), List.getElem?_drop]
    congr 1
    simp [downM_len]; omega
theorem downMix_start {p : Int} {M : List (List Int)} {col : Nat} {back : Int} (hc : col < M.length) : (downM p M col back).take (col + 1) ++ M.drop (col + 1) = M := by
  refine List.ext_getElem? fun i => ?_
  by_cases hi : i < M.length
  · by_cases hlt : i ≤ col
    · exact downMix_low hi hlt
    · rw [List.getElem?_append_right (by simp [downM_len]; omega), List.getElem?_drop]
      congr 1
      simp [downM_len]; omega
  · rw [List.getElem?_eq_none (by simp [downM_len]; omega), List.getElem?_eq_none (by omega)]
theorem VM.downMix {p : Int} {l col k : Nat} {back : Int} {M : List (List Int)} (hp : primeB p = true) (h : VM p l M) (ht : col < M.length) : VM p l ((downM p M col back).take k ++ M.drop k) := fun row hr => by
  rcases List.mem_append.1 hr with hr | hr
  · exact h.down hp ht row (List.mem_of_mem_take hr)
  · exact h row (List.mem_of_mem_drop hr)
theorem swapM_self (M : List (List Int)) (i : Nat) (h : i < M.length) : swapM M i i = M := by
  unfold swapM
  rw [List.set_set]
  refine List.ext_getElem? fun q => ?_
  by_cases e : q = i
  · subst e; rw [List.getElem?_set_self h, List.getD_eq_getElem?_getD, List.getElem?_eq_getElem h]; rfl
  · rw [List.getElem?_set_ne (fun e' => e e'.symm)]
theorem numB_one {p : Int} (hp : primeB p = true) : numB p 1 = true := by
  have := prime_ge hp
  exact numB_mk hp (by omega) (by omega)
theorem detE_inv {p : Int} (hp : primeB p = true) {l : Nat} {M : List (List Int)} (h : VM p l M) : ∀ c, c ≤ M.length → ∀ N d, detE p M c = some (N, d) → N.length = M.length ∧ VM p l N ∧ numB p d = true
  | 0, _ => by
    intro N d hd
    obtain ⟨rfl, rfl⟩ : M = N ∧ (1 : Int) = d := by simpa [detE] using hd
    exact ⟨rfl, h, numB_one hp⟩
  | c + 1, hc => by
    intro N d hd
    cases he : detE p M c with
    | none => rw [detE_none he 1] at hd; simp at hd
    | some x =>
      obtain ⟨N0, d0⟩ := x
      obtain ⟨h1, h2, h3⟩ := detE_inv hp h c (by omega) N0 d0 he
      rw [detE_step he] at hd
      unfold detStep at hd
      split at hd
      · simp at hd
      · rename_i r hr
        obtain ⟨g1, g2, _, _⟩ := firstW_some hr
        simp only [Option.some.injEq, Prod.mk.injEq] at hd
        obtain ⟨rfl, rfl⟩ := hd
        exact ⟨by rw [downM_len, swapM_len, h1], (h2.swap (by omega) (by omega)).down hp (by rw [swapM_len]; omega), numB_emod hp _⟩
theorem detV_none {p : Int} {M : List (List Int)} {c : Nat} (h : detE p M c = none) (hc : c ≤ M.length) : detV p M = 0 := by
  have h1 := detE_none h (M.length - c)
  rw [show c + (M.length - c) = M.length by omega] at h1
  unfold detV; rw [h1]
theorem detV_some {p : Int} {M N : List (List Int)} {d : Int} (h : detE p M M.length = some (N, d)) : detV p M = d := by unfold detV; rw [h]
theorem detStep_none {p : Int} {c : Nat} {N : List (List Int)} {d : Int} (h : firstW N c (N.length - c) c = none) : detStep p c N d = none := by unfold detStep; rw [h]
theorem detStep_some {p : Int} {c r : Nat} {N : List (List Int)} {d : Int} (h : firstW N c (N.length - c) c = some r) :
    detStep p c N d = some (downM p (swapM N r c) c (invM p (at2 (swapM N r c) c c)), (if r = c then d else -d % p) * at2 (swapM N r c) c c % p) := by unfold detStep; rw [h]
end Go.Proofs.Ytcjpjcigjljplaa
namespace Go.Proofs.Ytcjpjcigjljplaa
open Go.RowKit
theorem detR_no {p : Int} {M : List (List Int)} (h : matB p M = false) : detR p M = -1 := by unfold detR; rw [if_neg (by simp [h])]
theorem detR_odd {p : Int} {M : List (List Int)} (h : M.length ≠ (M.headD []).length) : detR p M = -1 := by
  unfold detR; rw [if_neg h]; split <;> rfl
theorem detR_yes {p : Int} {M : List (List Int)} (h : matB p M = true) (h2 : M.length = (M.headD []).length) : detR p M = detV p M := by unfold detR; rw [if_pos h, if_pos h2]
theorem OMF.cap {w : World} {B hi g n c : Nat} {M : List (List Int)} {vs : List Value} (h : OMF w B hi g n c M vs) : n ≤ c := by
  rcases h.om.out.2 with ⟨h1, _⟩ | ⟨g', cap, cur, hv, _, _, hnc, _⟩
  · simp at h1
  · simp only [Value.slice.injEq, true_and] at hv
    omega
set_option maxRecDepth 100000 in
set_option maxHeartbeats 800000 in
theorem implMatDet (p : Int) (A : Option Addr) (n c b o : Nat) (M : List (List Int)) (w : World) (h : RA w A n b o M) :
    Calls Try.prog 58 #[.int .i64 p, .slice A n c] w (IntBelow (detR p M) w) := by
  have hbig := h.big
  have H := Lib.hid h
  clear h
  rcases hv : matB p M
  · have HV := Lib.hid hv
    have HR := Lib.hid (detR_no hv)
    clear hv
    go_enter Try.func58, Try.ntmps58
    go_wp2_with (fail)
    refine (implMatValid p A n c b o M _ H.out).mono ?_
    rintro e w1 ⟨rfl, rfl⟩
    rw [HV.out]
    go_wp2_with (fail)
    go_ret
    exact ⟨by rw [HR.out]; rfl, Below.refl _ _⟩
  · obtain ⟨hn1, hn8, hl1, hl8, hrows⟩ := matB_true hv
    have hL := H.out.len
    obtain ⟨l0, hl0⟩ : ∃ l0, (M.headD []).length = l0 := ⟨_, rfl⟩
    have hvm := VM_of_mat hv
    have hp := prime_of_mat hv
    rw [hl0] at hl1 hl8 hrows hvm
    rw [hL] at hn1 hn8
    have HRW := Lib.hid (show ∀ row ∈ M, row.length = l0 from fun row hr => (hrows row hr).1)
    obtain ⟨row0, A0, c0, b0, o0, hm0, hc0, hI0⟩ := H.out.row 0 (by omega)
    have hr0 := HRW.out row0 (List.mem_of_getElem? hm0)
    rw [hr0, Nat.add_zero] at hc0
    obtain rfl := H.out.adr (by omega)
    clear hm0 hI0 hr0
    by_cases hsq : n = l0
    · subst hsq
      have hR : detR p M = detV p M := detR_yes hv (by rw [hl0, hL])
      have hq : ((n : Int) != (n : Int)) = false := by simp
      have hpb := prime_ge hp
      have HV := Lib.hid hv
      have HR := Lib.hid hR
      have HVM := Lib.hid hvm
      have HP := Lib.hid hp
      have HML := Lib.hid hL
      clear hv hR hvm hp hL hrows hl0
      go_enter Try.func58, Try.ntmps58
      go_wp2_with (fail)
      refine (implMatValid p _ n c b o M _ H.out).mono ?_
      rintro e w1 ⟨rfl, rfl⟩
      rw [HV.out]
      go_wp2_with (fail)
      refine (copyRows_any _ n c b o n M _ H.out hn8 hl1 (by omega) HRW.out).mono ?_
      rintro e w1 ⟨A1, c1, vs, rfl, hO, hB⟩
      obtain ⟨g, hg⟩ := hO.addr hn1
      subst hg
      have HOF := Lib.hid (OMF.mk hO (hO.out.lt g rfl).2 hO.foot)
      clear hO
      have hsz1 := hB.size
      have HB := Lib.hid hB
      have h1B := numB_bd (numB_one HP.out)
      clear hB
      go_wp2_with (fail)
      go_loopw [6, 29] (fun dv i wr => ∃ (col : Nat) (N : List (List Int)) (d : Int) (vs' : List Value), col ≤ n ∧ i = .int .i64 col ∧ dv = .int .i64 d ∧ detE p M col = some (N, d) ∧ OMF wr w.heap.size w1.heap.size g n c1 N vs' ∧ Keep (fun q => w.heap.size ≤ q ∧ q < w1.heap.size) w1 wr) (fun _ i _ => n - (intOf i).toNat)
      case atStart => exact ⟨0, M, 1, vs, by omega, rfl, rfl, rfl, HOF.out, Keep.refl _ _⟩
      case round =>
        obtain ⟨col, N, d, vs', hcol, rfl, rfl, hde, hom, hkp⟩ := hrel
        obtain ⟨wo, rfl⟩ : ∃ wo : World, wo = wr := ⟨_, rfl⟩
        obtain ⟨hNl, hNV, hdB⟩ := detE_inv HP.out HVM.out col (by rw [HML.out]; exact hcol) N d hde
        rw [HML.out] at hNl
        have HDN := Lib.hid hde
        have HO := Lib.hid hom
        have HK := Lib.hid hkp
        have HV := Lib.hid hNV
        have HNL := Lib.hid hNl
        have hdb := numB_bd hdB
        clear hde hom hkp hNV hNl hdB
        by_cases hlt : col < n
        · obtain ⟨br, hRA⟩ := HO.out.om.ra
          have HRA := Lib.hid hRA
          clear hRA
          go_wp2_with (fail)
          refine (firstRowWith_any _ n c1 br 0 N col col _ HRA.out (fun row hr => by rw [(HV.out row hr).1]; exact hlt) hcol (by omega)).mono ?_
          rintro e w' ⟨x, rfl, hx, rfl⟩
          rcases hx with ⟨rfl, hnone⟩ | ⟨r, rfl, hrn, hsome⟩
          · have HR0 := Lib.hid (show detR p M = 0 by rw [HR.out]; exact detV_none (c := col + 1) (by rw [detE_step HDN.out, detStep_none hnone]) (by rw [HML.out]; omega))
            clear hnone
            go_wp2_with (fail)
            go_ret
            exact ⟨by rw [HR0.out]; rfl, HB.out.trans (HK.out.below (B := w.heap.size) hsz1 (fun q hq => hq.1))⟩
          · obtain ⟨hf1, hf2', hf3, _⟩ := firstW_some hsome
            rw [HNL.out] at hrn
            by_cases hrc : r = col
            · obtain rfl : col = r := hrc.symm
              have hqr : ((col : Int) != (col : Int)) = false := by simp
              have hd0 := hdb.1
              have HDE := Lib.hid (show detE p M (col + 1) = some (downM p N col (invM p (at2 N col col)), d * at2 N col col % p) by rw [detE_step HDN.out, detStep_some hsome, swapM_self N col (by rw [HNL.out]; exact hlt), if_pos rfl])
              have HO2 := HO
              have HVM2 := HV
              have HK2 := HK
              have HNZ := Lib.hid hf3
              have HNL2 := HNL
              clear hsome hf1 hf2' hf3 hrn hrc
              obtain ⟨row2, b2, c2, hm2, hrl2, hrv2, h2x, hf2⟩ := HO2.out.cellAt HVM2.out hlt
              obtain ⟨hv2, hc2, hI2, hIA2⟩ := h2x hl1
              obtain ⟨x2, hx2, hxc2⟩ := hIA2.cell col hlt
              rw [Nat.zero_add] at hxc2
              have hxn := hrv2 x2 (List.mem_of_getElem? hx2)
              have hxb := numB_bd hxn
              have hat2 : at2 N col col = x2 := at2_of hm2 hx2
              have hx20 : x2 ≠ 0 := by rw [← hat2]; exact HNZ.out
              have hmb := mul_bd hd0 (by omega) hxb.1 (by omega)
              obtain ⟨u, hu⟩ : ∃ u, invM p x2 = u := ⟨_, rfl⟩
              have hnb : numBack p x2 = u := by unfold numBack; rw [if_pos ⟨hxn, hx20⟩, hu]
              have hun : numB p u = true := by rw [← hu]; exact numB_mk HP.out (inv_bd HP.out).1 (inv_bd HP.out).2
              have hub := numB_bd hun
              have HDE2 := Lib.hid (show detE p M (col + 1) = some (downM p N col u, d * x2 % p) by rw [HDE.out, hat2, hu])
              have HNB := Lib.hid hnb
              clear hm2 hrl2 hrv2 h2x hv2 hI2 hIA2 hx2 hxn hat2 hu hnb HDE HNZ hun
              go_wp2_with (fail)
              refine (implNumBack p x2 _).mono ?_
              rintro e w3 ⟨rfl, rfl⟩
              rw [HNB.out]
              have hcapn := HO2.out.cap
              have HO3 := HO2
              have HK3 := HK2
              go_wp2_with (fail)
              · rw [← h]
                have hz : n - c1 = 0 := by omega
                have hz2 : col + 1 = n := by omega
                clear h
                go_loopw [83] (fun i wi => ∃ k : Nat, k ≤ n - c1 ∧ i = .int .i64 k ∧ OMF wi w.heap.size w1.heap.size g n c1 ((downM p N col u).take (col + 1 + k) ++ N.drop (col + 1 + k)) vs' ∧ Keep (fun q => w.heap.size ≤ q ∧ q < w1.heap.size) w1 wi) (fun i _ => n - (intOf i).toNat)
                case atStart => exact ⟨0, by omega, rfl, by rw [Nat.add_zero, downMix_start (by rw [HNL2.out]; exact hlt)]; exact HO3.out, HK3.out⟩
                case round =>
                  obtain ⟨k, hk, rfl, hom, hkp⟩ := hrel
                  by_cases hlk : k < n - c1
                  · omega
                  · obtain rfl : k = 0 := by omega
                    rw [show col + 1 + 0 = n by omega, mixDone (by rw [downM_len]; exact HNL2.out) HNL2.out] at hom
                    have HO5 := Lib.hid hom
                    have HK5 := Lib.hid hkp
                    clear hom hkp
                    go_wp2_with (fail)
                    go_roundw
                    case rel => exact ⟨col + 1, _, _, vs', by omega, by go_num, rfl, HDE2.out, HO5.out, HK5.out⟩
                    case measure => simp [intOf]; omega
              · go_loopw [83] (fun i wi => ∃ k : Nat, k ≤ n - (col + 1) ∧ i = .int .i64 k ∧ OMF wi w.heap.size w1.heap.size g n c1 ((downM p N col u).take (col + 1 + k) ++ N.drop (col + 1 + k)) vs' ∧ Keep (fun q => w.heap.size ≤ q ∧ q < w1.heap.size) w1 wi) (fun i _ => n - (intOf i).toNat)
                case atStart => exact ⟨0, by omega, rfl, by rw [Nat.add_zero, downMix_start (by rw [HNL2.out]; exact hlt)]; exact HO3.out, HK3.out⟩
                case round =>
                  obtain ⟨k, hk, rfl, hom, hkp⟩ := hrel
                  by_cases hlk : k < n - (col + 1)
                  · have hin : col + 1 + k < n := by omega
                    have hVM := HVM2.out.downMix (col := col) (k := col + 1 + k) (back := u) HP.out (by rw [HNL2.out]; exact hlt)
                    obtain ⟨row, bi, ci, hmi, hrl, hrv, hix, hfi⟩ := hom.cellAt hVM hin
                    obtain ⟨hvi, hci, hIi, hIAi⟩ := hix hl1
                    obtain ⟨rowt, bt, ct, hmt, hrlt, hrvt, htx, hft⟩ := hom.cellAt hVM hlt
                    obtain ⟨hvt, hct, hIt, hIAt⟩ := htx hl1
                    have hbne : bt ≠ bi := hom.apart (i := col) (j := col + 1 + k) (by omega) hvt hvi
                    rw [mix_get _ _ _ (downM_len p N col u) (by rw [downM_len, HNL2.out]; exact hin)] at hmi
                    rw [downMix_low (by rw [HNL2.out]; exact hlt) (Nat.le_refl _)] at hmt
                    obtain ⟨x, hx, hxc⟩ := hIAi.cell col hlt
                    rw [Nat.zero_add] at hxc
                    have hxb' := numB_bd (hrv x (List.mem_of_getElem? hx))
                    have hmb2 := mul_bd hxb'.1 (by omega) hub.1 (by omega)
                    have hat : at2 N (col + 1 + k) col = x := at2_of hmi hx
                    obtain ⟨t, ht⟩ : ∃ t, x * u % p = t := ⟨_, rfl⟩
                    have HTN := Lib.hid (show numB p t = true by rw [← ht]; exact numB_emod HP.out _)
                    have HSR := Lib.hid (show (downM p N col u)[col + 1 + k]? = some (subRow p t row rowt) by
                      rw [downM_get _ _ _ _ _ (by rw [HNL2.out]; exact hin)]; unfold downRow; rw [if_neg (by omega), hat, getD_of hmi, getD_of hmt, ht])
                    have HO := Lib.hid hom
                    have HKP := Lib.hid hkp
                    have HMI := Lib.hid hmi
                    have HVI := Lib.hid hvi
                    have HRL := Lib.hid hrl
                    have HRV := Lib.hid hrv
                    have HRVT := Lib.hid hrvt
                    have HRLT := Lib.hid hrlt
                    have HII := Lib.hid hIi
                    have HIT := Lib.hid hIAt
                    have HT := Lib.hid ht
                    clear hom hkp hmi hmt hvi hvt hrl hrv hrlt hrvt hIi hIt hIAi hIAt hx hat hix htx hVM ht
                    go_wp2_with (fail)
                    refine wp_quiet_tail 14 (by kernel_rfl) (by kernel_rfl) ?_
                    simp only [List.take_succ_cons, List.take_zero, List.drop_succ_cons, List.drop_zero]
                    repeat (go_big_quiet_step (fail))
                    refine wpQuiet_nil ?_
                    intro _ hw'
                    obtain ⟨nz, hw''⟩ := hw'
                    subst hw''
                    go_wp2_with (fail)
                    rw [HT.out]
                    refine (takeRow_any p t w.heap.size _ n ci row _ ct bt 0 rowt _ (owns_keep HII.out (drewN_keep (S := fun _ => False) _ _) (fun _ _ h => h)) (HIT.out.drewN ⟨nz, rfl⟩) (fun q hq => by simp [Value.ownBlock] at hq; omega) HTN.out HRV.out HRVT.out (by omega)).mono ?_
                    rintro e w5 ⟨rfl, hI5, hK5⟩
                    have hO5 := (HO.out.drewN nz).setRow (by rw [mix_get _ _ _ (downM_len p N col u) (by rw [downM_len, HNL2.out]; exact hin)]; exact HMI.out) (by rw [HRL.out]; exact HVI.out) (subRow_len p t row rowt (by rw [HRL.out, HRLT.out])) (by rw [HRL.out]; exact hI5) (by rw [HRL.out]; exact hK5)
                    rw [set_step _ _ (col + 1 + k) _ (downM_len _ _ _ _) HSR.out] at hO5
                    have HO5 := Lib.hid hO5
                    have HK5 := Lib.hid ((HKP.out.drewN nz).trans (hK5.mono (T := fun q => w.heap.size ≤ q ∧ q < w1.heap.size) (fun q _ hq => HO.out.foot (col + 1 + k) _ q HVI.out hq)))
                    clear hO5 hI5 hK5
                    go_wp2_with (fail)
                    go_roundw
                    case rel => exact ⟨k + 1, by omega, by go_num, by rw [← Nat.add_assoc]; exact HO5.out, HK5.out⟩
                    case measure => simp [intOf]; omega
                  · obtain rfl : k = n - (col + 1) := by omega
                    rw [show col + 1 + (n - (col + 1)) = n by omega, mixDone (by rw [downM_len]; exact HNL2.out) HNL2.out] at hom
                    have HO5 := Lib.hid hom
                    have HK5 := Lib.hid hkp
                    clear hom hkp
                    go_wp2_with (fail)
                    go_roundw
                    case rel => exact ⟨col + 1, _, _, vs', by omega, by go_num, rfl, HDE2.out, HO5.out, HK5.out⟩
                    case measure => simp [intOf]; omega
            · have hqr : ((r : Int) != (col : Int)) = true := neInt hrc
              have HDE1 := Lib.hid (show detE p M (col + 1) = some (downM p (swapM N r col) col (invM p (at2 (swapM N r col) col col)), -d % p * at2 (swapM N r col) col col % p) by rw [detE_step HDN.out, detStep_some hsome, if_neg hrc])
              have HNZ1 := Lib.hid hf3
              obtain ⟨rowR, bk, ck, hmR, hrlR, hrvR, hRx, hfR⟩ := HO.out.cellAt HV.out hrn
              obtain ⟨hvR, hcR, hIR, hIAR⟩ := hRx hl1
              obtain ⟨rowT, bT, cT, hmT, hrlT, hrvT, hTx, hfT⟩ := HO.out.cellAt HV.out hlt
              obtain ⟨hvT, hcT, hIT, hIAT⟩ := hTx hl1
              obtain ⟨hO2, hK2⟩ := HO.out.swapped' hrn hlt hvR hvT
              obtain ⟨v2, hv2⟩ : ∃ v2, (wo.setCell ⟨g, r, none⟩ (.slice (some ⟨bT, 0, none⟩) n cT)).cell? ⟨g, col, none⟩ = some v2 := ⟨_, (World.cell?_setCell_other _ _ _ _ (fun h => hrc (congrArg Addr.off h))).trans hcT⟩
              obtain ⟨N2, hN2⟩ : ∃ N2, swapM N r col = N2 := ⟨_, rfl⟩
              obtain ⟨vs2, hvs2⟩ : ∃ vs2, swapV vs' r col = vs2 := ⟨_, rfl⟩
              obtain ⟨d2, hd2⟩ : ∃ d2, (p - d) % p = d2 := ⟨_, rfl⟩
              have hd0 : 0 ≤ d2 := hd2 ▸ Int.emod_nonneg _ (by omega)
              have hd1 : d2 < p := hd2 ▸ Int.emod_lt_of_pos _ (by omega)
              have hd3 : -d % p = d2 := by rw [← hd2, Int.sub_eq_add_neg, Int.add_emod_left]
              rw [hN2] at hO2
              rw [hvs2] at hO2
              rw [hN2, hd3] at HDE1
              have HDE := HDE1
              have HVM2 := Lib.hid (show VM p n N2 from hN2 ▸ HV.out.swap (i := r) (j := col) (by rw [HNL.out]; exact hrn) (by rw [HNL.out]; exact hlt))
              have HNL2 := Lib.hid (show N2.length = n by rw [← hN2, swapM_len]; exact HNL.out)
              have HNZ := Lib.hid (show at2 N2 col col ≠ 0 by
                have e2 : at2 (swapM N r col) col col = at2 N r col := by unfold at2; rw [getD_congr (swapM_at (by rw [HNL.out]; exact hrn) (by rw [HNL.out]; exact hlt))]
                rw [← hN2, e2]; exact HNZ1.out)
              have HO2' := Lib.hid hO2
              have HK2' := Lib.hid (HK.out.trans (hK2.mono (T := fun q => w.heap.size ≤ q ∧ q < w1.heap.size) (fun q _ hq => by rw [hq]; exact ⟨(HOF.out.om.out.lt g rfl).1, (HOF.out.om.out.lt g rfl).2⟩)))
              have HD2 := Lib.hid hd2
              clear HDE1 HNZ1 hmR hrlR hrvR hRx hvR hIR hIAR hmT hrlT hrvT hTx hvT hIT hIAT hO2 hK2 hN2 hvs2 hd2 hd3 hsome hf1 hf2' hf3 hrc
              go_wp2_with (fail)
              go_region
              go_wp2_with (fail)
              refine (negative_is HD2.out _ hpb.1 hpb.2 hdb.1 hdb.2.1).mono ?_
              rintro e w3 ⟨rfl, rfl⟩
              obtain ⟨w2, hw2⟩ : ∃ w2, w2 = (((wo.setCell ⟨g, r, none⟩ (.slice (some ⟨bT, 0, none⟩) n cT)).setCell ⟨g, col, none⟩ (.slice (some ⟨bk, 0, none⟩) n ck)).drew) := ⟨_, rfl⟩
              rw [← hw2]
              have HO2 := Lib.hid (show OMF w2 w.heap.size w1.heap.size g n c1 N2 vs2 from hw2 ▸ HO2'.out.drewN 1)
              have HK2 := Lib.hid (show Keep (fun q => w.heap.size ≤ q ∧ q < w1.heap.size) w1 w2 from hw2 ▸ HK2'.out.drewN 1)
              clear hw2 hv2 hcR hcT hfR hfT
              obtain ⟨row2, b2, c2, hm2, hrl2, hrv2, h2x, hf2⟩ := HO2.out.cellAt HVM2.out hlt
              obtain ⟨hv2, hc2, hI2, hIA2⟩ := h2x hl1
              obtain ⟨x2, hx2, hxc2⟩ := hIA2.cell col hlt
              rw [Nat.zero_add] at hxc2
              have hxn := hrv2 x2 (List.mem_of_getElem? hx2)
              have hxb := numB_bd hxn
              have hat2 : at2 N2 col col = x2 := at2_of hm2 hx2
              have hx20 : x2 ≠ 0 := by rw [← hat2]; exact HNZ.out
              have hmb := mul_bd hd0 (by omega) hxb.1 (by omega)
              obtain ⟨u, hu⟩ : ∃ u, invM p x2 = u := ⟨_, rfl⟩
              have hnb : numBack p x2 = u := by unfold numBack; rw [if_pos ⟨hxn, hx20⟩, hu]
              have hun : numB p u = true := by rw [← hu]; exact numB_mk HP.out (inv_bd HP.out).1 (inv_bd HP.out).2
              have hub := numB_bd hun
              have HDE2 := Lib.hid (show detE p M (col + 1) = some (downM p N2 col u, d2 * x2 % p) by rw [HDE.out, hat2, hu])
              have HNB := Lib.hid hnb
              clear hm2 hrl2 hrv2 h2x hv2 hI2 hIA2 hx2 hxn hat2 hu hnb HDE HNZ hun
              go_wp2_with (fail)
              refine (implNumBack p x2 _).mono ?_
              rintro e w3 ⟨rfl, rfl⟩
              rw [HNB.out]
              have hcapn := HO2.out.cap
              have HO3 := HO2
              have HK3 := HK2
              go_wp2_with (fail)
              · rw [← h]
                have hz : n - c1 = 0 := by omega
                have hz2 : col + 1 = n := by omega
                clear h
                go_loopw [83] (fun i wi => ∃ k : Nat, k ≤ n - c1 ∧ i = .int .i64 k ∧ OMF wi w.heap.size w1.heap.size g n c1 ((downM p N2 col u).take (col + 1 + k) ++ N2.drop (col + 1 + k)) vs2 ∧ Keep (fun q => w.heap.size ≤ q ∧ q < w1.heap.size) w1 wi) (fun i _ => n - (intOf i).toNat)
                case atStart => exact ⟨0, by omega, rfl, by rw [Nat.add_zero, downMix_start (by rw [HNL2.out]; exact hlt)]; exact HO3.out, HK3.out⟩
                case round =>
                  obtain ⟨k, hk, rfl, hom, hkp⟩ := hrel
                  by_cases hlk : k < n - c1
                  · omega
                  · obtain rfl : k = 0 := by omega
                    rw [show col + 1 + 0 = n by omega, mixDone (by rw [downM_len]; exact HNL2.out) HNL2.out] at hom
                    have HO5 := Lib.hid hom
                    have HK5 := Lib.hid hkp
                    clear hom hkp
                    go_wp2_with (fail)
                    go_roundw
                    case rel => exact ⟨col + 1, _, _, vs2, by omega, by go_num, rfl, HDE2.out, HO5.out, HK5.out⟩
                    case measure => simp [intOf]; omega
              · go_loopw [83] (fun i wi => ∃ k : Nat, k ≤ n - (col + 1) ∧ i = .int .i64 k ∧ OMF wi w.heap.size w1.heap.size g n c1 ((downM p N2 col u).take (col + 1 + k) ++ N2.drop (col + 1 + k)) vs2 ∧ Keep (fun q => w.heap.size ≤ q ∧ q < w1.heap.size) w1 wi) (fun i _ => n - (intOf i).toNat)
                case atStart => exact ⟨0, by omega, rfl, by rw [Nat.add_zero, downMix_start (by rw [HNL2.out]; exact hlt)]; exact HO3.out, HK3.out⟩
                case round =>
                  obtain ⟨k, hk, rfl, hom, hkp⟩ := hrel
                  by_cases hlk : k < n - (col + 1)
                  · have hin : col + 1 + k < n := by omega
                    have hVM := HVM2.out.downMix (col := col) (k := col + 1 + k) (back := u) HP.out (by rw [HNL2.out]; exact hlt)
                    obtain ⟨row, bi, ci, hmi, hrl, hrv, hix, hfi⟩ := hom.cellAt hVM hin
                    obtain ⟨hvi, hci, hIi, hIAi⟩ := hix hl1
                    obtain ⟨rowt, bt, ct, hmt, hrlt, hrvt, htx, hft⟩ := hom.cellAt hVM hlt
                    obtain ⟨hvt, hct, hIt, hIAt⟩ := htx hl1
                    have hbne : bt ≠ bi := hom.apart (i := col) (j := col + 1 + k) (by omega) hvt hvi
                    rw [mix_get _ _ _ (downM_len p N2 col u) (by rw [downM_len, HNL2.out]; exact hin)] at hmi
                    rw [downMix_low (by rw [HNL2.out]; exact hlt) (Nat.le_refl _)] at hmt
                    obtain ⟨x, hx, hxc⟩ := hIAi.cell col hlt
                    rw [Nat.zero_add] at hxc
                    have hxb' := numB_bd (hrv x (List.mem_of_getElem? hx))
                    have hmb2 := mul_bd hxb'.1 (by omega) hub.1 (by omega)
                    have hat : at2 N2 (col + 1 + k) col = x := at2_of hmi hx
                    obtain ⟨t, ht⟩ : ∃ t, x * u % p = t := ⟨_, rfl⟩
                    have HTN := Lib.hid (show numB p t = true by rw [← ht]; exact numB_emod HP.out _)
                    have HSR := Lib.hid (show (downM p N2 col u)[col + 1 + k]? = some (subRow p t row rowt) by
                      rw [downM_get _ _ _ _ _ (by rw [HNL2.out]; exact hin)]; unfold downRow; rw [if_neg (by omega), hat, getD_of hmi, getD_of hmt, ht])
                    have HO := Lib.hid hom
                    have HKP := Lib.hid hkp
                    have HMI := Lib.hid hmi
                    have HVI := Lib.hid hvi
                    have HRL := Lib.hid hrl
                    have HRV := Lib.hid hrv
                    have HRVT := Lib.hid hrvt
                    have HRLT := Lib.hid hrlt
                    have HII := Lib.hid hIi
                    have HIT := Lib.hid hIAt
                    have HT := Lib.hid ht
                    clear hom hkp hmi hmt hvi hvt hrl hrv hrlt hrvt hIi hIt hIAi hIAt hx hat hix htx hVM ht
                    go_wp2_with (fail)
                    refine wp_quiet_tail 14 (by kernel_rfl) (by kernel_rfl) ?_
                    simp only [List.take_succ_cons, List.take_zero, List.drop_succ_cons, List.drop_zero]
                    repeat (go_big_quiet_step (fail))
                    refine wpQuiet_nil ?_
                    intro _ hw'
                    obtain ⟨nz, hw''⟩ := hw'
                    subst hw''
                    go_wp2_with (fail)
                    rw [HT.out]
                    refine (takeRow_any p t w.heap.size _ n ci row _ ct bt 0 rowt _ (owns_keep HII.out (drewN_keep (S := fun _ => False) _ _) (fun _ _ h => h)) (HIT.out.drewN ⟨nz, rfl⟩) (fun q hq => by simp [Value.ownBlock] at hq; omega) HTN.out HRV.out HRVT.out (by omega)).mono ?_
                    rintro e w5 ⟨rfl, hI5, hK5⟩
                    have hO5 := (HO.out.drewN nz).setRow (by rw [mix_get _ _ _ (downM_len p N2 col u) (by rw [downM_len, HNL2.out]; exact hin)]; exact HMI.out) (by rw [HRL.out]; exact HVI.out) (subRow_len p t row rowt (by rw [HRL.out, HRLT.out])) (by rw [HRL.out]; exact hI5) (by rw [HRL.out]; exact hK5)
                    rw [set_step _ _ (col + 1 + k) _ (downM_len _ _ _ _) HSR.out] at hO5
                    have HO5 := Lib.hid hO5
                    have HK5 := Lib.hid ((HKP.out.drewN nz).trans (hK5.mono (T := fun q => w.heap.size ≤ q ∧ q < w1.heap.size) (fun q _ hq => HO.out.foot (col + 1 + k) _ q HVI.out hq)))
                    clear hO5 hI5 hK5
                    go_wp2_with (fail)
                    go_roundw
                    case rel => exact ⟨k + 1, by omega, by go_num, by rw [← Nat.add_assoc]; exact HO5.out, HK5.out⟩
                    case measure => simp [intOf]; omega
                  · obtain rfl : k = n - (col + 1) := by omega
                    rw [show col + 1 + (n - (col + 1)) = n by omega, mixDone (by rw [downM_len]; exact HNL2.out) HNL2.out] at hom
                    have HO5 := Lib.hid hom
                    have HK5 := Lib.hid hkp
                    clear hom hkp
                    go_wp2_with (fail)
                    go_roundw
                    case rel => exact ⟨col + 1, _, _, vs2, by omega, by go_num, rfl, HDE2.out, HO5.out, HK5.out⟩
                    case measure => simp [intOf]; omega
        · obtain rfl : col = n := by omega
          have HR0 := Lib.hid (show detR p M = d by rw [HR.out]; exact detV_some (N := N) (by rw [HML.out]; exact HDN.out))
          go_wp2_with (fail)
          go_ret
          exact ⟨by rw [HR0.out]; rfl, HB.out.trans (HK.out.below (B := w.heap.size) hsz1 (fun q hq => hq.1))⟩
    · have hq : ((n : Int) != (l0 : Int)) = true := neInt hsq
      have HV := Lib.hid hv
      have HR := Lib.hid (show detR p M = -1 from detR_odd (by rw [hl0, hL]; exact hsq))
      clear hv hvm hp hL hrows hl0
      go_enter Try.func58, Try.ntmps58
      go_wp2_with (fail)
      refine (implMatValid p _ n c b o M _ H.out).mono ?_
      rintro e w1 ⟨rfl, rfl⟩
      rw [HV.out]
      go_wp2_with (fail)
      go_ret
      exact ⟨by rw [HR.out]; rfl, Below.refl _ _⟩
end Go.Proofs.Ytcjpjcigjljplaa
namespace Go.Proofs.Ytcjpjcigjljplaa
open Go.RowKit
set_option maxRecDepth 100000 in
set_option maxHeartbeats 1600000 in
theorem specMatDet (p : Int) (A : Option Addr) (n c b o : Nat) (M : List (List Int)) (w : World) (h : RA w A n b o M) :
    Calls Try.prog 57 #[.int .i64 p, .slice A n c] w (IntBelow (detR p M) w) := by
  have hbig := h.big
  have H := Lib.hid h
  clear h
  rcases hv : matB p M
  · have HV := Lib.hid hv
    have HR := Lib.hid (detR_no hv)
    clear hv
    go_enter Try.func57, Try.ntmps57
    go_wp2_with (fail)
    refine (specMatValid p A n c b o M _ H.out).mono ?_
    rintro e w1 ⟨rfl, m, rfl⟩
    rw [HV.out]
    go_wp2_with (fail)
    go_ret
    exact ⟨by rw [HR.out]; rfl, below_undraw (Below.refl _ _)⟩
  · obtain ⟨hn1, hn8, hl1, hl8, hrows⟩ := matB_true hv
    have hL := H.out.len
    obtain ⟨l0, hl0⟩ : ∃ l0, (M.headD []).length = l0 := ⟨_, rfl⟩
    have hvm := VM_of_mat hv
    have hp := prime_of_mat hv
    rw [hl0] at hl1 hl8 hrows hvm
    rw [hL] at hn1 hn8
    have HRW := Lib.hid (show ∀ row ∈ M, row.length = l0 from fun row hr => (hrows row hr).1)
    obtain ⟨row0, A0, c0, b0, o0, hm0, hc0, hI0⟩ := H.out.row 0 (by omega)
    have hr0 := HRW.out row0 (List.mem_of_getElem? hm0)
    rw [hr0, Nat.add_zero] at hc0
    obtain rfl := H.out.adr (by omega)
    clear hm0 hI0 hr0
    by_cases hsq : n = l0
    · subst hsq
      have hR : detR p M = detV p M := detR_yes hv (by rw [hl0, hL])
      have hq : ((n : Int) != (n : Int)) = false := by simp
      have hpb := prime_ge hp
      have HV := Lib.hid hv
      have HR := Lib.hid hR
      have HVM := Lib.hid hvm
      have HP := Lib.hid hp
      have HML := Lib.hid hL
      clear hv hR hvm hp hL hrows hl0
      go_enter Try.func57, Try.ntmps57
      go_wp2_with (fail)
      refine (specMatValid p _ n c b o M _ H.out).mono ?_
      rintro e w1 ⟨rfl, md, rfl⟩
      rw [HV.out]
      go_wp2_with (fail)
      refine (specCopy _ n c b o n M _ (H.out.seen md) (by omega) hl1 (by omega) HRW.out).mono ?_
      rintro e w1 ⟨A1, c1, vs, rfl, hO, hB⟩
      obtain ⟨g, hg⟩ := hO.addr hn1
      subst hg
      have hO' : OM w1 w.heap.size (some ⟨g, 0, none⟩) n c1 M vs := hO
      have HOF := Lib.hid (OMF.mk hO' (hO'.out.lt g rfl).2 hO'.foot)
      have hsz1 := hB.size
      have HB := Lib.hid (below_undraw hB)
      have h1B := numB_bd (numB_one HP.out)
      clear hO hB hO'
      go_wp2_with (fail)
      go_loopw [6, 7] (fun dv i wr => ∃ (col : Nat) (N : List (List Int)) (d : Int) (vs' : List Value), col ≤ n ∧ i = .int .i64 col ∧ dv = .int .i64 d ∧ detE p M col = some (N, d) ∧ OMF wr w.heap.size w1.heap.size g n c1 N vs' ∧ Keep (fun q => w.heap.size ≤ q ∧ q < w1.heap.size) w1 wr) (fun _ i _ => n - (intOf i).toNat)
      case atStart => exact ⟨0, M, 1, vs, by omega, rfl, rfl, rfl, HOF.out, Keep.refl _ _⟩
      case round =>
        obtain ⟨col, N, d, vs', hcol, rfl, rfl, hde, hom, hkp⟩ := hrel
        obtain ⟨wo, rfl⟩ : ∃ wo : World, wo = wr := ⟨_, rfl⟩
        obtain ⟨hNl, hNV, hdB⟩ := detE_inv HP.out HVM.out col (by rw [HML.out]; exact hcol) N d hde
        rw [HML.out] at hNl
        have HDN := Lib.hid hde
        have HO := Lib.hid hom
        have HK := Lib.hid hkp
        have HV := Lib.hid hNV
        have HNL := Lib.hid hNl
        have hdb := numB_bd hdB
        clear hde hom hkp hNV hNl hdB
        by_cases hlt : col < n
        · go_wp2_with (fail)
          go_loop [8] (fun i => ∃ k : Nat, col ≤ k ∧ k ≤ n ∧ i = .int .i64 k ∧ Hid (∀ q, col ≤ q → q < k → at2 N q col = 0)) (fun i => n - (intOf i).toNat)
          case atStart => exact ⟨col, Nat.le_refl _, by omega, rfl, fun q h1 h2 => absurd h2 (by omega)⟩
          case round =>
            obtain ⟨r, hk0, hk, rfl, hz⟩ := hrel
            by_cases hrn : r < n
            · obtain ⟨rowR, bk, ck, hmR, hrlR, hrvR, hRx, hfR⟩ := HO.out.cellAt HV.out hrn
              obtain ⟨hvR, hcR, hIR, hIAR⟩ := hRx hl1
              obtain ⟨x, hx, hxc⟩ := hIAR.cell col hlt
              rw [Nat.zero_add] at hxc
              have HAT := Lib.hid (at2_of hmR hx)
              have HVR := Lib.hid hvR
              clear hRx hmR hrlR hrvR hvR hIR hIAR hx
              by_cases hx0 : x = 0
              · have hb : (x == 0) = true := by simp [hx0]
                have HX0 := Lib.hid hx0
                clear hx0
                go_wp2_with (fail)
                go_round
                case rel => exact ⟨r + 1, by omega, by omega, by go_num, fun q h1 h2 => if e : q = r then by rw [e, HAT.out, HX0.out] else hz.out q h1 (by omega)⟩
                case measure => simp [intOf]; omega
              · have hb : (x == 0) = false := by simp [hx0]
                have HSM := Lib.hid (show firstW N col (N.length - col) col = some r from firstW_is hk0 (by rw [HNL.out]; omega) (by rw [HAT.out]; exact hx0) hz.out)
                have hqn : ((r : Int) == (n : Int)) = false := by rw [beq_eq_false_iff_ne]; omega
                have HX0 := Lib.hid hx0
                clear hx0
                by_cases hrc : r = col
                · obtain rfl : col = r := hrc.symm
                  have hqr : ((col : Int) != (col : Int)) = false := by simp
                  have hd0 := hdb.1
                  have HDE := Lib.hid (show detE p M (col + 1) = some (downM p N col (invM p (at2 N col col)), d * at2 N col col % p) by rw [detE_step HDN.out, detStep_some HSM.out, swapM_self N col (by rw [HNL.out]; exact hlt), if_pos rfl])
                  have HO2 := HO
                  have HVM2 := HV
                  have HK2 := HK
                  have HNL2 := HNL
                  have HNZ := Lib.hid (show at2 N col col ≠ 0 by rw [HAT.out]; exact HX0.out)
                  clear hrc hcR hfR hxc HAT HVR HSM HDN
                  obtain ⟨row2, b2, c2, hm2, hrl2, hrv2, h2x, hf2⟩ := HO2.out.cellAt HVM2.out hlt
                  obtain ⟨hv2, hc2, hI2, hIA2⟩ := h2x hl1
                  obtain ⟨x2, hx2, hxc2⟩ := hIA2.cell col hlt
                  rw [Nat.zero_add] at hxc2
                  have hxn := hrv2 x2 (List.mem_of_getElem? hx2)
                  have hxb := numB_bd hxn
                  have hat2 : at2 N col col = x2 := at2_of hm2 hx2
                  have hb2 : (x2 == 0) = false := by have h9 := HNZ.out; rw [hat2] at h9; simp [h9]
                  have hmb := mul_bd hd0 (by omega) hxb.1 (by omega)
                  obtain ⟨u, hu⟩ : ∃ u, invM p x2 = u := ⟨_, rfl⟩
                  have hun : numB p u = true := by rw [← hu]; exact numB_mk HP.out (inv_bd HP.out).1 (inv_bd HP.out).2
                  have hub := numB_bd hun
                  have HDE2 := Lib.hid (show detE p M (col + 1) = some (downM p N col u, d * x2 % p) by rw [HDE.out, hat2, hu])
                  have HU := Lib.hid hu
                  clear hm2 hrl2 hrv2 h2x hv2 hI2 hIA2 hx2 hxn hat2 hu HDE hun HNZ
                  go_wp2_with (fail)
                  refine (specBack p x2 _ HP.out hxb.1 hxb.2.1).mono ?_
                  rintro e w3 ⟨rfl, rfl⟩
                  rw [HU.out]
                  go_wp2_with (fail)
                  go_loopw [11] (fun i wi => ∃ k : Nat, k ≤ n - (col + 1) ∧ i = .int .i64 ((col + 1 + k : Nat) : Int) ∧ OMF wi w.heap.size w1.heap.size g n c1 ((downM p N col u).take (col + 1 + k) ++ N.drop (col + 1 + k)) vs' ∧ Keep (fun q => w.heap.size ≤ q ∧ q < w1.heap.size) w1 wi) (fun i _ => n - (intOf i).toNat)
                  case atStart => exact ⟨0, by omega, by go_num, by rw [Nat.add_zero, downMix_start (by rw [HNL2.out]; exact hlt)]; exact HO2.out, HK2.out⟩
                  case round =>
                    obtain ⟨k, hk, rfl, hom, hkp⟩ := hrel
                    obtain ⟨ri, hri⟩ : ∃ ri, col + 1 + k = ri := ⟨_, rfl⟩
                    simp only [hri] at hom ⊢
                    by_cases hin : ri < n
                    · have hVM := HVM2.out.downMix (col := col) (k := ri) (back := u) HP.out (by rw [HNL2.out]; exact hlt)
                      have HVX := Lib.hid hVM
                      obtain ⟨row, bi, ci, hmi, hrl, hrv, hix, hfi⟩ := hom.cellAt hVM hin
                      obtain ⟨hvi, hci, hIi, hIAi⟩ := hix hl1
                      obtain ⟨rowt, bt, ct, hmt, hrlt, hrvt, htx, hft⟩ := hom.cellAt hVM hlt
                      obtain ⟨hvt, hct, hIt, hIAt⟩ := htx hl1
                      rw [mix_get _ _ _ (downM_len p N col u) (by rw [downM_len, HNL2.out]; exact hin)] at hmi
                      have hmt0 := hmt
                      rw [downMix_low (by rw [HNL2.out]; exact hlt) (Nat.le_refl _)] at hmt
                      obtain ⟨x, hx, hxc⟩ := hIAi.cell col hlt
                      rw [Nat.zero_add] at hxc
                      have hxb' := numB_bd (hrv x (List.mem_of_getElem? hx))
                      have hmb2 := mul_bd hxb'.1 (by omega) hub.1 (by omega)
                      have hat : at2 N ri col = x := at2_of hmi hx
                      obtain ⟨t, ht⟩ : ∃ t, x * u % p = t := ⟨_, rfl⟩
                      have htn : numB p t = true := by rw [← ht]; exact numB_emod HP.out _
                      have htb := numB_bd htn
                      have HSR := Lib.hid (show (downM p N col u)[ri]? = some (subRow p t row rowt) by
                        rw [downM_get _ _ _ _ _ (by rw [HNL2.out]; exact hin)]; unfold downRow; rw [if_neg (by omega), hat, getD_of hmi, getD_of hmt, ht])
                      have HO := Lib.hid hom
                      have HKP := Lib.hid hkp
                      have HMI := Lib.hid hmi
                      have HMT := Lib.hid hmt0
                      have HRL := Lib.hid hrl
                      have HRV := Lib.hid hrv
                      have HRVT := Lib.hid hrvt
                      have HRLT := Lib.hid hrlt
                      have HT := Lib.hid ht
                      clear hom hkp hmi hmt hmt0 hvi hvt hrl hrv hrlt hrvt hIi hIt hIAi hIAt hx hat hix htx hVM ht htn
                      go_wp2_with (fail)
                      rw [HT.out]
                      go_loopw [13] (fun i wi => ∃ s : Nat, s ≤ n ∧ i = .int .i64 s ∧ OMF wi w.heap.size w1.heap.size g n c1 (((downM p N col u).take ri ++ N.drop ri).set ri ((subRow p t row rowt).take s ++ row.drop s)) vs' ∧ Keep (fun q => w.heap.size ≤ q ∧ q < w1.heap.size) w1 wi) (fun i _ => n - (intOf i).toNat)
                      case atStart => exact ⟨0, by omega, rfl, by rw [List.take_zero, List.nil_append, List.drop_zero, set_same (by rw [mix_get _ _ _ (downM_len p N col u) (by rw [downM_len, HNL2.out]; exact hin)]; exact HMI.out)]; exact HO.out, HKP.out⟩
                      case round =>
                        obtain ⟨s, hs', rfl, hom, hkp⟩ := hrel
                        have hsl : (subRow p t row rowt).length = n := subRow_full HRL.out HRLT.out
                        have hVq := HVX.out.mixRow (i := ri) hsl HRL.out hs' (subRow_valid HP.out row rowt) HRV.out
                        obtain ⟨rowq, bq, cq, hmq, hrlq, hrvq, hqx, hfq⟩ := hom.cellAt hVq hin
                        obtain ⟨hvq, hcq, hIq, hIAq⟩ := hqx hl1
                        obtain ⟨rowt', bt', ct', hmt', hrlt', hrvt', htx', hft'⟩ := hom.cellAt hVq hlt
                        obtain ⟨hvt', hct', hIt', hIAt'⟩ := htx' hl1
                        have hml : ri < ((downM p N col u).take ri ++ N.drop ri).length := by simp [downM_len, HNL2.out]; omega
                        rw [List.getElem?_set_self hml] at hmq
                        obtain rfl := Option.some.inj hmq
                        rw [List.getElem?_set_ne (by omega), HMT.out] at hmt'
                        obtain rfl := Option.some.inj hmt'
                        by_cases hlq : s < n
                        · have hl := HRL.out
                          have hlt' := HRLT.out
                          have hxq : row[s]? = some (row[s]'(by omega)) := List.getElem?_eq_getElem (by omega)
                          obtain ⟨z, hz⟩ : ∃ z, row[s]'(by omega) = z := ⟨_, rfl⟩
                          rw [hz] at hxq
                          have hzb := numB_bd (HRV.out z (List.mem_of_getElem? hxq))
                          obtain ⟨z', hz', hzc⟩ := hIAq.cell s hlq
                          rw [mix_get _ _ _ (by rw [hsl]; omega) (by rw [hsl]; exact hlq), hxq] at hz'
                          obtain rfl := Option.some.inj hz'
                          obtain ⟨y, hy, hyc⟩ := hIAt'.cell s hlq
                          have hyb := numB_bd (HRVT.out y (List.mem_of_getElem? hy))
                          have hmb3 := mul_bd htb.1 (by omega) hyb.1 (by omega)
                          rw [Nat.zero_add] at hzc hyc
                          have hfz := World.ownsRow.frozenAt hIq s
                          obtain ⟨hO4, hK4⟩ := hom.store (List.getElem?_set_self hml) hrlq hvq hIq (q := s) ((z - t * y) % p)
                          rw [List.set_set, mix_set (by rw [hsl]; omega) (subRow_get hxq hy)] at hO4
                          have HO4 := Lib.hid hO4
                          have HK4 := Lib.hid (hkp.trans hK4)
                          obtain ⟨u', hu'⟩ : ∃ u', (z - t * y) % p = u' := ⟨_, rfl⟩
                          rw [hu'] at HO4 HK4
                          have HU' := Lib.hid hu'
                          clear hO4 hK4 hkp hom hVq hrlq hrvq hqx hvq hIq hIAq hl hxq hz hz' hy hml hsl hlt' hrlt' hrvt' htx' hvt' hIt' hIAt' hu'
                          go_wp2_with (fail)
                          refine wp_quiet_tail 25 (by kernel_rfl) (by kernel_rfl) ?_
                          simp only [List.take_succ_cons, List.take_zero, List.drop_succ_cons, List.drop_zero]
                          repeat (go_big_quiet_step ((go_at_call 81; exact quiet_same (l1Mod_is HU'.out _ hpb.1 hpb.2))))
                          refine wpQuiet_nil ?_
                          intro _ hw'
                          obtain ⟨nq, hw''⟩ := hw'
                          subst hw''
                          go_wp2_with (fail)
                          go_roundw
                          case rel => exact ⟨s + 1, by omega, by go_num, HO4.out.drewN _, HK4.out.drewN _⟩
                          case measure => simp [intOf]; omega
                        · obtain rfl : s = n := by omega
                          rw [mixDone hsl HRL.out, set_step _ _ ri _ (downM_len _ _ _ _) HSR.out] at hom
                          have HO5 := Lib.hid hom
                          have HK5 := Lib.hid hkp
                          clear hom hkp hVq hrlq hrvq hqx hvq hIq hIAq hml hsl hrlt' hrvt' htx' hvt' hIt' hIAt'
                          go_wp2_with (fail)
                          go_roundw
                          case rel => exact ⟨k + 1, by omega, by rw [← hri]; go_num, by rw [← Nat.add_assoc, hri]; exact HO5.out, HK5.out⟩
                          case measure => simp [intOf]; omega
                    · obtain rfl : ri = n := by omega
                      rw [mixDone (by rw [downM_len]; exact HNL2.out) HNL2.out] at hom
                      have HO5 := Lib.hid hom
                      have HK5 := Lib.hid hkp
                      clear hom hkp
                      go_wp2_with (fail)
                      go_roundw
                      case rel => exact ⟨col + 1, _, _, vs', by omega, by go_num, rfl, HDE2.out, HO5.out, HK5.out⟩
                      case measure => simp [intOf]; omega
                · have hqr : ((r : Int) != (col : Int)) = true := neInt hrc
                  obtain ⟨rowT, bT, cT, hmT, hrlT, hrvT, hTx, hfT⟩ := HO.out.cellAt HV.out hlt
                  obtain ⟨hvT, hcT, hIT, hIAT⟩ := hTx hl1
                  obtain ⟨hO2, hK2⟩ := HO.out.swapped' hrn hlt HVR.out hvT
                  obtain ⟨v2, hv2⟩ : ∃ v2, (wo.setCell ⟨g, r, none⟩ (.slice (some ⟨bT, 0, none⟩) n cT)).cell? ⟨g, col, none⟩ = some v2 := ⟨_, (World.cell?_setCell_other _ _ _ _ (fun h => hrc (congrArg Addr.off h))).trans hcT⟩
                  have HDE1 := Lib.hid (show detE p M (col + 1) = some (downM p (swapM N r col) col (invM p (at2 (swapM N r col) col col)), -d % p * at2 (swapM N r col) col col % p) by rw [detE_step HDN.out, detStep_some HSM.out, if_neg hrc])
                  obtain ⟨N2, hN2⟩ : ∃ N2, swapM N r col = N2 := ⟨_, rfl⟩
                  obtain ⟨vs2, hvs2⟩ : ∃ vs2, swapV vs' r col = vs2 := ⟨_, rfl⟩
                  obtain ⟨d2, hd2⟩ : ∃ d2, -d % p = d2 := ⟨_, rfl⟩
                  have hd0 : 0 ≤ d2 := hd2 ▸ Int.emod_nonneg _ (by omega)
                  have hd1 : d2 < p := hd2 ▸ Int.emod_lt_of_pos _ (by omega)
                  rw [hN2] at hO2
                  rw [hvs2] at hO2
                  rw [hN2, hd2] at HDE1
                  have HDE := HDE1
                  have HVM2 := Lib.hid (show VM p n N2 from hN2 ▸ HV.out.swap (i := r) (j := col) (by rw [HNL.out]; exact hrn) (by rw [HNL.out]; exact hlt))
                  have HNL2 := Lib.hid (show N2.length = n by rw [← hN2, swapM_len]; exact HNL.out)
                  have HNZ := Lib.hid (show at2 N2 col col ≠ 0 by
                    have e2 : at2 (swapM N r col) col col = at2 N r col := by unfold at2; rw [getD_congr (swapM_at (by rw [HNL.out]; exact hrn) (by rw [HNL.out]; exact hlt))]
                    rw [← hN2, e2, HAT.out]; exact HX0.out)
                  have HO2' := Lib.hid hO2
                  have HK2' := Lib.hid (HK.out.trans (hK2.mono (T := fun q => w.heap.size ≤ q ∧ q < w1.heap.size) (fun q _ hq => by rw [hq]; exact ⟨(HOF.out.om.out.lt g rfl).1, (HOF.out.om.out.lt g rfl).2⟩)))
                  have HD2 := Lib.hid hd2
                  clear HDE1 hmT hrlT hrvT hTx hvT hIT hIAT hO2 hK2 hN2 hvs2 hd2 hrc HAT HVR HSM HDN
                  go_wp2_with (fail)
                  refine (l1Mod_is HD2.out _ hpb.1 hpb.2).mono ?_
                  rintro e w3 ⟨rfl, rfl⟩
                  obtain ⟨w2, hw2⟩ : ∃ w2, w2 = (wo.setCell ⟨g, r, none⟩ (.slice (some ⟨bT, 0, none⟩) n cT)).setCell ⟨g, col, none⟩ (.slice (some ⟨bk, 0, none⟩) n ck) := ⟨_, rfl⟩
                  rw [← hw2]
                  have HO2 := Lib.hid (show OMF w2 w.heap.size w1.heap.size g n c1 N2 vs2 from hw2 ▸ HO2'.out)
                  have HK2 := Lib.hid (show Keep (fun q => w.heap.size ≤ q ∧ q < w1.heap.size) w1 w2 from hw2 ▸ HK2'.out)
                  clear hw2 hv2 hcR hcT hfR hfT hxc
                  obtain ⟨row2, b2, c2, hm2, hrl2, hrv2, h2x, hf2⟩ := HO2.out.cellAt HVM2.out hlt
                  obtain ⟨hv2, hc2, hI2, hIA2⟩ := h2x hl1
                  obtain ⟨x2, hx2, hxc2⟩ := hIA2.cell col hlt
                  rw [Nat.zero_add] at hxc2
                  have hxn := hrv2 x2 (List.mem_of_getElem? hx2)
                  have hxb := numB_bd hxn
                  have hat2 : at2 N2 col col = x2 := at2_of hm2 hx2
                  have hb2 : (x2 == 0) = false := by have h9 := HNZ.out; rw [hat2] at h9; simp [h9]
                  have hmb := mul_bd hd0 (by omega) hxb.1 (by omega)
                  obtain ⟨u, hu⟩ : ∃ u, invM p x2 = u := ⟨_, rfl⟩
                  have hun : numB p u = true := by rw [← hu]; exact numB_mk HP.out (inv_bd HP.out).1 (inv_bd HP.out).2
                  have hub := numB_bd hun
                  have HDE2 := Lib.hid (show detE p M (col + 1) = some (downM p N2 col u, d2 * x2 % p) by rw [HDE.out, hat2, hu])
                  have HU := Lib.hid hu
                  clear hm2 hrl2 hrv2 h2x hv2 hI2 hIA2 hx2 hxn hat2 hu HDE hun HNZ
                  go_wp2_with (fail)
                  refine (specBack p x2 _ HP.out hxb.1 hxb.2.1).mono ?_
                  rintro e w3 ⟨rfl, rfl⟩
                  rw [HU.out]
                  go_wp2_with (fail)
                  go_loopw [11] (fun i wi => ∃ k : Nat, k ≤ n - (col + 1) ∧ i = .int .i64 ((col + 1 + k : Nat) : Int) ∧ OMF wi w.heap.size w1.heap.size g n c1 ((downM p N2 col u).take (col + 1 + k) ++ N2.drop (col + 1 + k)) vs2 ∧ Keep (fun q => w.heap.size ≤ q ∧ q < w1.heap.size) w1 wi) (fun i _ => n - (intOf i).toNat)
                  case atStart => exact ⟨0, by omega, by go_num, by rw [Nat.add_zero, downMix_start (by rw [HNL2.out]; exact hlt)]; exact HO2.out, HK2.out⟩
                  case round =>
                    obtain ⟨k, hk, rfl, hom, hkp⟩ := hrel
                    obtain ⟨ri, hri⟩ : ∃ ri, col + 1 + k = ri := ⟨_, rfl⟩
                    simp only [hri] at hom ⊢
                    by_cases hin : ri < n
                    · have hVM := HVM2.out.downMix (col := col) (k := ri) (back := u) HP.out (by rw [HNL2.out]; exact hlt)
                      have HVX := Lib.hid hVM
                      obtain ⟨row, bi, ci, hmi, hrl, hrv, hix, hfi⟩ := hom.cellAt hVM hin
                      obtain ⟨hvi, hci, hIi, hIAi⟩ := hix hl1
                      obtain ⟨rowt, bt, ct, hmt, hrlt, hrvt, htx, hft⟩ := hom.cellAt hVM hlt
                      obtain ⟨hvt, hct, hIt, hIAt⟩ := htx hl1
                      rw [mix_get _ _ _ (downM_len p N2 col u) (by rw [downM_len, HNL2.out]; exact hin)] at hmi
                      have hmt0 := hmt
                      rw [downMix_low (by rw [HNL2.out]; exact hlt) (Nat.le_refl _)] at hmt
                      obtain ⟨x, hx, hxc⟩ := hIAi.cell col hlt
                      rw [Nat.zero_add] at hxc
                      have hxb' := numB_bd (hrv x (List.mem_of_getElem? hx))
                      have hmb2 := mul_bd hxb'.1 (by omega) hub.1 (by omega)
                      have hat : at2 N2 ri col = x := at2_of hmi hx
                      obtain ⟨t, ht⟩ : ∃ t, x * u % p = t := ⟨_, rfl⟩
                      have htn : numB p t = true := by rw [← ht]; exact numB_emod HP.out _
                      have htb := numB_bd htn
                      have HSR := Lib.hid (show (downM p N2 col u)[ri]? = some (subRow p t row rowt) by
                        rw [downM_get _ _ _ _ _ (by rw [HNL2.out]; exact hin)]; unfold downRow; rw [if_neg (by omega), hat, getD_of hmi, getD_of hmt, ht])
                      have HO := Lib.hid hom
                      have HKP := Lib.hid hkp
                      have HMI := Lib.hid hmi
                      have HMT := Lib.hid hmt0
                      have HRL := Lib.hid hrl
                      have HRV := Lib.hid hrv
                      have HRVT := Lib.hid hrvt
                      have HRLT := Lib.hid hrlt
                      have HT := Lib.hid ht
                      clear hom hkp hmi hmt hmt0 hvi hvt hrl hrv hrlt hrvt hIi hIt hIAi hIAt hx hat hix htx hVM ht htn
                      go_wp2_with (fail)
                      rw [HT.out]
                      go_loopw [13] (fun i wi => ∃ s : Nat, s ≤ n ∧ i = .int .i64 s ∧ OMF wi w.heap.size w1.heap.size g n c1 (((downM p N2 col u).take ri ++ N2.drop ri).set ri ((subRow p t row rowt).take s ++ row.drop s)) vs2 ∧ Keep (fun q => w.heap.size ≤ q ∧ q < w1.heap.size) w1 wi) (fun i _ => n - (intOf i).toNat)
                      case atStart => exact ⟨0, by omega, rfl, by rw [List.take_zero, List.nil_append, List.drop_zero, set_same (by rw [mix_get _ _ _ (downM_len p N2 col u) (by rw [downM_len, HNL2.out]; exact hin)]; exact HMI.out)]; exact HO.out, HKP.out⟩
                      case round =>
                        obtain ⟨s, hs', rfl, hom, hkp⟩ := hrel
                        have hsl : (subRow p t row rowt).length = n := subRow_full HRL.out HRLT.out
                        have hVq := HVX.out.mixRow (i := ri) hsl HRL.out hs' (subRow_valid HP.out row rowt) HRV.out
                        obtain ⟨rowq, bq, cq, hmq, hrlq, hrvq, hqx, hfq⟩ := hom.cellAt hVq hin
                        obtain ⟨hvq, hcq, hIq, hIAq⟩ := hqx hl1
                        obtain ⟨rowt', bt', ct', hmt', hrlt', hrvt', htx', hft'⟩ := hom.cellAt hVq hlt
                        obtain ⟨hvt', hct', hIt', hIAt'⟩ := htx' hl1
                        have hml : ri < ((downM p N2 col u).take ri ++ N2.drop ri).length := by simp [downM_len, HNL2.out]; omega
                        rw [List.getElem?_set_self hml] at hmq
                        obtain rfl := Option.some.inj hmq
                        rw [List.getElem?_set_ne (by omega), HMT.out] at hmt'
                        obtain rfl := Option.some.inj hmt'
                        by_cases hlq : s < n
                        · have hl := HRL.out
                          have hlt' := HRLT.out
                          have hxq : row[s]? = some (row[s]'(by omega)) := List.getElem?_eq_getElem (by omega)
                          obtain ⟨z, hz⟩ : ∃ z, row[s]'(by omega) = z := ⟨_, rfl⟩
                          rw [hz] at hxq
                          have hzb := numB_bd (HRV.out z (List.mem_of_getElem? hxq))
                          obtain ⟨z', hz', hzc⟩ := hIAq.cell s hlq
                          rw [mix_get _ _ _ (by rw [hsl]; omega) (by rw [hsl]; exact hlq), hxq] at hz'
                          obtain rfl := Option.some.inj hz'
                          obtain ⟨y, hy, hyc⟩ := hIAt'.cell s hlq
                          have hyb := numB_bd (HRVT.out y (List.mem_of_getElem? hy))
                          have hmb3 := mul_bd htb.1 (by omega) hyb.1 (by omega)
                          rw [Nat.zero_add] at hzc hyc
                          have hfz := World.ownsRow.frozenAt hIq s
                          obtain ⟨hO4, hK4⟩ := hom.store (List.getElem?_set_self hml) hrlq hvq hIq (q := s) ((z - t * y) % p)
                          rw [List.set_set, mix_set (by rw [hsl]; omega) (subRow_get hxq hy)] at hO4
                          have HO4 := Lib.hid hO4
                          have HK4 := Lib.hid (hkp.trans hK4)
                          obtain ⟨u', hu'⟩ : ∃ u', (z - t * y) % p = u' := ⟨_, rfl⟩
                          rw [hu'] at HO4 HK4
                          have HU' := Lib.hid hu'
                          clear hO4 hK4 hkp hom hVq hrlq hrvq hqx hvq hIq hIAq hl hxq hz hz' hy hml hsl hlt' hrlt' hrvt' htx' hvt' hIt' hIAt' hu'
                          go_wp2_with (fail)
                          refine wp_quiet_tail 25 (by kernel_rfl) (by kernel_rfl) ?_
                          simp only [List.take_succ_cons, List.take_zero, List.drop_succ_cons, List.drop_zero]
                          repeat (go_big_quiet_step ((go_at_call 81; exact quiet_same (l1Mod_is HU'.out _ hpb.1 hpb.2))))
                          refine wpQuiet_nil ?_
                          intro _ hw'
                          obtain ⟨nq, hw''⟩ := hw'
                          subst hw''
                          go_wp2_with (fail)
                          go_roundw
                          case rel => exact ⟨s + 1, by omega, by go_num, HO4.out.drewN _, HK4.out.drewN _⟩
                          case measure => simp [intOf]; omega
                        · obtain rfl : s = n := by omega
                          rw [mixDone hsl HRL.out, set_step _ _ ri _ (downM_len _ _ _ _) HSR.out] at hom
                          have HO5 := Lib.hid hom
                          have HK5 := Lib.hid hkp
                          clear hom hkp hVq hrlq hrvq hqx hvq hIq hIAq hml hsl hrlt' hrvt' htx' hvt' hIt' hIAt'
                          go_wp2_with (fail)
                          go_roundw
                          case rel => exact ⟨k + 1, by omega, by rw [← hri]; go_num, by rw [← Nat.add_assoc, hri]; exact HO5.out, HK5.out⟩
                          case measure => simp [intOf]; omega
                    · obtain rfl : ri = n := by omega
                      rw [mixDone (by rw [downM_len]; exact HNL2.out) HNL2.out] at hom
                      have HO5 := Lib.hid hom
                      have HK5 := Lib.hid hkp
                      clear hom hkp
                      go_wp2_with (fail)
                      go_roundw
                      case rel => exact ⟨col + 1, _, _, vs2, by omega, by go_num, rfl, HDE2.out, HO5.out, HK5.out⟩
                      case measure => simp [intOf]; omega
            · obtain rfl : r = n := by omega
              have hqn : ((r : Int) == (r : Int)) = true := by simp
              have HR0 := Lib.hid (show detR p M = 0 by rw [HR.out]; exact detV_none (c := col + 1) (by rw [detE_step HDN.out, detStep_none (firstW_not (fun q h1 h2 => hz.out q h1 (by rw [HNL.out] at h2; omega)))]) (by rw [HML.out]; omega))
              go_wp2_with (fail)
              go_ret
              exact ⟨by rw [HR0.out]; rfl, HB.out.trans (HK.out.below (B := w.heap.size) hsz1 (fun q hq => hq.1))⟩
        · obtain rfl : col = n := by omega
          have HR0 := Lib.hid (show detR p M = d by rw [HR.out]; exact detV_some (N := N) (by rw [HML.out]; exact HDN.out))
          go_wp2_with (fail)
          go_ret
          exact ⟨by rw [HR0.out]; rfl, HB.out.trans (HK.out.below (B := w.heap.size) hsz1 (fun q hq => hq.1))⟩
    · have hq : ((n : Int) != (l0 : Int)) = true := neInt hsq
      have HV := Lib.hid hv
      have HR := Lib.hid (show detR p M = -1 from detR_odd (by rw [hl0, hL]; exact hsq))
      clear hv hvm hp hL hrows hl0
      go_enter Try.func57, Try.ntmps57
      go_wp2_with (fail)
      refine (specMatValid p _ n c b o M _ H.out).mono ?_
      rintro e w1 ⟨rfl, md, rfl⟩
      rw [HV.out]
      go_wp2_with (fail)
      go_ret
      exact ⟨by rw [HR.out]; rfl, below_undraw (Below.refl _ _)⟩
end Go.Proofs.Ytcjpjcigjljplaa
namespace Go.Proofs.Ytcjpjcigjljplaa
open Go.RowKit
def detsL (p : Int) (T F : List Int) : List Int := (List.range 8).map fun i => detR p (sqrL p T F (i + 1))
def detsO (p : Int) (T F : List Int) : List Int := if recB p T F = true then detsL p T F else []
theorem detsL_len (p : Int) (T F : List Int) : (detsL p T F).length = 8 := by simp [detsL]
theorem detsL_get (p : Int) (T F : List Int) {k : Nat} (h : k < 8) : (detsL p T F)[k]? = some (detR p (sqrL p T F (k + 1))) := by unfold detsL; rw [List.getElem?_map, List.getElem?_range h]; rfl
theorem detsO_len (p : Int) (T F : List Int) : (detsO p T F).length ≤ 1048576 := by
  unfold detsO
  split
  · rw [detsL_len]; decide
  · simp
set_option maxRecDepth 100000 in
set_option maxHeartbeats 4000000 in
theorem implTableDets (v : Value) (p : Int) (T F : List Int) (w : World) (h : RV w v p T F) :
    Calls Try.prog 29 #[v] w (MadeI (detsO p T F).length (detsO p T F) w) := by
  obtain ⟨A, n, c, b, o, A', n', c', b', o', rfl, g1, g2⟩ := h
  have hbx := Bx.new w (.int .i64 p) (.slice A n c) (.slice A' n' c') 42
  have hB0 : Below w.heap.size w (w.alloc (.cells #[.int .i64 p, .slice A n c, .slice A' n' c'] 42)) := (Below.refl _ w).alloc (Nat.le_refl _) _
  have HV0 := Lib.hid (show RV _ (.agg #[.int .i64 p, .slice A n c, .slice A' n' c']) p T F from ⟨_, _, _, _, _, _, _, _, _, _, rfl, g1.below hB0, g2.below hB0⟩)
  have HBX := Lib.hid hbx
  have HB0 := Lib.hid hB0
  clear g1 g2 hB0 hbx
  rcases hv : recB p T F
  · have HV := Lib.hid hv
    have HE := Lib.hid (show detsO p T F = [] by unfold detsO; rw [if_neg (by simp [hv])])
    clear hv
    go_enter Try.func29, Try.ntmps29
    go_wp2_with (go_at_call 54; refine (implRecValid _ p T F _ HV0.out).mono ?_; rintro e w1 ⟨rfl, hB⟩; rw [HV.out]; have HB := Lib.hid hB; clear hB)
    go_ret
    rw [HE.out]
    exact ⟨none, 0, rfl, World.ownsRow_nil _ _ _ _, below_more HB0.out HB.out⟩
  have HV := Lib.hid hv
  have HE := Lib.hid (show detsO p T F = detsL p T F by unfold detsO; rw [if_pos hv])
  obtain ⟨D, hD⟩ : ∃ D, detsL p T F = D := ⟨_, rfl⟩
  have HD := Lib.hid hD
  have HDL := Lib.hid (show D.length = 8 by rw [← hD, detsL_len])
  have HDG := Lib.hid (show ∀ k, k < 8 → D[k]? = some (detR p (sqrL p T F (k + 1))) from fun k hk => by rw [← hD, detsL_get p T F hk])
  have hmk := run_make_row' (P := Try.prog) 23 3 (.int .i64 0) 8 Try.underlying23 infoInt rfl .i64 .i64 8 (by omega) (by omega)
  rw [show ((8 : Nat) : Int) = 8 from rfl] at hmk
  clear hv hD
  go_enter Try.func29, Try.ntmps29
  go_wp2_with (go_at_call 54; refine (implRecValid _ p T F _ HV0.out).mono ?_; rintro e w1 ⟨rfl, hB⟩; rw [HV.out]; have HB1 := Lib.hid (below_more HB0.out hB); have HBX1 := Lib.hid (HBX.out.below hB); have HV1 := Lib.hid (HV0.out.below hB); clear hB)
  go_loopw [11] (fun i wr => ∃ k : Nat, k ≤ 8 ∧ i = .int .i64 (k : Int) ∧ OI wr w1.heap.size (some ⟨w1.heap.size, 0, none⟩) 8 8 (D.take k ++ List.replicate (8 - k) 0) ∧ Below w1.heap.size w1 wr) (fun i _ => 8 - (intOf i).toNat)
  case atStart => exact ⟨0, by omega, rfl, by simpa using made_ints w1 8 (by omega), below_new _ _⟩
  case round =>
    obtain ⟨k, hk, rfl, hown, hbel⟩ := hrel
    by_cases hlt : k < 8
    · have HBr := Lib.hid hbel
      have HBXr := Lib.hid (HBX1.out.below hbel)
      have HVr := Lib.hid (HV1.out.below hbel)
      obtain ⟨y, hy⟩ : ∃ y, detR p (sqrL p T F (k + 1)) = y := ⟨_, rfl⟩
      have HY := Lib.hid hy
      have hyc : D[k]? = some y := by rw [HDG.out k hlt, hy]
      have hmx : (D.take k ++ List.replicate (8 - k) 0).set k y = D.take (k + 1) ++ List.replicate (8 - (k + 1)) 0 := by
        have := set_step D (List.replicate 8 0) k y (by rw [HDL.out, List.length_replicate]) hyc
        rwa [List.drop_replicate, List.drop_replicate] at this
      have HMX := Lib.hid hmx
      have HO := Lib.hid hown
      have HSQ := Lib.hid (show ∀ (W : World), RV W (.agg #[.int .i64 p, .slice A n c, .slice A' n' c']) p T F → Calls Try.prog 56 #[.agg #[.int .i64 p, .slice A n c, .slice A' n' c'], .int .i64 ((k : Int) + 1)] W (MadeM (k + 1) (sqrL p T F (k + 1)) W) from fun W h => by
        have := squareTable_any _ p T F (k + 1) W h HV.out (by omega) (by omega)
        rwa [show ((k + 1 : Nat) : Int) = (k : Int) + 1 by omega] at this)
      have hk1 : IntKind.i64.wrap ((k : Int) + 1) = (k : Int) + 1 := IntWalk.i64_in _ ⟨by omega, by omega⟩
      obtain ⟨y0, y1, y2⟩ := HBXr.out
      clear hy hyc hmx hown hbel
      go_wp2_with (fail)
      have HVd := Lib.hid (HVr.out.below (below_new_drew _))
      have HOd := Lib.hid (owns_below HO.out (below_new_drew _))
      have HBd := Lib.hid HBr.out.drew
      have hf0 : ∀ (W : World) (o1 o2 : Nat) (v : Value), (W.setCell ⟨w1.heap.size, o1, none⟩ v).cell? ⟨w.heap.size, o2, none⟩ = W.cell? ⟨w.heap.size, o2, none⟩ := fun W o1 o2 v => World.cell?_setCell_far _ _ _ _ (by show w1.heap.size ≠ w.heap.size; have := HBX1.out.lt; omega)
      have ZS := HBXr.out
      have Zd := HBXr.out.drew
      unfold Bx at ZS Zd
      go_region_held3 (fun w' => w'.cell? ⟨w.heap.size, 0, none⟩ = some (.int .i64 p) ∧ w'.cell? ⟨w.heap.size, 1, none⟩ = some (.slice A n c) ∧ w'.cell? ⟨w.heap.size, 2, none⟩ = some (.slice A' n' c')) (first | assumption | exact ZB | exact ZA | exact Zd | exact ZS | (simp only [hf0]; exact ZB) | go_keep)
        (first
          | (go_at_call 56; refine (HSQ.out _ HVd.out).mono ?_; rintro e w3 ⟨A5, c5, v5, rfl, hO, hB⟩; obtain ⟨b5, hR⟩ := hO.ra; have HR5 := Lib.hid hR; have HB3 := Lib.hid (below_more HBd.out hB); have HBX3 := Lib.hid (HBXr.out.drew.below hB); have HO3 := Lib.hid (owns_below HOd.out hB); have ZA := HBX3.out; unfold Bx at ZA; clear hO hB hR)
          | (go_at_call 58; refine (implMatDet p A5 _ c5 b5 0 (sqrL p T F (k + 1)) _ HR5.out).mono ?_; rintro e w4 ⟨rfl, hB⟩; rw [HY.out]; have HB4 := Lib.hid (below_more HB3.out hB); have HBX4 := Lib.hid (HBX3.out.below hB); have ZB := HBX4.out; unfold Bx at ZB; have hO4 := owns_below HO3.out hB; have hcell := World.ownsRow.cellAt hO4 k (by omega); have hfr := World.ownsRow.frozenAt hO4 k; have hst := World.ownsRow.stored hO4 k (.int .i64 y); rw [ints_set, HMX.out] at hst; have HO5 := Lib.hid hst.1; obtain ⟨v0, hv0⟩ : ∃ v0, w4.cell? ⟨w1.heap.size, k, none⟩ = some v0 := (by rw [hcell]; exact ⟨_, List.getElem?_eq_getElem (by simp only [ints, List.length_map, List.length_append, List.length_take, List.length_replicate, HDL.out]; omega)⟩); clear hB hcell hst hO4))
      all_goals
        go_wp2_with (fail)
        go_roundw
        case rel => exact ⟨k + 1, by omega, by go_num, HO5.out, HB4.out.setCell (Nat.le_refl _) _⟩
        case measure => simp [intOf]; omega
    · obtain rfl : k = 8 := by omega
      have e : D.take 8 ++ List.replicate (8 - 8) 0 = D := by rw [List.take_of_length_le (by rw [HDL.out]; exact Nat.le_refl _)]; simp
      rw [e] at hown
      have HO := Lib.hid hown
      have HB := Lib.hid hbel
      clear e hown hbel
      go_wp2_with (fail)
      go_ret
      rw [HE.out, HD.out, HDL.out]
      exact ⟨_, _, rfl, owns_mono HO.out HB1.out.size, below_more HB1.out HB.out⟩
set_option maxRecDepth 100000 in
set_option maxHeartbeats 4000000 in
theorem specTableDets (v : Value) (p : Int) (T F : List Int) (w : World) (h : RV w v p T F) :
    Calls Try.prog 28 #[v] w (MadeI (detsO p T F).length (detsO p T F) w) := by
  obtain ⟨A, n, c, b, o, A', n', c', b', o', rfl, g1, g2⟩ := h
  have HRV := Lib.hid (show RV w (.agg #[.int .i64 p, .slice A n c, .slice A' n' c']) p T F from ⟨_, _, _, _, _, _, _, _, _, _, rfl, g1, g2⟩)
  clear g1 g2
  obtain ⟨W0, hW0⟩ : ∃ W0, (w.alloc (.cells #[.int .i64 p, .slice A n c, .slice A' n' c'] 42)).alloc (.cells #[] 3) = W0 := ⟨_, rfl⟩
  have hH0 : HoldR w W0 (.int .i64 p) (.slice A n c) (.slice A' n' c') := by rw [← hW0]; exact (HoldR.start w _ _ _ _).below ((Below.refl _ _).alloc (Nat.le_refl _) _)
  have hrow : OI W0 (w.heap.size + 1) (some ⟨w.heap.size + 1, 0, none⟩) 0 0 [] := by
    have := oi_empty (w.alloc (.cells #[.int .i64 p, .slice A n c, .slice A' n' c'] 42)) (w.heap.size + 1) (by simp)
    rw [World.size_alloc] at this
    rw [← hW0]; exact this
  have HH := Lib.hid hH0
  have HR := Lib.hid hrow
  have z0 := hH0.c0
  have z1 := hH0.c1
  have z2 := hH0.c2
  clear hH0 hrow
  rcases hv : recB p T F
  · have HV := Lib.hid hv
    have HE := Lib.hid (show detsO p T F = [] by unfold detsO; rw [if_neg (by simp [hv])])
    clear hv
    go_enter Try.func28, Try.ntmps28
    go_wp2_with (fail)
    clear hW0
    go_loopw [3, 4] (fun s i wr => i = .int .i64 1 ∧ s = .slice (some ⟨w.heap.size + 1, 0, none⟩) 0 0 ∧ wr = W0) (fun _ _ _ => 0)
    case atStart => exact ⟨rfl, rfl, rfl⟩
    case round =>
      obtain ⟨rfl, rfl, rfl⟩ := hrel
      go_wp2_with (go_at_call 51; refine (specRecValid _ p T F _ (HRV.out.below HH.out.bel)).mono ?_; rintro e w1 ⟨rfl, hB⟩; rw [HV.out]; have HB := Lib.hid hB; clear hB)
      go_ret
      rw [HE.out]
      exact ⟨_, 0, rfl, owns_mono (owns_below HR.out HB.out) (by omega), below_more HH.out.bel HB.out⟩
  have HV := Lib.hid hv
  have HE := Lib.hid (show detsO p T F = detsL p T F by unfold detsO; rw [if_pos hv])
  obtain ⟨D, hD⟩ : ∃ D, detsL p T F = D := ⟨_, rfl⟩
  have HD := Lib.hid hD
  have HDL := Lib.hid (show D.length = 8 by rw [← hD, detsL_len])
  have HDG := Lib.hid (show ∀ k, k < 8 → D[k]? = some (detR p (sqrL p T F (k + 1))) from fun k hk => by rw [← hD, detsL_get p T F hk])
  have HTR := Lib.hid (show ∀ k : Nat, k < 8 → tabR p (trm p T F (2 * k + 1)) ((k : Int) + 1) ((k : Int) + 1) = sqrL p T F (k + 1) from fun k hk => by
    have := sqr_tab hv (show 1 ≤ k + 1 by omega) (show k + 1 ≤ 8 by omega)
    rwa [show ((k + 1 : Nat) : Int) = (k : Int) + 1 by omega, show 2 * (k + 1) - 1 = 2 * k + 1 by omega] at this)
  clear hv hD
  go_enter Try.func28, Try.ntmps28
  go_wp2_with (fail)
  clear hW0
  go_loopw [3, 4] (fun s i wr => ∃ (k g5 c5 : Nat), k ≤ 8 ∧ i = .int .i64 ((k : Int) + 1) ∧ s = .slice (some ⟨g5, 0, none⟩) k c5 ∧ OI wr (w.heap.size + 1) (some ⟨g5, 0, none⟩) k c5 (D.take k) ∧ Hid (HoldR w wr (.int .i64 p) (.slice A n c) (.slice A' n' c'))) (fun _ i _ => 9 - (intOf i).toNat)
  case atStart => exact ⟨0, _, _, by omega, rfl, rfl, HR.out, HH.out⟩
  case round =>
    obtain ⟨k, g5, c5, hk, rfl, rfl, hown, hh⟩ := hrel
    obtain ⟨wo, rfl⟩ : ∃ wo : World, wo = wr := ⟨_, rfl⟩
    have z0 := hh.out.c0
    have z1 := hh.out.c1
    have z2 := hh.out.c2
    have HO := Lib.hid hown
    clear hown
    by_cases hlt : k < 8
    · obtain ⟨y, hy⟩ : ∃ y, detR p (sqrL p T F (k + 1)) = y := ⟨_, rfl⟩
      have HY := Lib.hid hy
      have HST := Lib.hid (show D.take k ++ [y] = D.take (k + 1) by rw [List.take_add_one, HDG.out k hlt, hy]; rfl)
      have hq : decide ((k : Int) + 1 ≤ 8) = true := decide_eq_true (by omega)
      have hw0 : IntKind.i64.wrap (2 * ((k : Int) + 1)) = 2 * ((k : Int) + 1) := IntWalk.i64_in _ ⟨by omega, by omega⟩
      have hw1 : IntKind.i64.wrap (2 * ((k : Int) + 1) - 1) = 2 * ((k : Int) + 1) - 1 := IntWalk.i64_in _ ⟨by omega, by omega⟩
      have HL3 := Lib.hid (show ∀ (W : World), RV W (.agg #[.int .i64 p, .slice A n c, .slice A' n' c']) p T F → Calls Try.prog 53 #[.agg #[.int .i64 p, .slice A n c, .slice A' n' c'], .int .i64 (2 * ((k : Int) + 1) - 1)] W (MadeI (2 * k + 1) (trm p T F (2 * k + 1)) W) from fun W h => by
        have := specL3 _ p T F (2 * k + 1) W h HV.out (by omega)
        rwa [show ((2 * k + 1 : Nat) : Int) = 2 * ((k : Int) + 1) - 1 by omega] at this)
      clear hy
      go_wp2_with (go_at_call 51; refine (specRecValid _ p T F _ (HRV.out.below hh.out.bel)).mono ?_; rintro e w1 ⟨rfl, hB⟩; rw [HV.out]; have h1 := hh.out.below hB; have y0 := h1.c0; have y1 := h1.c1; have y2 := h1.c2; have HO1 := Lib.hid (owns_below HO.out hB); have HH1 := Lib.hid h1; have hlt1 := h1.lt; clear hB h1)
      have Z0 := And.intro y0 (And.intro y1 y2)
      have Zd : w1.drew.cell? ⟨w.heap.size, 0, none⟩ = some (.int .i64 p) ∧ w1.drew.cell? ⟨w.heap.size, 1, none⟩ = some (.slice A n c) ∧ w1.drew.cell? ⟨w.heap.size, 2, none⟩ = some (.slice A' n' c') := Z0
      have HVd := Lib.hid (HRV.out.below HH1.out.drew.bel)
      have HOd := Lib.hid (owns_below HO1.out (below_new_drew _))
      have HHd := Lib.hid HH1.out.drew
      go_region_held3 (fun w' => w'.cell? ⟨w.heap.size, 0, none⟩ = some (.int .i64 p) ∧ w'.cell? ⟨w.heap.size, 1, none⟩ = some (.slice A n c) ∧ w'.cell? ⟨w.heap.size, 2, none⟩ = some (.slice A' n' c')) (first | assumption | exact ZE | exact ZC | exact ZB | exact ZA | exact Zd | exact Z0 | go_keep)
        (first
          | (go_at_call 53; refine (HL3.out _ HVd.out).mono ?_; rintro e w3 ⟨A5, d5, rfl, hO, hB⟩; obtain ⟨b5, hI⟩ := hO.ia; have hc5 := OI.capLe hO; have HI5 := Lib.hid hI; have HH3 := Lib.hid (HHd.out.below hB); have HO3 := Lib.hid (owns_below HOd.out hB); have ZA := And.intro HH3.out.c0 (And.intro HH3.out.c1 HH3.out.c2); clear hO hB hI)
          | (go_at_call 13; refine (specTableOf p A5 _ d5 b5 0 (trm p T F (2 * k + 1)) ((k : Int) + 1) ((k : Int) + 1) _ HI5.out hc5).mono ?_; rw [HTR.out k hlt, sqr_len]; rintro e w4 ⟨A6, d6, v6, rfl, hO, hB⟩; obtain ⟨b6, hR⟩ := hO.ra; have HR6 := Lib.hid hR; have HH4 := Lib.hid (HH3.out.below hB); have HO4 := Lib.hid (owns_below HO3.out hB); have ZB := And.intro HH4.out.c0 (And.intro HH4.out.c1 HH4.out.c2); clear hO hB hR)
          | (go_at_call 57; refine (specMatDet p A6 _ d6 b6 0 (sqrL p T F (k + 1)) _ HR6.out).mono ?_; rintro e wL ⟨rfl, hB⟩; rw [HY.out]; have HHL := Lib.hid (HH4.out.below hB); have HOL := Lib.hid (owns_below HO4.out hB); have ZC := And.intro HHL.out.c0 (And.intro HHL.out.c1 HHL.out.c2); have hltL := HHL.out.lt; clear hB)
          | (refine step_app_any rfl (.tmp 14) (.tmp 28) rfl rfl (w.heap.size + 1) g5 k c5 (D.take k) rfl (World.ownsRow.alloc HOL.out _) (some ⟨wL.heap.size, 0, none⟩) 1 1 wL.heap.size 0 [y] rfl (IA.freshI y) (by simp) (by omega) (by simp; omega) ?_; intro A6 c6 w6 hO6 hg6; have hH6 := (HHL.out.below ((Below.refl _ wL).alloc (Nat.le_refl _) (.cells #[.int .i64 y] 3))).grown hg6 (fun g hg => by cases hg; exact (HOL.out.lt g5 rfl).1); have ZE := And.intro hH6.c0 (And.intro hH6.c1 hH6.c2); have HH6 := Lib.hid hH6; have HO6 := Lib.hid hO6; clear hO6 hg6 hH6))
      all_goals
        obtain ⟨g6, rfl⟩ := oi_some HO6.out (by omega)
        rw [HST.out] at HO6
        go_wp2_with (fail)
        go_roundw
        case rel => exact ⟨k + 1, g6, c6, by omega, by go_num, rfl, HO6.out, HH6.out⟩
        case measure => simp [intOf]; omega
    · obtain rfl : k = 8 := by omega
      have e : D.take 8 = D := List.take_of_length_le (by rw [HDL.out]; exact Nat.le_refl _)
      rw [e] at HO
      clear e
      go_wp2_with (fail)
      go_ret
      rw [HE.out, HD.out, HDL.out]
      exact ⟨_, _, rfl, owns_mono HO.out (by omega), hh.out.bel⟩
end Go.Proofs.Ytcjpjcigjljplaa

/-
  Plain mathematics: products, rows as columns, ranks of lists of rows; the kernel's rows.
-/
import Derived.Test.YtpelokdgjdljfabLin4
import Derived.Test.YtpelokdgjdljfabTimesT
import Derived.Test.YtpelokdgjdljfabFormI
namespace Go.Proofs.Ytpelokdgjdljfab
theorem mod_of_near {p x y : Int} (h : p ∣ x - y) : x % p = y % p := Int.emod_eq_emod_iff_emod_sub_eq_zero.2 (Int.emod_eq_zero_of_dvd h)
theorem sigN_shift (f : Nat → Int) : ∀ n, sigN (n + 1) f = f 0 + sigN n (fun k => f (k + 1))
  | 0 => by simp [sigN]
  | n + 1 => by
    show sigN (n + 1) f + f (n + 1) = f 0 + (sigN n (fun k => f (k + 1)) + f (n + 1))
    rw [sigN_shift f n]; omega
theorem dot_sig : ∀ (xs ys : List Int) (n : Nat), xs.length ≤ n → dot xs ys = sigN n (fun k => xs.getD k 0 * ys.getD k 0)
  | [], ys, n, _ => by rw [sigN_zero (fun k _ => by simp)]; simp [dot]
  | x :: xs, [], n, _ => by rw [sigN_zero (fun k _ => by simp)]; simp [dot]
  | x :: xs, y :: ys, 0, h => by simp at h
  | x :: xs, y :: ys, n + 1, h => by
    rw [sigN_shift]
    show x * y + dot xs ys = _
    rw [dot_sig xs ys n (by simpa using h)]
    rfl
theorem colM_getD (M : List (List Int)) (j k : Nat) : (colM M j).getD k 0 = at2 M k j := by
  unfold colM at2
  rw [List.getD_eq_getElem?_getD, List.getElem?_map, getQ]
  cases M[k]? <;> simp
theorem getD_row {M : List (List Int)} {i : Nat} {row : List Int} (h : M[i]? = some row) : M.getD i [] = row := by rw [getQ, h]; rfl
theorem turn_at {M : List (List Int)} {i j : Nat} (hj : j < (M.headD []).length) : at2 (turnM M) j i = at2 M i j := by
  have := turnM_get M j hj
  show ((turnM M).getD j []).getD i 0 = _
  rw [getD_row this, colM_getD]
theorem times_at {p : Int} {m : Nat} {A B : List (List Int)} (hA : VM p m A) {i j : Nat} (hi : i < A.length) (hj : j < (B.headD []).length) : at2 (timesM p A B) i j = sigN m (fun k => at2 A i k * at2 B k j) % p := by
  have h1 : A[i]? = some (A.getD i []) := by rw [getQ, List.getElem?_eq_getElem hi]; rfl
  have h2 := timesM_get (p := p) (B := B) h1
  show ((timesM p A B).getD i []).getD j 0 = _
  rw [getD_row h2, List.getD_eq_getElem?_getD, timesRow_get _ _ _ _ hj]
  show dot _ _ % p = _
  rw [dot_sig _ _ m (by rw [(hA.getD hi).1]; exact Nat.le_refl _)]
  congr 1
  exact sigN_congr fun k _ => by rw [colM_getD]; rfl
theorem headD_len {p : Int} {l : Nat} {M : List (List Int)} (h : VM p l M) (h1 : 1 ≤ M.length) : (M.headD []).length = l := by
  cases M with
  | nil => simp at h1
  | cons r M => exact (h r (by simp)).1
theorem matB_mk {p : Int} {l : Nat} {M : List (List Int)} (h : VM p l M) (h1 : 1 ≤ M.length) (h8 : M.length ≤ 8) (l1 : 1 ≤ l) (l8 : l ≤ 8) : matB p M = true := by
  have hd := headD_len h h1
  simp only [matB, hd, Bool.and_eq_true, decide_eq_true_eq, List.all_eq_true, rowOk, rowB]
  exact ⟨⟨h1, h8, l1, l8⟩, h⟩
theorem VM.times {p : Int} (hp : primeB p = true) (A B : List (List Int)) : VM p (B.headD []).length (timesM p A B) := by
  intro row hr
  unfold timesM at hr
  obtain ⟨r, _, rfl⟩ := List.mem_map.1 hr
  refine ⟨timesRow_len _ _ _, fun x hx => ?_⟩
  unfold timesRow at hx
  obtain ⟨j, _, rfl⟩ := List.mem_map.1 hx
  exact numB_emod hp _
theorem VM.turn {p : Int} {M : List (List Int)} (h : matB p M = true) : VM p M.length (turnM M) := by
  intro row hr
  unfold turnM at hr
  obtain ⟨j, hj, rfl⟩ := List.mem_map.1 hr
  exact ⟨colM_len _ _, colM_valid h j (List.mem_range.1 hj)⟩
theorem times_mat {p : Int} {A B : List (List Int)} (hA : matB p A = true) (hB : matB p B = true) : matB p (timesM p A B) = true ∧ ((timesM p A B).headD []).length = (B.headD []).length := by
  obtain ⟨a1, a2, a3, a4, _⟩ := matB_true hA
  obtain ⟨b1, b2, b3, b4, _⟩ := matB_true hB
  have hV := VM.times (prime_of_mat hA) A B
  have hl := timesM_len p A B
  exact ⟨matB_mk hV (by omega) (by omega) b3 b4, headD_len hV (by omega)⟩
theorem turn_mat {p : Int} {M : List (List Int)} (h : matB p M = true) : matB p (turnM M) = true ∧ ((turnM M).headD []).length = M.length := by
  obtain ⟨a1, a2, a3, a4, _⟩ := matB_true h
  have hV := VM.turn h
  have hl := turnM_len M
  exact ⟨matB_mk hV (by omega) (by omega) a1 a2, headD_len hV (by omega)⟩
theorem vm_ext {p : Int} {l : Nat} {F F' : List (List Int)} (h1 : VM p l F) (h2 : VM p l F') (hl : F.length = F'.length) (h : ∀ i, i < F.length → ∀ j, j < l → at2 F i j = at2 F' i j) : F = F' := mat_ext hl (fun r hr => (h1 r hr).1) (fun r hr => (h2 r hr).1) h
theorem turn_turn {p : Int} {M : List (List Int)} (h : matB p M = true) : turnM (turnM M) = M := by
  obtain ⟨h1, h2⟩ := turn_mat h
  have hV := VM.turn h1
  rw [turnM_len] at hV
  have hl : (turnM (turnM M)).length = M.length := by rw [turnM_len, h2]
  refine vm_ext hV (VM_of_mat h) hl fun i hi j hj => ?_
  rw [turn_at (by rw [h2]; omega), turn_at hj]
theorem times_assoc {p : Int} {A B C : List (List Int)} (hA : matB p A = true) (hB : matB p B = true) (hC : matB p C = true) (hAB : (A.headD []).length = B.length) : timesM p (timesM p A B) C = timesM p A (timesM p B C) := by
  have hp := prime_of_mat hA
  obtain ⟨m1, m2⟩ := times_mat hA hB
  obtain ⟨n1, n2⟩ := times_mat hB hC
  have hV2 := VM.times hp A (timesM p B C)
  rw [n2] at hV2
  refine vm_ext (VM.times hp _ C) hV2 (by simp [timesM_len]) fun i hi j hj => ?_
  rw [timesM_len, timesM_len] at hi
  have hVAB := VM.times hp A B
  rw [times_at hVAB (by rw [timesM_len]; exact hi) hj, times_at (VM_of_mat hA) hi (by rw [n2]; exact hj)]
  refine mod_of_near ?_
  have e1 : p ∣ sigN (B.headD []).length (fun k => at2 (timesM p A B) i k * at2 C k j) - sigN (B.headD []).length (fun k => sigN (A.headD []).length (fun q => at2 A i q * at2 B q k) * at2 C k j) := by
    refine sigN_near fun k hk => ?_
    rw [times_at (VM_of_mat hA) hi hk, ← Int.sub_mul]
    exact dvd_mulR (near_mod _ _) _
  have e2 : p ∣ sigN (A.headD []).length (fun q => at2 A i q * at2 (timesM p B C) q j) - sigN (A.headD []).length (fun q => at2 A i q * sigN (B.headD []).length (fun k => at2 B q k * at2 C k j)) := by
    refine sigN_near fun q hq => ?_
    rw [times_at (VM_of_mat hB) (by omega) hj, ← Int.mul_sub]
    exact dvd_mulL (near_mod _ _) _
  have e3 : sigN (B.headD []).length (fun k => sigN (A.headD []).length (fun q => at2 A i q * at2 B q k) * at2 C k j) = sigN (A.headD []).length (fun q => at2 A i q * sigN (B.headD []).length (fun k => at2 B q k * at2 C k j)) := by
    rw [sigN_congr (g := fun k => sigN (A.headD []).length (fun q => at2 A i q * (at2 B q k * at2 C k j))) (fun k _ => by rw [← sigN_mulr]; exact sigN_congr fun q _ => Int.mul_assoc _ _ _), sigN_swap]
    exact sigN_congr fun q _ => sigN_mul _ _ _
  rw [e3] at e1
  exact near_trans e1 (near_symm e2)
theorem times_turn {p : Int} {A B : List (List Int)} (hA : matB p A = true) (hB : matB p B = true) (hAB : (A.headD []).length = B.length) : turnM (timesM p A B) = timesM p (turnM B) (turnM A) := by
  have hp := prime_of_mat hA
  obtain ⟨m1, m2⟩ := times_mat hA hB
  obtain ⟨a1, a2⟩ := turn_mat hA
  obtain ⟨b1, b2⟩ := turn_mat hB
  have hV := VM.turn m1
  rw [timesM_len] at hV
  have hV2 := VM.times hp (turnM B) (turnM A)
  rw [a2] at hV2
  refine vm_ext hV hV2 (by rw [turnM_len, timesM_len, turnM_len, m2]) fun i hi j hj => ?_
  rw [turnM_len, m2] at hi
  rw [turn_at (by rw [m2]; exact hi), times_at (VM_of_mat hA) hj hi, times_at (VM.turn hB) (by rw [turnM_len]; exact hi) (by rw [a2]; exact hj), hAB]
  congr 1
  exact sigN_congr fun k hk => by rw [turn_at hi, turn_at (by omega), Int.mul_comm]
theorem rankR_yes {p : Int} {M : List (List Int)} (h : matB p M = true) : rankR p M = ((elim p M (M.headD []).length).2.length : Int) := by unfold rankR; rw [if_pos h]
theorem rankR_no {p : Int} {M : List (List Int)} (h : matB p M = false) : rankR p M = -1 := by unfold rankR; rw [if_neg (by simp [h])]
theorem rank_bd {p : Int} {M : List (List Int)} (h : matB p M = true) : (elim p M (M.headD []).length).2.length ≤ M.length ∧ (elim p M (M.headD []).length).2.length ≤ (M.headD []).length := by
  obtain ⟨_, _, h3, h4⟩ := elim_inv (prime_of_mat h) (VM_of_mat h) (M.headD []).length
  exact ⟨h3, h4⟩
theorem rank_times {p : Int} {A B : List (List Int)} (hA : matB p A = true) (hB : matB p B = true) (hAB : (A.headD []).length = B.length) : rankR p (timesM p A B) ≤ rankR p A ∧ rankR p (timesM p A B) ≤ rankR p B := by
  have hp := prime_of_mat hA
  obtain ⟨m1, m2⟩ := times_mat hA hB
  have hV := VM_of_mat m1
  have hn : ∀ i, i < (timesM p A B).length → ∀ j, j < ((timesM p A B).headD []).length → p ∣ at2 (timesM p A B) i j - sigN (A.headD []).length (fun k => at2 A i k * at2 B k j) := fun i hi j hj => by
    rw [timesM_len] at hi
    rw [m2] at hj
    rw [times_at (VM_of_mat hA) hi hj]
    exact near_mod _ _
  rw [rankR_yes m1, rankR_yes hA, rankR_yes hB]
  constructor
  · refine Int.ofNat_le.2 (rank_le hp hV (Fac.congr ?_ hn))
    have := Fac.elim hp (VM_of_mat hA)
    rw [timesM_len]
    exact this.left
  · refine Int.ofNat_le.2 (rank_le hp hV (Fac.congr ?_ hn))
    have := Fac.elim hp (VM_of_mat hB)
    rw [m2, hAB]
    exact this.right
theorem rank_turn_le {p : Int} {M : List (List Int)} (h : matB p M = true) : rankR p (turnM M) ≤ rankR p M := by
  have hp := prime_of_mat h
  obtain ⟨m1, m2⟩ := turn_mat h
  rw [rankR_yes m1, rankR_yes h]
  refine Int.ofNat_le.2 (rank_le hp (VM_of_mat m1) ?_)
  rw [m2, turnM_len]
  refine (Fac.elim hp (VM_of_mat h)).turn.congr fun i hi j hj => ?_
  rw [turn_at hi, Int.sub_self]
  exact Int.dvd_zero p
theorem rank_turn {p : Int} {M : List (List Int)} (h : matB p M = true) : rankR p (turnM M) = rankR p M := by
  have h1 := rank_turn_le h
  have h2 := rank_turn_le (turn_mat h).1
  rw [turn_turn h] at h2
  omega
/-- the columns that begin no row -/
def frees (hs : List Nat) (c : Nat) : List Nat := (List.range c).filter (fun q => decide (q ∉ hs))
theorem kerM_frees (p : Int) (F : List (List Int)) (hs : List Nat) (l : Nat) : ∀ c, kerM p F hs l c = (frees hs c).map fun q => kerFill p F hs q l hs.length
  | 0 => rfl
  | c + 1 => by
    unfold frees
    rw [List.range_succ, List.filter_append, List.map_append]
    by_cases h : c ∈ hs
    · rw [kerM_stay h, kerM_frees p F hs l c]
      simp [h, frees]
    · rw [kerM_go h, kerM_frees p F hs l c]
      simp [h, frees]
theorem filter_both {α : Type} (q : α → Bool) : ∀ xs : List α, (xs.filter q).length + (xs.filter (fun x => !q x)).length = xs.length
  | [] => rfl
  | x :: xs => by
    have := filter_both q xs
    rw [List.filter_cons, List.filter_cons]
    cases q x <;> simp <;> omega
theorem frees_len {n l : Nat} {f : Nat → Nat → Int} {hs : List Nat} (hR : Red n l f hs) : (frees hs l).length + hs.length = l := by
  have h1 := filter_both (fun q => decide (q ∉ hs)) (List.range l)
  have h2 : (List.range l).filter (fun x => !decide (x ∉ hs)) = hs := by
    refine sorted_ext _ _ (List.Pairwise.filter _ List.pairwise_lt_range) hR.sorted fun x => ?_
    simp only [List.mem_filter, List.mem_range]
    constructor
    · rintro ⟨_, h⟩; simpa using h
    · intro h; exact ⟨hR.bound x h, by simpa using h⟩
  rw [h2] at h1
  simpa [frees] using h1
theorem frees_at {hs : List Nat} {l t : Nat} (ht : t < (frees hs l).length) : (frees hs l).getD t 0 < l ∧ (frees hs l).getD t 0 ∉ hs := by
  have h : (frees hs l).getD t 0 ∈ frees hs l := getD_mem_nat ht
  unfold frees at h
  rw [List.mem_filter] at h
  exact ⟨List.mem_range.1 h.1, by simpa [frees] using h.2⟩
theorem frees_inj {hs : List Nat} {l t s : Nat} (ht : t < (frees hs l).length) (hs' : s < (frees hs l).length) (h : (frees hs l).getD t 0 = (frees hs l).getD s 0) : t = s := by
  have hP : (frees hs l).Pairwise (· < ·) := List.Pairwise.filter _ List.pairwise_lt_range
  rw [List.pairwise_iff_getElem] at hP
  simp only [List.getD_eq_getElem?_getD, List.getElem?_eq_getElem ht, List.getElem?_eq_getElem hs', Option.getD_some] at h
  rcases Nat.lt_trichotomy t s with h1 | h1 | h1
  · have := hP t s ht hs' h1; omega
  · exact h1
  · have := hP s t hs' ht h1; omega
theorem kerFill_valid {p : Int} (hp : primeB p = true) (F : List (List Int)) (hs : List Nat) (c l : Nat) : ∀ k, ∀ x ∈ kerFill p F hs c l k, numB p x = true
  | 0, x, hx => by
    have hpb := prime_ge hp
    rcases List.mem_or_eq_of_mem_set (show x ∈ (List.replicate l (0 : Int)).set c 1 from hx) with h | h
    · rw [List.eq_of_mem_replicate h]; exact numB_mk hp (by omega) (by omega)
    · rw [h]; exact numB_mk hp (by omega) (by omega)
  | k + 1, x, hx => by
    rcases List.mem_or_eq_of_mem_set (show x ∈ (kerFill p F hs c l k).set (hs.getD k 0) (-(at2 F k c) % p) from hx) with h | h
    · exact kerFill_valid hp F hs c l k x h
    · rw [h]; exact numB_emod hp _
theorem kerM_at {p : Int} {F : List (List Int)} {hs : List Nat} {l t : Nat} (ht : t < (frees hs l).length) (j : Nat) : at2 (kerM p F hs l l) t j = freeV p F hs ((frees hs l).getD t 0) l j := by
  unfold at2 freeV
  rw [kerM_frees, getQ, List.getElem?_map, List.getElem?_eq_getElem ht, List.getD_eq_getElem?_getD (l := frees hs l), List.getElem?_eq_getElem ht]; rfl
theorem VM.ker {p : Int} (hp : primeB p = true) (F : List (List Int)) (hs : List Nat) (l : Nat) : VM p l (kerM p F hs l l) := by
  intro row hr
  rw [kerM_frees] at hr
  obtain ⟨q, _, rfl⟩ := List.mem_map.1 hr
  exact ⟨kerFill_len _ _ _ _ _ _, kerFill_valid hp _ _ _ _ _⟩
/-- the rows of the kernel: how many, that they are taken to 0, and their rank -/
theorem kernel_law {p : Int} {M : List (List Int)} (h : matB p M = true) : ((kernelR p M).length : Int) + rankR p M = ((M.headD []).length : Int) ∧ VM p (M.headD []).length (kernelR p M) ∧
    (∀ t, t < (kernelR p M).length → Ker p M.length (M.headD []).length (at2 M) (at2 (kernelR p M) t)) ∧
    (1 ≤ (kernelR p M).length → matB p (kernelR p M) = true ∧ rankR p (kernelR p M) = ((kernelR p M).length : Int)) := by
  have hp := prime_of_mat h
  have hV := VM_of_mat h
  obtain ⟨a1, a2, a3, a4, _⟩ := matB_true h
  obtain ⟨l, hl⟩ : ∃ l, (M.headD []).length = l := ⟨_, rfl⟩
  rw [rankR_yes h, kernelR_yes h]
  rw [hl] at hV a3 a4 ⊢
  have hR := elim_red hp hV l (Nat.le_refl _)
  have hE := fun v => elim_ker hp hV v l (Nat.le_refl _)
  obtain ⟨F, hF⟩ : ∃ F, (elim p M l).1 = F := ⟨_, rfl⟩
  obtain ⟨hs, hHS⟩ : ∃ hs, (elim p M l).2 = hs := ⟨_, rfl⟩
  rw [hF, hHS] at hR
  rw [hF] at hE
  rw [hF, hHS]
  have hfl := frees_len hR
  have hlen : (kerM p F hs l l).length = (frees hs l).length := by rw [kerM_frees, List.length_map]
  have hVK := VM.ker hp F hs l
  refine ⟨by omega, hVK, fun t ht => ?_, fun h1 => ?_⟩
  · obtain ⟨g1, g2⟩ := frees_at (t := t) (hs := hs) (l := l) (by omega)
    have e : at2 (kerM p F hs l l) t = freeV p F hs ((frees hs l).getD t 0) l := funext fun j => kerM_at (by omega) j
    rw [e]
    exact (hE _).1 (free_ker hR g1 g2)
  · have hm := matB_mk hVK h1 (by omega) a3 a4
    refine ⟨hm, ?_⟩
    rw [rankR_yes hm, headD_len hVK h1]
    have r1 := (elim_red hp hVK l (Nat.le_refl _)).le
    have r2 := unit_le hp (Fac.elim hp hVK) (fun t => (frees hs l).getD t 0) (m := (kerM p F hs l l).length) (fun t ht => (frees_at (by omega)).1) (Nat.le_refl _) (fun t ht s hs' => by
      rw [kerM_at (by omega)]
      obtain ⟨g1, g2⟩ := frees_at (t := t) (hs := hs) (l := l) (by omega)
      obtain ⟨g3, g4⟩ := frees_at (t := s) (hs := hs) (l := l) (by omega)
      by_cases e : t = s
      · subst e
        rw [if_pos rfl]
        exact kerFill_col g1 _ (Nat.le_refl _) (notin_getD g2)
      · rw [if_neg e]
        exact kerFill_off (fun e2 => e (frees_inj (by omega) (by omega) e2.symm)) _ (notin_getD g4))
    omega
end Go.Proofs.Ytpelokdgjdljfab

/-
  Plain mathematics: the streams of recurrences.
-/
import Derived.Test.YtecmclaockmgeaaDoorPolN
namespace Go.Proofs.YtecmclaockmgeaaDoor
/-- the first numbers of a stream -/
def trm (p : Int) (T F : List Int) : Nat → List Int
  | 0 => []
  | n + 1 => trm p T F n ++ [if n < F.length then co F n else sigN T.length (fun j => co T j * co (trm p T F n) (n - 1 - j)) % p]
def stm (p : Int) (T F : List Int) (k : Nat) : Int := co (trm p T F (k + 1)) k
theorem trm_len (p : Int) (T F : List Int) : ∀ n, (trm p T F n).length = n
  | 0 => rfl
  | n + 1 => by show (trm p T F n ++ [_]).length = n + 1; rw [List.length_append, trm_len p T F n]; rfl
theorem co_trm (p : Int) (T F : List Int) {k : Nat} : ∀ {n : Nat}, k < n → co (trm p T F n) k = stm p T F k
  | 0, h => absurd h (by omega)
  | n + 1, h => by
    by_cases e : k = n
    · subst e; rfl
    · have ih := co_trm p T F (k := k) (n := n) (by omega)
      show co (trm p T F n ++ [_]) k = _
      rw [co_append, trm_len, if_pos (by omega), ih]
theorem stm_eq (p : Int) (T F : List Int) (k : Nat) : stm p T F k = if k < F.length then co F k else sigN T.length (fun j => co T j * co (trm p T F k) (k - 1 - j)) % p := by
  show co (trm p T F k ++ [_]) k = _
  rw [co_append, trm_len, if_neg (by omega), Nat.sub_self]
  rfl
theorem stm_low (p : Int) (T F : List Int) {k : Nat} (h : k < F.length) : stm p T F k = co F k := by rw [stm_eq, if_pos h]
theorem stm_next (p : Int) (T F : List Int) (hl : F.length = T.length) {k : Nat} (h : F.length ≤ k) : stm p T F k = sigN T.length (fun j => co T j * stm p T F (k - 1 - j)) % p := by
  rw [stm_eq, if_neg (by omega)]
  congr 1
  refine sigN_congr fun j hj => ?_
  rw [co_trm p T F (by omega)]
theorem trm_step (p : Int) (T F : List Int) (n : Nat) : trm p T F (n + 1) = trm p T F n ++ [stm p T F n] := by rw [stm_eq]; rfl
theorem trm_map (p : Int) (T F : List Int) (n : Nat) : trm p T F n = (List.range n).map (stm p T F) := by
  refine list_of_co (by rw [trm_len]; simp) (fun k hk => ?_)
  rw [trm_len] at hk
  rw [co_trm p T F hk]
  show _ = ((List.range n).map (stm p T F)).getD k 0
  rw [co_map, if_pos hk]
theorem trm_take (p : Int) (T F : List Int) {k n : Nat} (h : k ≤ n) : (trm p T F n).take k = trm p T F k := by
  rw [trm_map, trm_map, ← List.map_take, List.take_range, Nat.min_eq_left h]
/-- a valid recurrence -/
def recB (p : Int) (T F : List Int) : Bool := primeB p && (decide (T.length ≤ 6) && (decide (F.length = T.length) && (rowB p T && rowB p F)))
theorem recB_true {p : Int} {T F : List Int} (h : recB p T F = true) : primeB p = true ∧ T.length ≤ 6 ∧ F.length = T.length ∧ (∀ x ∈ T, numB p x = true) ∧ ∀ x ∈ F, numB p x = true := by
  simp only [recB, Bool.and_eq_true, decide_eq_true_eq] at h
  exact ⟨h.1, h.2.1, h.2.2.1, rowB_mem h.2.2.2.1, rowB_mem h.2.2.2.2⟩
theorem recB_mk {p : Int} {T F : List Int} (hp : primeB p = true) (h6 : T.length ≤ 6) (hl : F.length = T.length) (hT : ∀ x ∈ T, numB p x = true) (hF : ∀ x ∈ F, numB p x = true) : recB p T F = true := by
  simp only [recB, Bool.and_eq_true, decide_eq_true_eq]
  exact ⟨hp, h6, hl, List.all_eq_true.2 hT, List.all_eq_true.2 hF⟩
theorem co_num {p : Int} {T : List Int} (hT : ∀ x ∈ T, numB p x = true) {k : Nat} (h : k < T.length) : numB p (co T k) = true := by
  unfold co
  rw [List.getD_eq_getElem?_getD, List.getElem?_eq_getElem h]
  exact hT _ (List.getElem_mem h)
theorem stm_num {p : Int} {T F : List Int} (h : recB p T F = true) (k : Nat) : numB p (stm p T F k) = true := by
  obtain ⟨hp, _, hl, _, hF⟩ := recB_true h
  by_cases e : k < F.length
  · rw [stm_low p T F e]; exact co_num hF e
  · rw [stm_next p T F hl (by omega)]; exact numB_emod hp _
theorem trm_num {p : Int} {T F : List Int} (h : recB p T F = true) (n : Nat) : ∀ x ∈ trm p T F n, numB p x = true := by
  rw [trm_map]
  intro x hx
  obtain ⟨k, _, rfl⟩ := List.mem_map.1 hx
  exact stm_num h k
/-- the polynomial times the stream, side by side -/
def app (F s : Nat → Int) (N k : Nat) : Int := sigN N (fun j => F j * s (k + j))
theorem app_cv {F G s : Nat → Int} {n m : Nat} (hF : ∀ k, n ≤ k → F k = 0) (hG : ∀ k, m ≤ k → G k = 0) (k : Nat) : app (cv F G) s (n + m) k = app F (fun i => app G s m i) n k := by
  have e1 : app F (fun i => app G s m i) n k = sigN (n + m) (fun a => F a * app G s (n + m) (k + a)) := by
    unfold app
    rw [sigN_trunc (n := n) (m := n + m) (f := fun a => F a * sigN (n + m) (fun j => G j * s (k + a + j))) (by omega) (fun a h1 _ => by rw [hF a h1]; simp)]
    refine sigN_congr fun a _ => ?_
    rw [sigN_trunc (n := m) (m := n + m) (f := fun j => G j * s (k + a + j)) (by omega) (fun b h1 _ => by rw [hG b h1]; simp)]
  rw [e1]
  unfold app
  rw [sigN_congr (g := fun t => sigN (n + m) (fun a => sigN (n + m) (fun b => if a + b = t then F a * G b * s (k + t) else 0))) (fun t ht => by
    rw [cv_big F G ht, ← sigN_mulr]
    refine sigN_congr fun a _ => ?_
    rw [← sigN_mulr]
    refine sigN_congr fun b _ => ?_
    split
    · rfl
    · rw [Int.zero_mul]), sigN_swap]
  refine sigN_congr fun a ha => ?_
  rw [sigN_swap, ← sigN_mul]
  refine sigN_congr fun b hb => ?_
  by_cases e : a + b < n + m
  · rw [sigN_one (c := a + b) e (fun t _ hne => if_neg fun h => hne h.symm), if_pos rfl, Int.mul_assoc, Nat.add_assoc]
  · rw [sigN_zero fun t ht => if_neg (by omega)]
    by_cases e2 : n ≤ a
    · rw [hF a e2]; simp
    · rw [hG b (by omega)]; simp
theorem app_near {p : Int} {F F' s s' : Nat → Int} {N k : Nat} (hF : ∀ j, j < N → p ∣ F j - F' j) (hs : ∀ j, j < N → p ∣ s (k + j) - s' (k + j)) : p ∣ app F s N k - app F' s' N k := by
  refine sigN_near fun j hj => ?_
  rw [show F j * s (k + j) - F' j * s' (k + j) = (F j - F' j) * s (k + j) + F' j * (s (k + j) - s' (k + j)) by grind]
  exact Int.dvd_add (dvd_mulR (hF j hj) _) (dvd_mulL (hs j hj) _)
theorem app_trunc {F s : Nat → Int} {n m k : Nat} (h : n ≤ m) (hF : ∀ j, n ≤ j → F j = 0) : app F s m k = app F s n k := sigN_trunc h fun j h1 _ => by rw [hF j h1]; simp
/-- it takes the stream to 0 -/
def kills (p : Int) (c : Nat → Int) (m : Nat) (s : Nat → Int) : Prop := ∀ k, p ∣ app c s (m + 1) k
theorem kills_zero {p : Int} {c s : Nat → Int} {m : Nat} (hc : p ∣ c m - 1) (hk : kills p c m s) (h0 : ∀ j, j < m → p ∣ s j) : ∀ k, p ∣ s k := by
  intro k
  induction k using Nat.strongRecOn with
  | ind k ih =>
    by_cases h : k < m
    · exact h0 k h
    · obtain ⟨i, rfl⟩ : ∃ i, k = i + m := ⟨k - m, by omega⟩
      have h1 := hk i
      have h2 : app c s (m + 1) i = sigN m (fun j => c j * s (i + j)) + c m * s (i + m) := rfl
      have h3 : p ∣ sigN m (fun j => c j * s (i + j)) := sigN_dvd fun j hj => dvd_mulL (ih (i + j) (by omega)) _
      rw [h2] at h1
      have h4 := Int.dvd_sub (Int.dvd_sub h1 h3) (dvd_mulR hc (s (i + m)))
      rwa [show sigN m (fun j => c j * s (i + j)) + c m * s (i + m) - sigN m (fun j => c j * s (i + j)) - (c m - 1) * s (i + m) = s (i + m) by grind] at h4
theorem kills_cv {p : Int} {e c s : Nat → Int} {n m : Nat} (he : ∀ k, n < k → e k = 0) (hc : ∀ k, m < k → c k = 0) (h : kills p c m s) : kills p (cv e c) (n + m) s := by
  intro k
  have h1 := app_cv (s := s) (n := n + 1) (m := m + 1) (fun k hk => he k (by omega)) (fun k hk => hc k (by omega)) k
  rw [show n + m + 1 = n + 1 + m by omega]
  rw [app_trunc (n := n + 1 + m) (m := n + 1 + (m + 1)) (by omega) (fun j hj => cv_far (n := n + 1) (m := m + 1) (fun k hk => he k (by omega)) (fun k hk => hc k (by omega)) (by omega))] at h1
  rw [h1]
  exact sigN_dvd fun j _ => dvd_mulL (h (k + j)) _
theorem kills_sub {p : Int} {c s t : Nat → Int} {m : Nat} (hs : kills p c m s) (ht : kills p c m t) : kills p c m (fun k => s k - t k) := by
  intro k
  have := Int.dvd_sub (hs k) (ht k)
  unfold app at this ⊢
  rw [← sigN_sub] at this
  rwa [sigN_congr (g := fun j => c j * (s (k + j) - t (k + j))) (fun j _ => by grind)] at this
theorem kills_add {p : Int} {c s t : Nat → Int} {m : Nat} (hs : kills p c m s) (ht : kills p c m t) : kills p c m (fun k => s k + t k) := by
  intro k
  have := Int.dvd_add (hs k) (ht k)
  unfold app at this ⊢
  rw [← sigN_add] at this
  rwa [sigN_congr (g := fun j => c j * (s (k + j) + t (k + j))) (fun j _ => by grind)] at this
theorem kills_near {p : Int} {c c' s s' : Nat → Int} {m : Nat} (hc : ∀ j, p ∣ c' j - c j) (hs : ∀ k, p ∣ s' k - s k) (h : kills p c m s) : kills p c' m s' := fun k =>
  (near_move (app_near (fun j _ => hc j) (fun j _ => hs (k + j)))).2 (h k)
theorem sigN_rev (f : Nat → Int) : ∀ n, sigN n (fun j => f (n - 1 - j)) = sigN n f
  | 0 => rfl
  | n + 1 => by
    rw [sigN_shift]
    show f (n + 1 - 1 - 0) + sigN n (fun j => f (n + 1 - 1 - (j + 1))) = sigN n f + f n
    rw [sigN_congr (n := n) (g := fun j => f (n - 1 - j)) (fun j hj => by show f (n + 1 - 1 - (j + 1)) = _; congr 1; omega), sigN_rev f n, show n + 1 - 1 - 0 = n by omega]
    omega
/-- the polynomial of a recurrence -/
def recP (p : Int) (T : List Int) : List Int := (T.reverse.map fun x => (p - x) % p) ++ [1]
theorem recP_len (p : Int) (T : List Int) : (recP p T).length = T.length + 1 := by simp [recP]
theorem co_recP_low (p : Int) (T : List Int) {j : Nat} (h : j < T.length) : co (recP p T) j = (p - co T (T.length - 1 - j)) % p := by
  unfold recP
  rw [co_append, if_pos (by simpa using h)]
  unfold co
  rw [List.getD_eq_getElem?_getD, List.getD_eq_getElem?_getD, List.getElem?_map, List.getElem?_reverse (by simpa using h), List.getElem?_eq_getElem (by omega)]
  rfl
theorem co_recP_top (p : Int) (T : List Int) : co (recP p T) T.length = 1 := by
  unfold recP
  rw [co_append, if_neg (by simp)]
  simp [co]
theorem co_recP_far (p : Int) (T : List Int) {j : Nat} (h : T.length < j) : co (recP p T) j = 0 := co_far (by rw [recP_len]; omega)
theorem recP_pol {p : Int} {T : List Int} (hp : primeB p = true) (h6 : T.length ≤ 6) : polB p (recP p T) = true := by
  have hpb := prime_ge hp
  refine polB_of (serB_mk hp (by rw [recP_len]; omega) (fun x hx => ?_)) (.inr ?_)
  · rcases List.mem_append.1 hx with h | h
    · obtain ⟨y, _, rfl⟩ := List.mem_map.1 h; exact numB_emod hp _
    · rw [List.mem_singleton.1 h]; exact numB_mk hp (by omega) (by omega)
  · rw [recP_len, Nat.add_sub_cancel, co_recP_top]; decide
theorem recP_kills (p : Int) (T F : List Int) (hl : F.length = T.length) : kills p (co (recP p T)) T.length (stm p T F) := by
  intro k
  show p ∣ sigN T.length (fun j => co (recP p T) j * stm p T F (k + j)) + co (recP p T) T.length * stm p T F (k + T.length)
  rw [co_recP_top, Int.one_mul, stm_next p T F hl (k := k + T.length) (by omega)]
  have h1 : p ∣ sigN T.length (fun j => co (recP p T) j * stm p T F (k + j)) - sigN T.length (fun j => -1 * (co T (T.length - 1 - j) * stm p T F (k + T.length - 1 - (T.length - 1 - j)))) := sigN_near fun j hj => by
    rw [co_recP_low p T hj, show k + T.length - 1 - (T.length - 1 - j) = k + j by omega]
    have := near_mod p (p - co T (T.length - 1 - j))
    have h2 := Int.dvd_add this (Int.dvd_refl p)
    have h3 := dvd_mulR h2 (stm p T F (k + j))
    rwa [show ((p - co T (T.length - 1 - j)) % p - (p - co T (T.length - 1 - j)) + p) * stm p T F (k + j) = (p - co T (T.length - 1 - j)) % p * stm p T F (k + j) - -1 * (co T (T.length - 1 - j) * stm p T F (k + j)) by grind] at h3
  rw [sigN_mul, sigN_rev (fun i => co T i * stm p T F (k + T.length - 1 - i)) T.length] at h1
  have h4 := near_mod p (sigN T.length (fun j => co T j * stm p T F (k + T.length - 1 - j)))
  have h5 := Int.dvd_add h1 h4
  generalize sigN T.length (fun j => co (recP p T) j * stm p T F (k + j)) = z1 at h5 ⊢
  generalize sigN T.length (fun j => co T j * stm p T F (k + T.length - 1 - j)) = z2 at h5 ⊢
  rwa [show z1 - -1 * z2 + (z2 % p - z2) = z1 + z2 % p by omega] at h5
/-- a number far off -/
theorem far_law {p : Int} {T F : List Int} (h : recB p T F = true) {R : List Int} {n : Nat} (hR : R.length ≤ T.length) (hc : CG p (co (recP p T)) (co R) (mono n)) : sigN R.length (fun j => co R j * co F j) % p = stm p T F n := by
  obtain ⟨hp, h6, hl, hT, hF⟩ := recB_true h
  have hpb := prime_ge hp
  obtain ⟨H, N, h1, h2⟩ := hc
  obtain ⟨M, hM⟩ : ∃ M, M = R.length + (n + 1) + (N + (T.length + 1)) := ⟨_, rfl⟩
  have e1 : app (co R) (stm p T F) M 0 = sigN R.length (fun j => co R j * co F j) := by
    rw [app_trunc (n := R.length) (by omega) (fun j hj => co_far hj)]
    refine sigN_congr fun j hj => ?_
    rw [Nat.zero_add, stm_low p T F (by omega)]
  have e2 : app (mono n) (stm p T F) M 0 = stm p T F n := by
    unfold app
    rw [sigN_one (c := n) (by omega) (fun j _ hne => by unfold mono; rw [if_neg hne]; simp)]
    unfold mono; rw [if_pos rfl]; simp
  have e3 : p ∣ app (cv (co (recP p T)) H) (stm p T F) M 0 := by
    rw [show cv (co (recP p T)) H = cv H (co (recP p T)) from funext (cv_comm _ _)]
    rw [app_trunc (n := N + (T.length + 1)) (by omega) (fun j hj => cv_far (n := N) (m := T.length + 1) h1 (fun k hk => co_recP_far p T (Nat.lt_of_succ_le hk)) (by omega)), app_cv (n := N) (m := T.length + 1) h1 (fun k hk => co_recP_far p T (Nat.lt_of_succ_le hk))]
    exact sigN_dvd fun j _ => dvd_mulL (recP_kills p T F hl _) _
  have e4 : p ∣ app (co R) (stm p T F) M 0 - (app (mono n) (stm p T F) M 0 + app (cv (co (recP p T)) H) (stm p T F) M 0) := by
    unfold app
    rw [← sigN_add, ← sigN_sub]
    refine sigN_dvd fun j _ => ?_
    have := dvd_mulR (h2 j) (stm p T F (0 + j))
    rwa [show (co R j - mono n j - cv (co (recP p T)) H j) * stm p T F (0 + j) = co R j * stm p T F (0 + j) - (mono n j * stm p T F (0 + j) + cv (co (recP p T)) H j * stm p T F (0 + j)) by grind] at this
  rw [e1, e2] at e4
  have hs := numB_true (stm_num h n)
  have h5 := near_mod p (sigN R.length (fun j => co R j * co F j))
  have h6 := Int.dvd_add (Int.dvd_add h5 e4) e3
  refine near_eq (p := p) ?_ (Int.emod_nonneg _ (by omega)) (Int.emod_lt_of_pos _ (by omega)) hs.2.1 hs.2.2
  generalize app (cv (co (recP p T)) H) (stm p T F) M 0 = z1 at h6
  generalize sigN R.length (fun j => co R j * co F j) = z2 at h6 ⊢
  rwa [show z2 % p - z2 + (z2 - (stm p T F n + z1)) + z1 = z2 % p - stm p T F n by omega] at h6
theorem stm_nil (p : Int) (k : Nat) : stm p [] [] k = 0 := by rw [stm_next p [] [] rfl (by simp)]; rfl
/-- a few numbers decide -/
theorem prod_kills {p : Int} {T T' : List Int} : (∀ {F : List Int}, F.length = T.length → kills p (cv (co (recP p T)) (co (recP p T'))) (T.length + T'.length) (stm p T F)) ∧ ∀ {F' : List Int}, F'.length = T'.length → kills p (cv (co (recP p T)) (co (recP p T'))) (T.length + T'.length) (stm p T' F') := by
  refine ⟨fun hl => ?_, fun hl' => kills_cv (fun k hk => co_recP_far p T hk) (fun k hk => co_recP_far p T' hk) (recP_kills p T' _ hl')⟩
  rw [show cv (co (recP p T)) (co (recP p T')) = cv (co (recP p T')) (co (recP p T)) from funext (cv_comm _ _), Nat.add_comm]
  exact kills_cv (fun k hk => co_recP_far p T' hk) (fun k hk => co_recP_far p T hk) (recP_kills p T _ hl)
theorem prod_top (p : Int) (T T' : List Int) : cv (co (recP p T)) (co (recP p T')) (T.length + T'.length) = 1 := by
  rw [cv_top (fun k hk => co_recP_far p T hk) (fun k hk => co_recP_far p T' hk), co_recP_top, co_recP_top]; rfl
theorem same_law {p : Int} {T F T' F' : List Int} (h : recB p T F = true) (h' : recB p T' F' = true) (he : ∀ k, k < T.length + T'.length → stm p T F k = stm p T' F' k) (k : Nat) : stm p T F k = stm p T' F' k := by
  obtain ⟨_, _, hl, _, _⟩ := recB_true h
  obtain ⟨_, _, hl', _, _⟩ := recB_true h'
  have hz := kills_zero (p := p) (by rw [prod_top]; exact ⟨0, by simp⟩) (kills_sub (prod_kills.1 hl) (prod_kills.2 hl')) (fun j hj => by rw [he j hj, Int.sub_self]; exact Int.dvd_zero p) k
  have b1 := numB_true (stm_num h k)
  have b2 := numB_true (stm_num h' k)
  exact near_eq hz b1.2.1 b1.2.2 b2.2.1 b2.2.2
/-- the next stream -/
theorem next_law {p : Int} {T F F' : List Int} (hl : F.length = T.length) (hl' : F'.length = T.length) (he : ∀ k, k < T.length → co F' k = stm p T F (k + 1)) (k : Nat) : stm p T F' k = stm p T F (k + 1) := by
  induction k using Nat.strongRecOn with
  | ind k ih =>
    by_cases h : k < F'.length
    · rw [stm_low p T F' h, he k (by omega)]
    · rw [stm_next p T F' hl' (by omega), stm_next p T F hl (k := k + 1) (by omega)]
      congr 1
      refine sigN_congr fun j hj => ?_
      rw [ih (k - 1 - j) (by omega), show k - 1 - j + 1 = k + 1 - 1 - j by omega]
/-- each number so many times -/
theorem times_law {p t : Int} {T F F' : List Int} (hl : F.length = T.length) (hl' : F'.length = T.length) (he : ∀ k, k < T.length → co F' k = co F k * t % p) (k : Nat) : stm p T F' k = stm p T F k * t % p := by
  induction k using Nat.strongRecOn with
  | ind k ih =>
    by_cases h : k < F'.length
    · rw [stm_low p T F' h, he k (by omega), stm_low p T F (by omega)]
    · rw [stm_next p T F' hl' (by omega), stm_next p T F hl (by omega)]
      refine mod_of_near ?_
      have h1 : p ∣ sigN T.length (fun j => co T j * stm p T F' (k - 1 - j)) - sigN T.length (fun j => co T j * stm p T F (k - 1 - j) * t) := sigN_near fun j hj => by
        rw [ih (k - 1 - j) (by omega)]
        have := dvd_mulL (near_mod p (stm p T F (k - 1 - j) * t)) (co T j)
        rwa [show co T j * (stm p T F (k - 1 - j) * t % p - stm p T F (k - 1 - j) * t) = co T j * (stm p T F (k - 1 - j) * t % p) - co T j * stm p T F (k - 1 - j) * t by grind] at this
      rw [sigN_mulr] at h1
      exact near_trans h1 (near_symm (by
        have := dvd_mulR (near_mod p (sigN T.length (fun j => co T j * stm p T F (k - 1 - j)))) t
        rwa [Int.sub_mul] at this))
/-- the sum's recurrence: Times of a polynomial that ends with 1 -/
def unP (p : Int) (f : List Int) : List Int := (f.take (f.length - 1)).reverse.map fun x => (p - x) % p
theorem unP_len (p : Int) (f : List Int) : (unP p f).length = f.length - 1 := by simp [unP]
theorem neg_neg_mod {p x : Int} (h : numB p x = true) : (p - (p - x) % p) % p = x := by
  obtain ⟨hp, h0, h1⟩ := numB_true h
  have hpb := prime_ge hp
  refine near_eq (p := p) ?_ (Int.emod_nonneg _ (by omega)) (Int.emod_lt_of_pos _ (by omega)) h0 h1
  have e1 := near_mod p (p - (p - x) % p)
  have e2 := near_mod p (p - x)
  have := Int.dvd_sub e1 e2
  generalize (p - x) % p = y at this ⊢
  rwa [show (p - y) % p - (p - y) - (y - (p - x)) = (p - y) % p - x by omega] at this
theorem recP_unP {p : Int} {f : List Int} (hf : serB p f = true) (h1 : 1 ≤ f.length) (ht : co f (f.length - 1) = 1) : recP p (unP p f) = f := by
  obtain ⟨_, _, hv⟩ := serB_true hf
  refine list_of_co (by rw [recP_len, unP_len]; omega) (fun k hk => ?_)
  rw [recP_len, unP_len] at hk
  by_cases e : k = f.length - 1
  · have := co_recP_top p (unP p f)
    rw [unP_len] at this
    rw [e, this, ht]
  · rw [co_recP_low p _ (by rw [unP_len]; omega), unP_len]
    have : co (unP p f) (f.length - 1 - 1 - k) = (p - co f k) % p := by
      unfold unP co
      rw [List.getD_eq_getElem?_getD, List.getD_eq_getElem?_getD, List.getElem?_map, List.getElem?_reverse (by simp; omega), List.length_take, List.getElem?_take, if_pos (by omega)]
      rw [show min (f.length - 1) f.length - 1 - (f.length - 1 - 1 - k) = k by omega, List.getElem?_eq_getElem (by omega)]
      rfl
    rw [this, neg_neg_mod (co_num hv (by omega))]
theorem unP_num {p : Int} (hp : primeB p = true) (f : List Int) : ∀ x ∈ unP p f, numB p x = true := fun x hx => by
  obtain ⟨y, _, rfl⟩ := List.mem_map.1 hx
  exact numB_emod hp _
/-- the sum of two recurrences -/
def addT (p : Int) (T T' : List Int) : List Int := unP p (tmsL p (recP p T) (recP p T'))
def addF (p : Int) (T F T' F' : List Int) : List Int := (List.range (T.length + T'.length)).map fun k => (stm p T F k + stm p T' F' k) % p
theorem prodL {p : Int} {T T' : List Int} (hp : primeB p = true) (h : T.length + T'.length ≤ 6) : polB p (tmsL p (recP p T) (recP p T')) = true ∧ (tmsL p (recP p T) (recP p T')).length = T.length + T'.length + 1 ∧ co (tmsL p (recP p T) (recP p T')) (T.length + T'.length) = 1 := by
  have hpb := prime_ge hp
  have hn : tmsN (recP p T) (recP p T') = T.length + T'.length + 1 := by unfold tmsN; rw [recP_len, recP_len, if_neg (by omega)]; omega
  refine ⟨tmsL_pol (recP_pol hp (by omega)) (recP_pol hp (by omega)) (by rw [hn]; omega), by rw [tmsL_len, hn], ?_⟩
  rw [co_tmsL, prod_top, Int.emod_eq_of_lt (by omega) (by omega)]
theorem addT_len {p : Int} {T T' : List Int} (hp : primeB p = true) (h : T.length + T'.length ≤ 6) : (addT p T T').length = T.length + T'.length := by unfold addT; rw [unP_len, (prodL hp h).2.1]; rfl
theorem addF_len (p : Int) (T F T' F' : List Int) : (addF p T F T' F').length = T.length + T'.length := by simp [addF]
theorem add_valid {p : Int} {T F T' F' : List Int} (h : recB p T F = true) (h6 : T.length + T'.length ≤ 6) : recB p (addT p T T') (addF p T F T' F') = true := by
  obtain ⟨hp, _, _, _, _⟩ := recB_true h
  refine recB_mk hp (by rw [addT_len hp h6]; exact h6) (by rw [addT_len hp h6, addF_len]) (unP_num hp _) (fun x hx => ?_)
  obtain ⟨k, _, rfl⟩ := List.mem_map.1 hx
  exact numB_emod hp _
theorem add_law {p : Int} {T F T' F' : List Int} (h : recB p T F = true) (h' : recB p T' F' = true) (h6 : T.length + T'.length ≤ 6) (k : Nat) : stm p (addT p T T') (addF p T F T' F') k = (stm p T F k + stm p T' F' k) % p := by
  obtain ⟨hp, _, hl, _, _⟩ := recB_true h
  obtain ⟨_, _, hl', _, _⟩ := recB_true h'
  have hpb := prime_ge hp
  obtain ⟨q1, q2, q3⟩ := prodL (T := T) (T' := T') hp h6
  have hv := add_valid (F := F) (T' := T') (F' := F') h h6
  have hu : recP p (addT p T T') = tmsL p (recP p T) (recP p T') := recP_unP (polB_ser q1) (by omega) (by rw [q2]; exact q3)
  have k1 := recP_kills p (addT p T T') (addF p T F T' F') (by rw [addT_len hp h6, addF_len])
  rw [hu, addT_len hp h6] at k1
  have k2 : kills p (co (tmsL p (recP p T) (recP p T'))) (T.length + T'.length) (fun k => stm p T F k + stm p T' F' k) := kills_near (fun j => by rw [co_tmsL]; exact near_mod _ _) (fun k => by rw [Int.sub_self]; exact Int.dvd_zero p) (kills_add (prod_kills.1 hl) (prod_kills.2 hl'))
  have hz := kills_zero (p := p) (by rw [q3]; exact ⟨0, by simp⟩) (kills_sub k1 k2) (fun j hj => by
    rw [stm_low _ _ _ (by rw [addF_len]; exact hj)]
    show p ∣ ((List.range _).map _).getD j 0 - _
    rw [co_map, if_pos hj]
    exact near_mod _ _) k
  have b1 := numB_true (stm_num hv k)
  exact near_eq (near_trans hz (near_symm (near_mod _ _))) b1.2.1 b1.2.2 (Int.emod_nonneg _ (by omega)) (Int.emod_lt_of_pos _ (by omega))
/-- windows: what is told side by side tells all behind it -/
theorem win_law {p : Int} {T F : List Int} (hl : F.length = T.length) {a b : Nat} (h : ∀ i, i < T.length → stm p T F (a + i) = stm p T F (b + i)) (i : Nat) : stm p T F (a + i) = stm p T F (b + i) := by
  induction i using Nat.strongRecOn with
  | ind i ih =>
    by_cases e : i < T.length
    · exact h i e
    · rw [stm_next p T F hl (k := a + i) (by omega), stm_next p T F hl (k := b + i) (by omega)]
      congr 1
      refine sigN_congr fun j hj => ?_
      rw [show a + i - 1 - j = a + (i - 1 - j) by omega, show b + i - 1 - j = b + (i - 1 - j) by omega, ih (i - 1 - j) (by omega)]
/-- what comes back, comes back one earlier, behind the numbers that the last numbers of Times, 0, leave out -/
theorem win_back {p : Int} {T F : List Int} (h : recB p T F = true) {a b e : Nat} (he : e < T.length) (hz : ∀ j, e < j → j < T.length → co T j = 0) (hne : co T e ≠ 0) (ha : T.length ≤ a + 1 + e) (hb : T.length ≤ b + 1 + e) (hw : ∀ i, i < T.length → stm p T F (a + 1 + i) = stm p T F (b + 1 + i)) : stm p T F a = stm p T F b := by
  obtain ⟨hp, _, hl, hT, _⟩ := recB_true h
  have hpb := prime_ge hp
  have key : ∀ c, T.length ≤ c + 1 + e → stm p T F (c + 1 + e) = (sigN e (fun j => co T j * stm p T F (c + e - j)) + co T e * stm p T F c) % p := by
    intro c hc
    rw [stm_next p T F hl (k := c + 1 + e) (by omega)]
    congr 1
    rw [sigN_trunc (n := e + 1) (by omega) (fun k h1 h2 => by rw [hz k (by omega) h2]; simp)]
    show sigN e _ + co T e * stm p T F (c + 1 + e - 1 - e) = _
    rw [show c + 1 + e - 1 - e = c by omega]
    congr 1
    refine sigN_congr fun j hj => ?_
    rw [show c + 1 + e - 1 - j = c + e - j by omega]
  have w1 := win_law hl (a := a + 1) (b := b + 1) hw
  have k1 := key a ha
  have k2 := key b hb
  rw [w1 e, k2] at k1
  have hs : sigN e (fun j => co T j * stm p T F (a + e - j)) = sigN e (fun j => co T j * stm p T F (b + e - j)) := sigN_congr fun j hj => by
    have := w1 (e - 1 - j)
    rw [show a + e - j = a + 1 + (e - 1 - j) by omega, show b + e - j = b + 1 + (e - 1 - j) by omega, this]
  rw [hs] at k1
  obtain ⟨inv, hinv⟩ : ∃ c, p ∣ co T e * c - 1 := by
    have hn := numB_true (co_num hT he)
    refine ⟨invM p (co T e), ?_⟩
    have h1 := inv_ok hp hn.2.1 hn.2.2 hne
    have h2 := near_mod p (co T e * invM p (co T e))
    rw [h1] at h2
    exact near_symm h2
  have b1 := numB_true (stm_num h a)
  have b2 := numB_true (stm_num h b)
  refine near_eq (p := p) ?_ b1.2.1 b1.2.2 b2.2.1 b2.2.2
  have h3 : p ∣ co T e * stm p T F a - co T e * stm p T F b := by
    have e1 := near_mod p (sigN e (fun j => co T j * stm p T F (b + e - j)) + co T e * stm p T F a)
    have e2 := near_mod p (sigN e (fun j => co T j * stm p T F (b + e - j)) + co T e * stm p T F b)
    rw [← k1] at e1
    have e3 := Int.dvd_sub e2 e1
    generalize (sigN e (fun j => co T j * stm p T F (b + e - j)) + co T e * stm p T F b) % p = z1 at e3
    generalize sigN e (fun j => co T j * stm p T F (b + e - j)) = z2 at e3
    rwa [show z1 - (z2 + co T e * stm p T F b) - (z1 - (z2 + co T e * stm p T F a)) = co T e * stm p T F a - co T e * stm p T F b by omega] at e3
  have h4 := dvd_mulL h3 inv
  have h5 := dvd_mulR hinv (stm p T F a - stm p T F b)
  have h6 := Int.dvd_sub h4 h5
  rwa [show inv * (co T e * stm p T F a - co T e * stm p T F b) - (co T e * inv - 1) * (stm p T F a - stm p T F b) = stm p T F a - stm p T F b by grind] at h6
/-- windows of the same numbers -/
def winEq (p : Int) (T F : List Int) (a b : Nat) : Prop := ∀ i, i < T.length → stm p T F (a + i) = stm p T F (b + i)
/-- when the stream comes back -/
def Circ (p : Int) (T F : List Int) : Option (Nat × Nat) → Prop
  | some (f, m) => 1 ≤ m ∧ f + m ≤ 3000 ∧ winEq p T F f (f + m) ∧ ∀ i j, i < j → j < f + m → ¬ winEq p T F i j
  | none => ∀ i j, i < j → j ≤ 3000 → ¬ winEq p T F i j
theorem winEq_trans {p : Int} {T F : List Int} {a b c : Nat} (h : winEq p T F a c) (h' : winEq p T F b c) : winEq p T F a b := fun i hi => (h i hi).trans (h' i hi).symm
theorem circ_uniq {p : Int} {T F : List Int} : ∀ {r s : Option (Nat × Nat)}, Circ p T F r → Circ p T F s → r = s
  | none, none, _, _ => rfl
  | none, some (f, m), h, h' => absurd h'.2.2.1 (h f (f + m) (by have := h'.1; omega) h'.2.1)
  | some (f, m), none, h, h' => absurd h.2.2.1 (h' f (f + m) (by have := h.1; omega) h.2.1)
  | some (f, m), some (f', m'), h, h' => by
    obtain ⟨a1, a2, a3, a4⟩ := h
    obtain ⟨b1, b2, b3, b4⟩ := h'
    have e1 : f + m = f' + m' := by
      rcases Nat.lt_trichotomy (f + m) (f' + m') with h | h | h
      · exact absurd a3 (b4 f (f + m) (by omega) h)
      · exact h
      · exact absurd b3 (a4 f' (f' + m') (by omega) h)
    have e2 : f = f' := by
      rcases Nat.lt_trichotomy f f' with h | h | h
      · exact absurd (winEq_trans a3 (by rw [e1]; exact b3)) (a4 f f' h (by omega))
      · exact h
      · exact absurd (winEq_trans b3 (by rw [← e1]; exact a3)) (b4 f' f h (by omega))
    subst e2
    obtain rfl : m = m' := by omega
    rfl
theorem circ_from {p : Int} {T F : List Int} (h : recB p T F = true) {f m : Nat} (hc : Circ p T F (some (f, m))) : f ≤ T.length ∧ (T.length = 0 ∨ co T (T.length - 1) = 0 ∨ f = 0) := by
  obtain ⟨hp, _, hl, hT, _⟩ := recB_true h
  obtain ⟨c1, c2, c3, c4⟩ := hc
  -- the last number of Times that is not 0
  have last : ∀ n, n ≤ T.length → (∀ j, n ≤ j → j < T.length → co T j = 0) → (∀ j, j < T.length → co T j = 0) ∨ ∃ e, e < n ∧ co T e ≠ 0 ∧ ∀ j, e < j → j < T.length → co T j = 0 := by
    intro n
    induction n with
    | zero => exact fun _ hz => .inl fun j hj => hz j (by omega) hj
    | succ n ih =>
      intro hn hz
      by_cases e : co T n = 0
      · rcases ih (by omega) (fun j h1 h2 => by
          by_cases e' : j = n
          · rw [e', e]
          · exact hz j (by omega) h2) with h | ⟨x, h1, h2, h3⟩
        · exact .inl h
        · exact .inr ⟨x, by omega, h2, h3⟩
      · exact .inr ⟨n, by omega, e, fun j h1 h2 => hz j (by omega) h2⟩
  rcases last T.length (Nat.le_refl _) (fun j h1 h2 => absurd h2 (by omega)) with hz | ⟨e, he, hne, hz⟩
  · -- all are 0: the stream is 0 from the place of the length on
    have h0 : ∀ k, T.length ≤ k → stm p T F k = 0 := fun k hk => by
      rw [stm_next p T F hl (by omega), sigN_zero (fun j hj => by rw [hz j hj]; simp)]; simp
    constructor
    · refine Nat.le_of_not_lt fun hf => ?_
      exact c4 T.length (T.length + 1) (by omega) (by omega) (fun i hi => by rw [h0 _ (by omega), h0 _ (by omega)])
    · by_cases hd : T.length = 0
      · exact .inl hd
      · exact .inr (.inl (hz _ (by omega)))
  · have step : f ≠ 0 → T.length ≤ f + e → False := by
      intro hf hfe
      obtain ⟨g, rfl⟩ : ∃ g, f = g + 1 := ⟨f - 1, by omega⟩
      have hb := win_back h (a := g) (b := g + m) he hz hne (by omega) (by omega) (fun i hi => by rw [show g + m + 1 + i = g + 1 + m + i by omega]; exact c3 i hi)
      refine c4 g (g + m) (by omega) (by omega) (fun i hi => ?_)
      cases i with
      | zero => exact hb
      | succ i =>
        have := c3 i (by omega)
        rwa [show g + 1 + i = g + (i + 1) by omega, show g + 1 + m + i = g + m + (i + 1) by omega] at this
    constructor
    · refine Nat.le_of_not_lt fun hf => step (by omega) (by omega)
    · by_cases hd : e = T.length - 1
      · refine .inr (.inr ?_)
        by_cases hf : f = 0
        · exact hf
        · exact (step hf (by omega)).elim
      · exact .inr (.inl (hz _ (by omega) (by omega)))
end Go.Proofs.YtecmclaockmgeaaDoor

/-
  Plain mathematics: the streams of recurrences.
  The contracts of RecValid.
  The contract of FracOf of the program.
  The contract of FracOf of the model.
-/
import Derived.Test.YtbpndmcejbiedaaDoorPolN
import Derived.Test.YtbpndmcejbiedaaDoorRc
import Derived.Test.YtbpndmcejbiedaaDoorVal
import Derived.Deep.RegionHeld3
import Derived.Test.YtbpndmcejbiedaaDoorFrL
import Derived.Test.YtbpndmcejbiedaaDoorFrZp
import Derived.Test.YtbpndmcejbiedaaDoorSLe
import Derived.Deep.AppendSrc
namespace Go.Proofs.YtbpndmcejbiedaaDoor
/-- the first numbers of a stream -/
def trm (p : Int) (T F : List Int) : Nat → List Int
  | 0 => []
  | n + 1 => trm p T F n ++ [if n < F.length then co F n else sigN T.length (fun j => co T j * co (trm p T F n) (n - 1 - j)) % p]
def stm (p : Int) (T F : List Int) (k : Nat) : Int := co (trm p T F (k + 1)) k
theorem trm_len (p : Int) (T F : List Int) : ∀ n, (trm p T F n).length = n
  | 0 => rfl
  | n + 1 => by show (trm p T F n ++ [_]).length = n + 1; rw [List.length_append, trm_len p T F n]; rfl
theorem co_trm (p : Int) (T F : List Int) {k : Nat} : ∀ {n : Nat}, k < n → co (trm p T F n) k = stm p T F k
  | 0, h => absurd h (by omega)
  | n + 1, h => by
    by_cases e : k = n
    · subst e; rfl
    · have ih := co_trm p T F (k := k) (n := n) (by omega)
      show co (trm p T F n ++ [_]) k = _
      rw [co_append, trm_len, if_pos (by omega), ih]
theorem stm_eq (p : Int) (T F : List Int) (k : Nat) : stm p T F k = if k < F.length then co F k else sigN T.length (fun j => co T j * co (trm p T F k) (k - 1 - j)) % p := by
  show co (trm p T F k ++ [_]) k = _
  rw [co_append, trm_len, if_neg (by omega), Nat.sub_self]
  rfl
theorem stm_low (p : Int) (T F : List Int) {k : Nat} (h : k < F.length) : stm p T F k = co F k := by rw [stm_eq, if_pos h]
theorem stm_next (p : Int) (T F : List Int) (hl : F.length = T.length) {k : Nat} (h : F.length ≤ k) : stm p T F k = sigN T.length (fun j => co T j * stm p T F (k - 1 - j)) % p := by
  rw [stm_eq, if_neg (by omega)]
  congr 1
  refine sigN_congr fun j hj => ?_
  rw [co_trm p T F (by omega)]
theorem trm_step (p : Int) (T F : List Int) (n : Nat) : trm p T F (n + 1) = trm p T F n ++ [stm p T F n] := by rw [stm_eq]; rfl
theorem trm_map (p : Int) (T F : List Int) (n : Nat) : trm p T F n = (List.range n).map (stm p T F) := by
  refine list_of_co (by rw [trm_len]; simp) (fun k hk => ?_)
  rw [trm_len] at hk
  rw [co_trm p T F hk]
  show _ = ((List.range n).map (stm p T F)).getD k 0
  rw [co_map, if_pos hk]
theorem trm_take (p : Int) (T F : List Int) {k n : Nat} (h : k ≤ n) : (trm p T F n).take k = trm p T F k := by
  rw [trm_map, trm_map, ← List.map_take, List.take_range, Nat.min_eq_left h]
/-- a valid recurrence -/
def recB (p : Int) (T F : List Int) : Bool := primeB p && (decide (T.length ≤ 6) && (decide (F.length = T.length) && (rowB p T && rowB p F)))
theorem recB_true {p : Int} {T F : List Int} (h : recB p T F = true) : primeB p = true ∧ T.length ≤ 6 ∧ F.length = T.length ∧ (∀ x ∈ T, numB p x = true) ∧ ∀ x ∈ F, numB p x = true := by
  simp only [recB, Bool.and_eq_true, decide_eq_true_eq] at h
  exact ⟨h.1, h.2.1, h.2.2.1, rowB_mem h.2.2.2.1, rowB_mem h.2.2.2.2⟩
theorem recB_mk {p : Int} {T F : List Int} (hp : primeB p = true) (h6 : T.length ≤ 6) (hl : F.length = T.length) (hT : ∀ x ∈ T, numB p x = true) (hF : ∀ x ∈ F, numB p x = true) : recB p T F = true := by
  simp only [recB, Bool.and_eq_true, decide_eq_true_eq]
  exact ⟨hp, h6, hl, List.all_eq_true.2 hT, List.all_eq_true.2 hF⟩
theorem co_num {p : Int} {T : List Int} (hT : ∀ x ∈ T, numB p x = true) {k : Nat} (h : k < T.length) : numB p (co T k) = true := by
  unfold co
  rw [List.getD_eq_getElem?_getD, List.getElem?_eq_getElem h]
  exact hT _ (List.getElem_mem h)
theorem stm_num {p : Int} {T F : List Int} (h : recB p T F = true) (k : Nat) : numB p (stm p T F k) = true := by
  obtain ⟨hp, _, hl, _, hF⟩ := recB_true h
  by_cases e : k < F.length
  · rw [stm_low p T F e]; exact co_num hF e
  · rw [stm_next p T F hl (by omega)]; exact numB_emod hp _
theorem trm_num {p : Int} {T F : List Int} (h : recB p T F = true) (n : Nat) : ∀ x ∈ trm p T F n, numB p x = true := by
  rw [trm_map]
  intro x hx
  obtain ⟨k, _, rfl⟩ := List.mem_map.1 hx
  exact stm_num h k
/-- the polynomial times the stream, side by side -/
def app (F s : Nat → Int) (N k : Nat) : Int := sigN N (fun j => F j * s (k + j))
theorem app_cv {F G s : Nat → Int} {n m : Nat} (hF : ∀ k, n ≤ k → F k = 0) (hG : ∀ k, m ≤ k → G k = 0) (k : Nat) : app (cv F G) s (n + m) k = app F (fun i => app G s m i) n k := by
  have e1 : app F (fun i => app G s m i) n k = sigN (n + m) (fun a => F a * app G s (n + m) (k + a)) := by
    unfold app
    rw [sigN_trunc (n := n) (m := n + m) (f := fun a => F a * sigN (n + m) (fun j => G j * s (k + a + j))) (by omega) (fun a h1 _ => by rw [hF a h1]; simp)]
    refine sigN_congr fun a _ => ?_
    rw [sigN_trunc (n := m) (m := n + m) (f := fun j => G j * s (k + a + j)) (by omega) (fun b h1 _ => by rw [hG b h1]; simp)]
  rw [e1]
  unfold app
  rw [sigN_congr (g := fun t => sigN (n + m) (fun a => sigN (n + m) (fun b => if a + b = t then F a * G b * s (k + t) else 0))) (fun t ht => by
    rw [cv_big F G ht, ← sigN_mulr]
    refine sigN_congr fun a _ => ?_
    rw [← sigN_mulr]
    refine sigN_congr fun b _ => ?_
    split
    · rfl
    · rw [Int.zero_mul]), sigN_swap]
  refine sigN_congr fun a ha => ?_
  rw [sigN_swap, ← sigN_mul]
  refine sigN_congr fun b hb => ?_
  by_cases e : a + b < n + m
  · rw [sigN_one (c := a + b) e (fun t _ hne => if_neg fun h => hne h.symm), if_pos rfl, Int.mul_assoc, Nat.add_assoc]
  · rw [sigN_zero fun t ht => if_neg (by omega)]
    by_cases e2 : n ≤ a
    · rw [hF a e2]; simp
    · rw [hG b (by omega)]; simp
theorem app_near {p : Int} {F F' s s' : Nat → Int} {N k : Nat} (hF : ∀ j, j < N → p ∣ F j - F' j) (hs : ∀ j, j < N → p ∣ s (k + j) - s' (k + j)) : p ∣ app F s N k - app F' s' N k := by
  refine sigN_near fun j hj => ?_
  rw [show F j * s (k + j) - F' j * s' (k + j) = (F j - F' j) * s (k + j) + F' j * (s (k + j) - s' (k + j)) by grind]
  exact Int.dvd_add (dvd_mulR (hF j hj) _) (dvd_mulL (hs j hj) _)
theorem app_trunc {F s : Nat → Int} {n m k : Nat} (h : n ≤ m) (hF : ∀ j, n ≤ j → F j = 0) : app F s m k = app F s n k := sigN_trunc h fun j h1 _ => by rw [hF j h1]; simp
/-- it takes the stream to 0 -/
def kills (p : Int) (c : Nat → Int) (m : Nat) (s : Nat → Int) : Prop := ∀ k, p ∣ app c s (m + 1) k
theorem kills_zero {p : Int} {c s : Nat → Int} {m : Nat} (hc : p ∣ c m - 1) (hk : kills p c m s) (h0 : ∀ j, j < m → p ∣ s j) : ∀ k, p ∣ s k := by
  intro k
  induction k using Nat.strongRecOn with
  | ind k ih =>
    by_cases h : k < m
    · exact h0 k h
    · obtain ⟨i, rfl⟩ : ∃ i, k = i + m := ⟨k - m, by omega⟩
      have h1 := hk i
      have h2 : app c s (m + 1) i = sigN m (fun j => c j * s (i + j)) + c m * s (i + m) := rfl
      have h3 : p ∣ sigN m (fun j => c j * s (i + j)) := sigN_dvd fun j hj => dvd_mulL (ih (i + j) (by omega)) _
      rw [h2] at h1
      have h4 := Int.dvd_sub (Int.dvd_sub h1 h3) (dvd_mulR hc (s (i + m)))
      rwa [show sigN m (fun j => c j * s (i + j)) + c m * s (i + m) - sigN m (fun j => c j * s (i + j)) - (c m - 1) * s (i + m) = s (i + m) by grind] at h4
theorem kills_cv {p : Int} {e c s : Nat → Int} {n m : Nat} (he : ∀ k, n < k → e k = 0) (hc : ∀ k, m < k → c k = 0) (h : kills p c m s) : kills p (cv e c) (n + m) s := by
  intro k
  have h1 := app_cv (s := s) (n := n + 1) (m := m + 1) (fun k hk => he k (by omega)) (fun k hk => hc k (by omega)) k
  rw [show n + m + 1 = n + 1 + m by omega]
  rw [app_trunc (n := n + 1 + m) (m := n + 1 + (m + 1)) (by omega) (fun j hj => cv_far (n := n + 1) (m := m + 1) (fun k hk => he k (by omega)) (fun k hk => hc k (by omega)) (by omega))] at h1
  rw [h1]
  exact sigN_dvd fun j _ => dvd_mulL (h (k + j)) _
theorem kills_sub {p : Int} {c s t : Nat → Int} {m : Nat} (hs : kills p c m s) (ht : kills p c m t) : kills p c m (fun k => s k - t k) := by
  intro k
  have := Int.dvd_sub (hs k) (ht k)
  unfold app at this ⊢
  rw [← sigN_sub] at this
  rwa [sigN_congr (g := fun j => c j * (s (k + j) - t (k + j))) (fun j _ => by grind)] at this
theorem kills_add {p : Int} {c s t : Nat → Int} {m : Nat} (hs : kills p c m s) (ht : kills p c m t) : kills p c m (fun k => s k + t k) := by
  intro k
  have := Int.dvd_add (hs k) (ht k)
  unfold app at this ⊢
  rw [← sigN_add] at this
  rwa [sigN_congr (g := fun j => c j * (s (k + j) + t (k + j))) (fun j _ => by grind)] at this
theorem kills_near {p : Int} {c c' s s' : Nat → Int} {m : Nat} (hc : ∀ j, p ∣ c' j - c j) (hs : ∀ k, p ∣ s' k - s k) (h : kills p c m s) : kills p c' m s' := fun k =>
  (near_move (app_near (fun j _ => hc j) (fun j _ => hs (k + j)))).2 (h k)
theorem sigN_rev (f : Nat → Int) : ∀ n, sigN n (fun j => f (n - 1 - j)) = sigN n f
  | 0 => rfl
  | n + 1 => by
    rw [sigN_shift]
    show f (n + 1 - 1 - 0) + sigN n (fun j => f (n + 1 - 1 - (j + 1))) = sigN n f + f n
    rw [sigN_congr (n := n) (g := fun j => f (n - 1 - j)) (fun j hj => by show f (n + 1 - 1 - (j + 1)) = _; congr 1; omega), sigN_rev f n, show n + 1 - 1 - 0 = n by omega]
    omega
/-- the polynomial of a recurrence -/
def recP (p : Int) (T : List Int) : List Int := (T.reverse.map fun x => (p - x) % p) ++ [1]
theorem recP_len (p : Int) (T : List Int) : (recP p T).length = T.length + 1 := by simp [recP]
theorem co_recP_low (p : Int) (T : List Int) {j : Nat} (h : j < T.length) : co (recP p T) j = (p - co T (T.length - 1 - j)) % p := by
  unfold recP
  rw [co_append, if_pos (by simpa using h)]
  unfold co
  rw [List.getD_eq_getElem?_getD, List.getD_eq_getElem?_getD, List.getElem?_map, List.getElem?_reverse (by simpa using h), List.getElem?_eq_getElem (by omega)]
  rfl
theorem co_recP_top (p : Int) (T : List Int) : co (recP p T) T.length = 1 := by
  unfold recP
  rw [co_append, if_neg (by simp)]
  simp [co]
theorem co_recP_far (p : Int) (T : List Int) {j : Nat} (h : T.length < j) : co (recP p T) j = 0 := co_far (by rw [recP_len]; omega)
theorem recP_pol {p : Int} {T : List Int} (hp : primeB p = true) (h6 : T.length ≤ 6) : polB p (recP p T) = true := by
  have hpb := prime_ge hp
  refine polB_of (serB_mk hp (by rw [recP_len]; omega) (fun x hx => ?_)) (.inr ?_)
  · rcases List.mem_append.1 hx with h | h
    · obtain ⟨y, _, rfl⟩ := List.mem_map.1 h; exact numB_emod hp _
    · rw [List.mem_singleton.1 h]; exact numB_mk hp (by omega) (by omega)
  · rw [recP_len, Nat.add_sub_cancel, co_recP_top]; decide
theorem recP_kills (p : Int) (T F : List Int) (hl : F.length = T.length) : kills p (co (recP p T)) T.length (stm p T F) := by
  intro k
  show p ∣ sigN T.length (fun j => co (recP p T) j * stm p T F (k + j)) + co (recP p T) T.length * stm p T F (k + T.length)
  rw [co_recP_top, Int.one_mul, stm_next p T F hl (k := k + T.length) (by omega)]
  have h1 : p ∣ sigN T.length (fun j => co (recP p T) j * stm p T F (k + j)) - sigN T.length (fun j => -1 * (co T (T.length - 1 - j) * stm p T F (k + T.length - 1 - (T.length - 1 - j)))) := sigN_near fun j hj => by
    rw [co_recP_low p T hj, show k + T.length - 1 - (T.length - 1 - j) = k + j by omega]
    have := near_mod p (p - co T (T.length - 1 - j))
    have h2 := Int.dvd_add this (Int.dvd_refl p)
    have h3 := dvd_mulR h2 (stm p T F (k + j))
    rwa [show ((p - co T (T.length - 1 - j)) % p - (p - co T (T.length - 1 - j)) + p) * stm p T F (k + j) = (p - co T (T.length - 1 - j)) % p * stm p T F (k + j) - -1 * (co T (T.length - 1 - j) * stm p T F (k + j)) by grind] at h3
  rw [sigN_mul, sigN_rev (fun i => co T i * stm p T F (k + T.length - 1 - i)) T.length] at h1
  have h4 := near_mod p (sigN T.length (fun j => co T j * stm p T F (k + T.length - 1 - j)))
  have h5 := Int.dvd_add h1 h4
  generalize sigN T.length (fun j => co (recP p T) j * stm p T F (k + j)) = z1 at h5 ⊢
  generalize sigN T.length (fun j => co T j * stm p T F (k + T.length - 1 - j)) = z2 at h5 ⊢
  rwa [show z1 - -1 * z2 + (z2 % p - z2) = z1 + z2 % p by omega] at h5
/-- a number far off -/
theorem far_law {p : Int} {T F : List Int} (h : recB p T F = true) {R : List Int} {n : Nat} (hR : R.length ≤ T.length) (hc : CG p (co (recP p T)) (co R) (mono n)) : sigN R.length (fun j => co R j * co F j) % p = stm p T F n := by
  obtain ⟨hp, h6, hl, hT, hF⟩ := recB_true h
  have hpb := prime_ge hp
  obtain ⟨H, N, h1, h2⟩ := hc
  obtain ⟨M, hM⟩ : ∃ M, M = R.length + (n + 1) + (N + (T.length + 1)) := ⟨_, rfl⟩
  have e1 : app (co R) (stm p T F) M 0 = sigN R.length (fun j => co R j * co F j) := by
    rw [app_trunc (n := R.length) (by omega) (fun j hj => co_far hj)]
    refine sigN_congr fun j hj => ?_
    rw [Nat.zero_add, stm_low p T F (by omega)]
  have e2 : app (mono n) (stm p T F) M 0 = stm p T F n := by
    unfold app
    rw [sigN_one (c := n) (by omega) (fun j _ hne => by unfold mono; rw [if_neg hne]; simp)]
    unfold mono; rw [if_pos rfl]; simp
  have e3 : p ∣ app (cv (co (recP p T)) H) (stm p T F) M 0 := by
    rw [show cv (co (recP p T)) H = cv H (co (recP p T)) from funext (cv_comm _ _)]
    rw [app_trunc (n := N + (T.length + 1)) (by omega) (fun j hj => cv_far (n := N) (m := T.length + 1) h1 (fun k hk => co_recP_far p T (Nat.lt_of_succ_le hk)) (by omega)), app_cv (n := N) (m := T.length + 1) h1 (fun k hk => co_recP_far p T (Nat.lt_of_succ_le hk))]
    exact sigN_dvd fun j _ => dvd_mulL (recP_kills p T F hl _) _
  have e4 : p ∣ app (co R) (stm p T F) M 0 - (app (mono n) (stm p T F) M 0 + app (cv (co (recP p T)) H) (stm p T F) M 0) := by
    unfold app
    rw [← sigN_add, ← sigN_sub]
    refine sigN_dvd fun j _ => ?_
    have := dvd_mulR (h2 j) (stm p T F (0 + j))
    rwa [show (co R j - mono n j - cv (co (recP p T)) H j) * stm p T F (0 + j) = co R j * stm p T F (0 + j) - (mono n j * stm p T F (0 + j) + cv (co (recP p T)) H j * stm p T F (0 + j)) by grind] at this
  rw [e1, e2] at e4
  have hs := numB_true (stm_num h n)
  have h5 := near_mod p (sigN R.length (fun j => co R j * co F j))
  have h6 := Int.dvd_add (Int.dvd_add h5 e4) e3
  refine near_eq (p := p) ?_ (Int.emod_nonneg _ (by omega)) (Int.emod_lt_of_pos _ (by omega)) hs.2.1 hs.2.2
  generalize app (cv (co (recP p T)) H) (stm p T F) M 0 = z1 at h6
  generalize sigN R.length (fun j => co R j * co F j) = z2 at h6 ⊢
  rwa [show z2 % p - z2 + (z2 - (stm p T F n + z1)) + z1 = z2 % p - stm p T F n by omega] at h6
theorem stm_nil (p : Int) (k : Nat) : stm p [] [] k = 0 := by rw [stm_next p [] [] rfl (by simp)]; rfl
/-- a few numbers decide -/
theorem prod_kills {p : Int} {T T' : List Int} : (∀ {F : List Int}, F.length = T.length → kills p (cv (co (recP p T)) (co (recP p T'))) (T.length + T'.length) (stm p T F)) ∧ ∀ {F' : List Int}, F'.length = T'.length → kills p (cv (co (recP p T)) (co (recP p T'))) (T.length + T'.length) (stm p T' F') := by
  refine ⟨fun hl => ?_, fun hl' => kills_cv (fun k hk => co_recP_far p T hk) (fun k hk => co_recP_far p T' hk) (recP_kills p T' _ hl')⟩
  rw [show cv (co (recP p T)) (co (recP p T')) = cv (co (recP p T')) (co (recP p T)) from funext (cv_comm _ _), Nat.add_comm]
  exact kills_cv (fun k hk => co_recP_far p T' hk) (fun k hk => co_recP_far p T hk) (recP_kills p T _ hl)
theorem prod_top (p : Int) (T T' : List Int) : cv (co (recP p T)) (co (recP p T')) (T.length + T'.length) = 1 := by
  rw [cv_top (fun k hk => co_recP_far p T hk) (fun k hk => co_recP_far p T' hk), co_recP_top, co_recP_top]; rfl
theorem same_law {p : Int} {T F T' F' : List Int} (h : recB p T F = true) (h' : recB p T' F' = true) (he : ∀ k, k < T.length + T'.length → stm p T F k = stm p T' F' k) (k : Nat) : stm p T F k = stm p T' F' k := by
  obtain ⟨_, _, hl, _, _⟩ := recB_true h
  obtain ⟨_, _, hl', _, _⟩ := recB_true h'
  have hz := kills_zero (p := p) (by rw [prod_top]; exact ⟨0, by simp⟩) (kills_sub (prod_kills.1 hl) (prod_kills.2 hl')) (fun j hj => by rw [he j hj, Int.sub_self]; exact Int.dvd_zero p) k
  have b1 := numB_true (stm_num h k)
  have b2 := numB_true (stm_num h' k)
  exact near_eq hz b1.2.1 b1.2.2 b2.2.1 b2.2.2
/-- the next stream -/
theorem next_law {p : Int} {T F F' : List Int} (hl : F.length = T.length) (hl' : F'.length = T.length) (he : ∀ k, k < T.length → co F' k = stm p T F (k + 1)) (k : Nat) : stm p T F' k = stm p T F (k + 1) := by
  induction k using Nat.strongRecOn with
  | ind k ih =>
    by_cases h : k < F'.length
    · rw [stm_low p T F' h, he k (by omega)]
    · rw [stm_next p T F' hl' (by omega), stm_next p T F hl (k := k + 1) (by omega)]
      congr 1
      refine sigN_congr fun j hj => ?_
      rw [ih (k - 1 - j) (by omega), show k - 1 - j + 1 = k + 1 - 1 - j by omega]
/-- each number so many times -/
theorem times_law {p t : Int} {T F F' : List Int} (hl : F.length = T.length) (hl' : F'.length = T.length) (he : ∀ k, k < T.length → co F' k = co F k * t % p) (k : Nat) : stm p T F' k = stm p T F k * t % p := by
  induction k using Nat.strongRecOn with
  | ind k ih =>
    by_cases h : k < F'.length
    · rw [stm_low p T F' h, he k (by omega), stm_low p T F (by omega)]
    · rw [stm_next p T F' hl' (by omega), stm_next p T F hl (by omega)]
      refine mod_of_near ?_
      have h1 : p ∣ sigN T.length (fun j => co T j * stm p T F' (k - 1 - j)) - sigN T.length (fun j => co T j * stm p T F (k - 1 - j) * t) := sigN_near fun j hj => by
        rw [ih (k - 1 - j) (by omega)]
        have := dvd_mulL (near_mod p (stm p T F (k - 1 - j) * t)) (co T j)
        rwa [show co T j * (stm p T F (k - 1 - j) * t % p - stm p T F (k - 1 - j) * t) = co T j * (stm p T F (k - 1 - j) * t % p) - co T j * stm p T F (k - 1 - j) * t by grind] at this
      rw [sigN_mulr] at h1
      exact near_trans h1 (near_symm (by
        have := dvd_mulR (near_mod p (sigN T.length (fun j => co T j * stm p T F (k - 1 - j)))) t
        rwa [Int.sub_mul] at this))
/-- the sum's recurrence: Times of a polynomial that ends with 1 -/
def unP (p : Int) (f : List Int) : List Int := (f.take (f.length - 1)).reverse.map fun x => (p - x) % p
theorem unP_len (p : Int) (f : List Int) : (unP p f).length = f.length - 1 := by simp [unP]
theorem neg_neg_mod {p x : Int} (h : numB p x = true) : (p - (p - x) % p) % p = x := by
  obtain ⟨hp, h0, h1⟩ := numB_true h
  have hpb := prime_ge hp
  refine near_eq (p := p) ?_ (Int.emod_nonneg _ (by omega)) (Int.emod_lt_of_pos _ (by omega)) h0 h1
  have e1 := near_mod p (p - (p - x) % p)
  have e2 := near_mod p (p - x)
  have := Int.dvd_sub e1 e2
  generalize (p - x) % p = y at this ⊢
  rwa [show (p - y) % p - (p - y) - (y - (p - x)) = (p - y) % p - x by omega] at this
theorem recP_unP {p : Int} {f : List Int} (hf : serB p f = true) (h1 : 1 ≤ f.length) (ht : co f (f.length - 1) = 1) : recP p (unP p f) = f := by
  obtain ⟨_, _, hv⟩ := serB_true hf
  refine list_of_co (by rw [recP_len, unP_len]; omega) (fun k hk => ?_)
  rw [recP_len, unP_len] at hk
  by_cases e : k = f.length - 1
  · have := co_recP_top p (unP p f)
    rw [unP_len] at this
    rw [e, this, ht]
  · rw [co_recP_low p _ (by rw [unP_len]; omega), unP_len]
    have : co (unP p f) (f.length - 1 - 1 - k) = (p - co f k) % p := by
      unfold unP co
      rw [List.getD_eq_getElem?_getD, List.getD_eq_getElem?_getD, List.getElem?_map, List.getElem?_reverse (by simp; omega), List.length_take, List.getElem?_take, if_pos (by omega)]
      rw [show min (f.length - 1) f.length - 1 - (f.length - 1 - 1 - k) = k by omega, List.getElem?_eq_getElem (by omega)]
      rfl
    rw [this, neg_neg_mod (co_num hv (by omega))]
theorem unP_num {p : Int} (hp : primeB p = true) (f : List Int) : ∀ x ∈ unP p f, numB p x = true := fun x hx => by
  obtain ⟨y, _, rfl⟩ := List.mem_map.1 hx
  exact numB_emod hp _
/-- the sum of two recurrences -/
def addT (p : Int) (T T' : List Int) : List Int := unP p (tmsL p (recP p T) (recP p T'))
def addF (p : Int) (T F T' F' : List Int) : List Int := (List.range (T.length + T'.length)).map fun k => (stm p T F k + stm p T' F' k) % p
theorem prodL {p : Int} {T T' : List Int} (hp : primeB p = true) (h : T.length + T'.length ≤ 6) : polB p (tmsL p (recP p T) (recP p T')) = true ∧ (tmsL p (recP p T) (recP p T')).length = T.length + T'.length + 1 ∧ co (tmsL p (recP p T) (recP p T')) (T.length + T'.length) = 1 := by
  have hpb := prime_ge hp
  have hn : tmsN (recP p T) (recP p T') = T.length + T'.length + 1 := by unfold tmsN; rw [recP_len, recP_len, if_neg (by omega)]; omega
  refine ⟨tmsL_pol (recP_pol hp (by omega)) (recP_pol hp (by omega)) (by rw [hn]; omega), by rw [tmsL_len, hn], ?_⟩
  rw [co_tmsL, prod_top, Int.emod_eq_of_lt (by omega) (by omega)]
theorem addT_len {p : Int} {T T' : List Int} (hp : primeB p = true) (h : T.length + T'.length ≤ 6) : (addT p T T').length = T.length + T'.length := by unfold addT; rw [unP_len, (prodL hp h).2.1]; rfl
theorem addF_len (p : Int) (T F T' F' : List Int) : (addF p T F T' F').length = T.length + T'.length := by simp [addF]
theorem add_valid {p : Int} {T F T' F' : List Int} (h : recB p T F = true) (h6 : T.length + T'.length ≤ 6) : recB p (addT p T T') (addF p T F T' F') = true := by
  obtain ⟨hp, _, _, _, _⟩ := recB_true h
  refine recB_mk hp (by rw [addT_len hp h6]; exact h6) (by rw [addT_len hp h6, addF_len]) (unP_num hp _) (fun x hx => ?_)
  obtain ⟨k, _, rfl⟩ := List.mem_map.1 hx
  exact numB_emod hp _
theorem add_law {p : Int} {T F T' F' : List Int} (h : recB p T F = true) (h' : recB p T' F' = true) (h6 : T.length + T'.length ≤ 6) (k : Nat) : stm p (addT p T T') (addF p T F T' F') k = (stm p T F k + stm p T' F' k) % p := by
  obtain ⟨hp, _, hl, _, _⟩ := recB_true h
  obtain ⟨_, _, hl', _, _⟩ := recB_true h'
  have hpb := prime_ge hp
  obtain ⟨q1, q2, q3⟩ := prodL (T := T) (T' := T') hp h6
  have hv := add_valid (F := F) (T' := T') (F' := F') h h6
  have hu : recP p (addT p T T') = tmsL p (recP p T) (recP p T') := recP_unP (polB_ser q1) (by omega) (by rw [q2]; exact q3)
  have k1 := recP_kills p (addT p T T') (addF p T F T' F') (by rw [addT_len hp h6, addF_len])
  rw [hu, addT_len hp h6] at k1
  have k2 : kills p (co (tmsL p (recP p T) (recP p T'))) (T.length + T'.length) (fun k => stm p T F k + stm p T' F' k) := kills_near (fun j => by rw [co_tmsL]; exact near_mod _ _) (fun k => by rw [Int.sub_self]; exact Int.dvd_zero p) (kills_add (prod_kills.1 hl) (prod_kills.2 hl'))
  have hz := kills_zero (p := p) (by rw [q3]; exact ⟨0, by simp⟩) (kills_sub k1 k2) (fun j hj => by
    rw [stm_low _ _ _ (by rw [addF_len]; exact hj)]
    show p ∣ ((List.range _).map _).getD j 0 - _
    rw [co_map, if_pos hj]
    exact near_mod _ _) k
  have b1 := numB_true (stm_num hv k)
  exact near_eq (near_trans hz (near_symm (near_mod _ _))) b1.2.1 b1.2.2 (Int.emod_nonneg _ (by omega)) (Int.emod_lt_of_pos _ (by omega))
/-- windows: what is told side by side tells all behind it -/
theorem win_law {p : Int} {T F : List Int} (hl : F.length = T.length) {a b : Nat} (h : ∀ i, i < T.length → stm p T F (a + i) = stm p T F (b + i)) (i : Nat) : stm p T F (a + i) = stm p T F (b + i) := by
  induction i using Nat.strongRecOn with
  | ind i ih =>
    by_cases e : i < T.length
    · exact h i e
    · rw [stm_next p T F hl (k := a + i) (by omega), stm_next p T F hl (k := b + i) (by omega)]
      congr 1
      refine sigN_congr fun j hj => ?_
      rw [show a + i - 1 - j = a + (i - 1 - j) by omega, show b + i - 1 - j = b + (i - 1 - j) by omega, ih (i - 1 - j) (by omega)]
/-- what comes back, comes back one earlier, behind the numbers that the last numbers of Times, 0, leave out -/
theorem win_back {p : Int} {T F : List Int} (h : recB p T F = true) {a b e : Nat} (he : e < T.length) (hz : ∀ j, e < j → j < T.length → co T j = 0) (hne : co T e ≠ 0) (ha : T.length ≤ a + 1 + e) (hb : T.length ≤ b + 1 + e) (hw : ∀ i, i < T.length → stm p T F (a + 1 + i) = stm p T F (b + 1 + i)) : stm p T F a = stm p T F b := by
  obtain ⟨hp, _, hl, hT, _⟩ := recB_true h
  have hpb := prime_ge hp
  have key : ∀ c, T.length ≤ c + 1 + e → stm p T F (c + 1 + e) = (sigN e (fun j => co T j * stm p T F (c + e - j)) + co T e * stm p T F c) % p := by
    intro c hc
    rw [stm_next p T F hl (k := c + 1 + e) (by omega)]
    congr 1
    rw [sigN_trunc (n := e + 1) (by omega) (fun k h1 h2 => by rw [hz k (by omega) h2]; simp)]
    show sigN e _ + co T e * stm p T F (c + 1 + e - 1 - e) = _
    rw [show c + 1 + e - 1 - e = c by omega]
    congr 1
    refine sigN_congr fun j hj => ?_
    rw [show c + 1 + e - 1 - j = c + e - j by omega]
  have w1 := win_law hl (a := a + 1) (b := b + 1) hw
  have k1 := key a ha
  have k2 := key b hb
  rw [w1 e, k2] at k1
  have hs : sigN e (fun j => co T j * stm p T F (a + e - j)) = sigN e (fun j => co T j * stm p T F (b + e - j)) := sigN_congr fun j hj => by
    have := w1 (e - 1 - j)
    rw [show a + e - j = a + 1 + (e - 1 - j) by omega, show b + e - j = b + 1 + (e - 1 - j) by omega, this]
  rw [hs] at k1
  obtain ⟨inv, hinv⟩ : ∃ c, p ∣ co T e * c - 1 := by
    have hn := numB_true (co_num hT he)
    refine ⟨invM p (co T e), ?_⟩
    have h1 := inv_ok hp hn.2.1 hn.2.2 hne
    have h2 := near_mod p (co T e * invM p (co T e))
    rw [h1] at h2
    exact near_symm h2
  have b1 := numB_true (stm_num h a)
  have b2 := numB_true (stm_num h b)
  refine near_eq (p := p) ?_ b1.2.1 b1.2.2 b2.2.1 b2.2.2
  have h3 : p ∣ co T e * stm p T F a - co T e * stm p T F b := by
    have e1 := near_mod p (sigN e (fun j => co T j * stm p T F (b + e - j)) + co T e * stm p T F a)
    have e2 := near_mod p (sigN e (fun j => co T j * stm p T F (b + e - j)) + co T e * stm p T F b)
    rw [← k1] at e1
    have e3 := Int.dvd_sub e2 e1
    generalize (sigN e (fun j => co T j * stm p T F (b + e - j)) + co T e * stm p T F b) % p = z1 at e3
    generalize sigN e (fun j => co T j * stm p T F (b + e - j)) = z2 at e3
    rwa [show z1 - (z2 + co T e * stm p T F b) - (z1 - (z2 + co T e * stm p T F a)) = co T e * stm p T F a - co T e * stm p T F b by omega] at e3
  have h4 := dvd_mulL h3 inv
  have h5 := dvd_mulR hinv (stm p T F a - stm p T F b)
  have h6 := Int.dvd_sub h4 h5
  rwa [show inv * (co T e * stm p T F a - co T e * stm p T F b) - (co T e * inv - 1) * (stm p T F a - stm p T F b) = stm p T F a - stm p T F b by grind] at h6
/-- windows of the same numbers -/
def winEq (p : Int) (T F : List Int) (a b : Nat) : Prop := ∀ i, i < T.length → stm p T F (a + i) = stm p T F (b + i)
/-- when the stream comes back -/
def Circ (p : Int) (T F : List Int) : Option (Nat × Nat) → Prop
  | some (f, m) => 1 ≤ m ∧ f + m ≤ 3000 ∧ winEq p T F f (f + m) ∧ ∀ i j, i < j → j < f + m → ¬ winEq p T F i j
  | none => ∀ i j, i < j → j ≤ 3000 → ¬ winEq p T F i j
theorem winEq_trans {p : Int} {T F : List Int} {a b c : Nat} (h : winEq p T F a c) (h' : winEq p T F b c) : winEq p T F a b := fun i hi => (h i hi).trans (h' i hi).symm
theorem circ_uniq {p : Int} {T F : List Int} : ∀ {r s : Option (Nat × Nat)}, Circ p T F r → Circ p T F s → r = s
  | none, none, _, _ => rfl
  | none, some (f, m), h, h' => absurd h'.2.2.1 (h f (f + m) (by have := h'.1; omega) h'.2.1)
  | some (f, m), none, h, h' => absurd h.2.2.1 (h' f (f + m) (by have := h.1; omega) h.2.1)
  | some (f, m), some (f', m'), h, h' => by
    obtain ⟨a1, a2, a3, a4⟩ := h
    obtain ⟨b1, b2, b3, b4⟩ := h'
    have e1 : f + m = f' + m' := by
      rcases Nat.lt_trichotomy (f + m) (f' + m') with h | h | h
      · exact absurd a3 (b4 f (f + m) (by omega) h)
      · exact h
      · exact absurd b3 (a4 f' (f' + m') (by omega) h)
    have e2 : f = f' := by
      rcases Nat.lt_trichotomy f f' with h | h | h
      · exact absurd (winEq_trans a3 (by rw [e1]; exact b3)) (a4 f f' h (by omega))
      · exact h
      · exact absurd (winEq_trans b3 (by rw [← e1]; exact a3)) (b4 f' f h (by omega))
    subst e2
    obtain rfl : m = m' := by omega
    rfl
theorem circ_from {p : Int} {T F : List Int} (h : recB p T F = true) {f m : Nat} (hc : Circ p T F (some (f, m))) : f ≤ T.length ∧ (T.length = 0 ∨ co T (T.length - 1) = 0 ∨ f = 0) := by
  obtain ⟨hp, _, hl, hT, _⟩ := recB_true h
  obtain ⟨c1, c2, c3, c4⟩ := hc
  -- the last number of Times that is not 0
  have last : ∀ n, n ≤ T.length → (∀ j, n ≤ j → j < T.length → co T j = 0) → (∀ j, j < T.length → co T j = 0) ∨ ∃ e, e < n ∧ co T e ≠ 0 ∧ ∀ j, e < j → j < T.length → co T j = 0 := by
    intro n
    induction n with
    | zero => exact fun _ hz => .inl fun j hj => hz j (by omega) hj
    | succ n ih =>
      intro hn hz
      by_cases e : co T n = 0
      · rcases ih (by omega) (fun j h1 h2 => by
          by_cases e' : j = n
          · rw [e', e]
          · exact hz j (by omega) h2) with h | ⟨x, h1, h2, h3⟩
        · exact .inl h
        · exact .inr ⟨x, by omega, h2, h3⟩
      · exact .inr ⟨n, by omega, e, fun j h1 h2 => hz j (by omega) h2⟩
  rcases last T.length (Nat.le_refl _) (fun j h1 h2 => absurd h2 (by omega)) with hz | ⟨e, he, hne, hz⟩
  · -- all are 0: the stream is 0 from the place of the length on
    have h0 : ∀ k, T.length ≤ k → stm p T F k = 0 := fun k hk => by
      rw [stm_next p T F hl (by omega), sigN_zero (fun j hj => by rw [hz j hj]; simp)]; simp
    constructor
    · refine Nat.le_of_not_lt fun hf => ?_
      exact c4 T.length (T.length + 1) (by omega) (by omega) (fun i hi => by rw [h0 _ (by omega), h0 _ (by omega)])
    · by_cases hd : T.length = 0
      · exact .inl hd
      · exact .inr (.inl (hz _ (by omega)))
  · have step : f ≠ 0 → T.length ≤ f + e → False := by
      intro hf hfe
      obtain ⟨g, rfl⟩ : ∃ g, f = g + 1 := ⟨f - 1, by omega⟩
      have hb := win_back h (a := g) (b := g + m) he hz hne (by omega) (by omega) (fun i hi => by rw [show g + m + 1 + i = g + 1 + m + i by omega]; exact c3 i hi)
      refine c4 g (g + m) (by omega) (by omega) (fun i hi => ?_)
      cases i with
      | zero => exact hb
      | succ i =>
        have := c3 i (by omega)
        rwa [show g + 1 + i = g + (i + 1) by omega, show g + 1 + m + i = g + m + (i + 1) by omega] at this
    constructor
    · refine Nat.le_of_not_lt fun hf => step (by omega) (by omega)
    · by_cases hd : e = T.length - 1
      · refine .inr (.inr ?_)
        by_cases hf : f = 0
        · exact hf
        · exact (step hf (by omega)).elim
      · exact .inr (.inl (hz _ (by omega) (by omega)))
end Go.Proofs.YtbpndmcejbiedaaDoor
namespace Go.Proofs.YtbpndmcejbiedaaDoor
open Go.RowKit
theorem rec_serB {p : Int} {T F : List Int} : recB p T F = (serB p T && (serB p F && (decide (T.length = F.length) && decide (T.length ≤ 6)))) := by
  rw [Bool.eq_iff_iff]
  constructor
  · intro h
    obtain ⟨hp, h6, hl, hT, hF⟩ := recB_true h
    simp only [Bool.and_eq_true, decide_eq_true_eq]
    exact ⟨serB_mk hp (by omega) hT, serB_mk hp (by omega) hF, hl.symm, h6⟩
  · intro h
    simp only [Bool.and_eq_true, decide_eq_true_eq] at h
    obtain ⟨h1, h2, h3, h4⟩ := h
    exact recB_mk (serB_true h1).1 h4 h3.symm (serB_true h1).2.2 (serB_true h2).2.2
theorem implRecValid (v : Value) (p : Int) (T F : List Int) (w : World) (h : RV w v p T F) :
    Calls Tryd.prog 29 #[v] w fun e w' => e = .returned (.bool (recB p T F)) ∧ Below w.heap.size w w' := by
  obtain ⟨A, n, c, b, o, A', n', c', b', o', rfl, g1, g2⟩ := h
  have hB0 : Below w.heap.size w (w.alloc (.cells #[.int .i64 p, .slice A n c, .slice A' n' c'] 29)) := (Below.refl _ w).alloc (Nat.le_refl _) _
  have hbig := g1.big
  have hbig' := g2.big
  have HL := Lib.hid g1.len
  have HL' := Lib.hid g2.len
  have H := Lib.hid (g1.below hB0)
  have H' := Lib.hid (g2.below hB0)
  have HB0 := Lib.hid hB0
  clear g1 g2 hB0
  rcases hp : primeB p
  · have HP := Lib.hid hp
    have HF := Lib.hid (show recB p T F = false by unfold recB; rw [hp]; rfl)
    clear hp
    go_enter Tryd.func29, Tryd.ntmps29
    go_wp2_with (go_at_call 47; refine (implPrimeOk _ _).mono ?_; rintro e w' ⟨rfl, rfl⟩; rw [HP.out])
    go_ret
    exact ⟨ret_bool HF.out.symm, HB0.out⟩
  have HP := Lib.hid hp
  by_cases h6 : n ≤ 6
  case neg =>
    have HF := Lib.hid (show recB p T F = false by unfold recB; rw [HL.out]; simp [h6])
    clear hp
    go_enter Tryd.func29, Tryd.ntmps29
    go_wp2_with (go_at_call 47; refine (implPrimeOk _ _).mono ?_; rintro e w' ⟨rfl, rfl⟩; rw [HP.out])
    go_ret
    exact ⟨ret_bool HF.out.symm, HB0.out⟩
  by_cases hl : n' = n
  case neg =>
    have HF := Lib.hid (show recB p T F = false by unfold recB; rw [HL.out, HL'.out]; simp [hl])
    have hq : ((n' : Int) == (n : Int)) = false := by simpa using (by omega : ¬ (n' : Int) = (n : Int))
    clear hp
    go_enter Tryd.func29, Tryd.ntmps29
    go_wp2_with (go_at_call 47; refine (implPrimeOk _ _).mono ?_; rintro e w' ⟨rfl, rfl⟩; rw [HP.out])
    go_ret
    exact ⟨ret_bool HF.out.symm, HB0.out⟩
  subst hl
  have hq : ((n' : Int) == (n' : Int)) = true := by simp
  have hE : recB p T F = (rowB p T && rowB p F) := by unfold recB; rw [hp, HL.out, HL'.out]; simp [h6]
  rcases hT : rowB p T
  · have HT := Lib.hid hT
    have HF := Lib.hid (show recB p T F = false by rw [hE, hT]; rfl)
    clear hp hT hE
    go_enter Tryd.func29, Tryd.ntmps29
    go_wp2_with (first | (go_at_call 47; refine (implPrimeOk _ _).mono ?_; rintro e w' ⟨rfl, rfl⟩; rw [HP.out]) | (go_at_call 48; with_reducible refine (allValid_any p A n' c b o T _ H.out).mono ?_; rintro e w' ⟨rfl, rfl⟩; rw [HT.out]))
    go_ret
    exact ⟨ret_bool HF.out.symm, HB0.out⟩
  have HT := Lib.hid hT
  rcases hF : rowB p F
  · have HTF := Lib.hid hF
    have HF := Lib.hid (show recB p T F = false by rw [hE, hF]; simp)
    clear hp hT hE hF
    go_enter Tryd.func29, Tryd.ntmps29
    go_wp2_with (first | (go_at_call 47; refine (implPrimeOk _ _).mono ?_; rintro e w' ⟨rfl, rfl⟩; rw [HP.out]) | (go_at_call 48; with_reducible refine (allValid_any p A n' c b o T _ H.out).mono ?_; rintro e w' ⟨rfl, rfl⟩; rw [HT.out]) | (go_at_call 48; with_reducible refine (allValid_any p A' n' c' b' o' F _ H'.out).mono ?_; rintro e w' ⟨rfl, rfl⟩; rw [HTF.out]))
    go_ret
    exact ⟨ret_bool HF.out.symm, HB0.out⟩
  · have HTF := Lib.hid hF
    have HF := Lib.hid (show recB p T F = true by rw [hE, hT, hF]; rfl)
    clear hp hT hE hF
    go_enter Tryd.func29, Tryd.ntmps29
    go_wp2_with (first | (go_at_call 47; refine (implPrimeOk _ _).mono ?_; rintro e w' ⟨rfl, rfl⟩; rw [HP.out]) | (go_at_call 48; with_reducible refine (allValid_any p A n' c b o T _ H.out).mono ?_; rintro e w' ⟨rfl, rfl⟩; rw [HT.out]) | (go_at_call 48; with_reducible refine (allValid_any p A' n' c' b' o' F _ H'.out).mono ?_; rintro e w' ⟨rfl, rfl⟩; rw [HTF.out]))
    go_ret
    exact ⟨ret_bool HF.out.symm, HB0.out⟩
theorem specRecValid (v : Value) (p : Int) (T F : List Int) (w : World) (h : RV w v p T F) :
    Calls Tryd.prog 23 #[v] w fun e w' => e = .returned (.bool (recB p T F)) ∧ Below w.heap.size w w' := by
  obtain ⟨A, n, c, b, o, A', n', c', b', o', rfl, g1, g2⟩ := h
  have hB0 : Below w.heap.size w (w.alloc (.cells #[.int .i64 p, .slice A n c, .slice A' n' c'] 29)) := (Below.refl _ w).alloc (Nat.le_refl _) _
  have hbig := g1.big
  have hbig' := g2.big
  have HL := Lib.hid g1.len
  have HL' := Lib.hid g2.len
  have H := Lib.hid (g1.below hB0)
  have H' := Lib.hid (g2.below hB0)
  have HB0 := Lib.hid hB0
  clear g1 g2 hB0
  have hE := rec_serB (p := p) (T := T) (F := F)
  rw [HL.out, HL'.out] at hE
  rcases hT : serB p T
  · have HT := Lib.hid hT
    have HF := Lib.hid (show recB p T F = false by rw [hE, hT]; rfl)
    clear hT hE
    go_enter Tryd.func23, Tryd.ntmps23
    go_wp2_with (go_at_call 43; with_reducible refine (specSeriesValid p A n c b o T _ H.out).mono ?_; rintro e w' ⟨rfl, rfl⟩; rw [HT.out])
    go_ret
    exact ⟨ret_bool HF.out.symm, HB0.out⟩
  have HT := Lib.hid hT
  rcases hF : serB p F
  · have HTF := Lib.hid hF
    have HF := Lib.hid (show recB p T F = false by rw [hE, hF]; simp)
    clear hT hE hF
    go_enter Tryd.func23, Tryd.ntmps23
    go_wp2_with (first | (go_at_call 43; with_reducible refine (specSeriesValid p A n c b o T _ H.out).mono ?_; rintro e w' ⟨rfl, rfl⟩; rw [HT.out]) | (go_at_call 43; with_reducible refine (specSeriesValid p A' n' c' b' o' F _ H'.out).mono ?_; rintro e w' ⟨rfl, rfl⟩; rw [HTF.out]))
    go_ret
    exact ⟨ret_bool HF.out.symm, HB0.out⟩
  have HTF := Lib.hid hF
  by_cases hl : n = n'
  case neg =>
    have HF := Lib.hid (show recB p T F = false by rw [hE]; simp [hl])
    have hq : ((n : Int) == (n' : Int)) = false := by simpa using (by omega : ¬ (n : Int) = (n' : Int))
    clear hT hE hF
    go_enter Tryd.func23, Tryd.ntmps23
    go_wp2_with (first | (go_at_call 43; with_reducible refine (specSeriesValid p A n c b o T _ H.out).mono ?_; rintro e w' ⟨rfl, rfl⟩; rw [HT.out]) | (go_at_call 43; with_reducible refine (specSeriesValid p A' n' c' b' o' F _ H'.out).mono ?_; rintro e w' ⟨rfl, rfl⟩; rw [HTF.out]))
    go_ret
    exact ⟨ret_bool HF.out.symm, HB0.out⟩
  subst hl
  have hq : ((n : Int) == (n : Int)) = true := by simp
  by_cases h6 : n ≤ 6
  · have HF := Lib.hid (show recB p T F = true by rw [hE, hT, hF]; simp [h6])
    clear hT hE hF
    go_enter Tryd.func23, Tryd.ntmps23
    go_wp2_with (first | (go_at_call 43; with_reducible refine (specSeriesValid p A n c b o T _ H.out).mono ?_; rintro e w' ⟨rfl, rfl⟩; rw [HT.out]) | (go_at_call 43; with_reducible refine (specSeriesValid p A' n c' b' o' F _ H'.out).mono ?_; rintro e w' ⟨rfl, rfl⟩; rw [HTF.out]))
    go_ret
    exact ⟨ret_bool (by rw [HF.out]; exact decide_eq_true (by omega)), HB0.out⟩
  · have HF := Lib.hid (show recB p T F = false by rw [hE]; simp [h6])
    clear hT hE hF
    go_enter Tryd.func23, Tryd.ntmps23
    go_wp2_with (first | (go_at_call 43; with_reducible refine (specSeriesValid p A n c b o T _ H.out).mono ?_; rintro e w' ⟨rfl, rfl⟩; rw [HT.out]) | (go_at_call 43; with_reducible refine (specSeriesValid p A' n c' b' o' F _ H'.out).mono ?_; rintro e w' ⟨rfl, rfl⟩; rw [HTF.out]))
    go_ret
    exact ⟨ret_bool (by rw [HF.out]; exact decide_eq_false (by omega)), HB0.out⟩
end Go.Proofs.YtbpndmcejbiedaaDoor
namespace Go.Proofs.YtbpndmcejbiedaaDoor
open Go.RowKit
/-- the lower polynomial's numbers of a recurrence -/
def lowT (p : Int) (T : List Int) : List Int := 1 :: T.map fun x => (p - x) % p
theorem lowT_take {p : Int} {T : List Int} {k : Nat} {x : Int} (h : T[k]? = some x) : (lowT p T).take (k + 1 + 1) = (lowT p T).take (k + 1) ++ [-x % p] := by
  unfold lowT
  rw [List.take_succ_cons, List.take_succ_cons, List.take_add_one, List.getElem?_map, h]
  simp
def fracOfR (p : Int) (T F : List Int) : Int × List Int × List Int := if recB p T F = true then (leastR p (trimL (serT p (lowT p T) F)) (trimL (lowT p T))).getD (0, [], []) else (0, [], [])
theorem IT.trim {w : World} {A : Option Addr} {n c b : Nat} {p : Int} {xs : List Int} (h : IT w A n c b p xs) : IT w A (trimL xs).length c b p (trimL xs) := by
  have hl : (trimL xs).length ≤ n := by rw [← h.len]; exact trim_le xs
  refine ⟨rfl, ?_, ?_, ?_, ?_⟩
  · rcases h.adr with ⟨h1, h2, h3⟩ | h1
    · exact .inl ⟨h1, by omega, h3⟩
    · exact .inr h1
  · exact Nat.le_trans hl h.capn
  · have := h.big; first | exact this | omega
  · intro i hi
    obtain ⟨x, h1, h2, h3⟩ := h.cell i (by omega)
    refine ⟨x, ?_, h2, h3⟩
    rw [← take_trim xs, List.getElem?_take_of_lt hi]
    exact h1
theorem fracOf_law {p : Int} {T F : List Int} (h : recB p T F = true) :
    serB p (lowT p T) = true ∧ serB p F = true ∧ polB p (trimL (serT p (lowT p T) F)) = true ∧ polB p (trimL (lowT p T)) = true ∧ (serT p (lowT p T) F).length ≤ 6 ∧
    leastR p (trimL (serT p (lowT p T) F)) (trimL (lowT p T)) = some (fracOfR p T F) := by
  obtain ⟨hp, h6, hl, hT, hF⟩ := recB_true h
  have hlen : (lowT p T).length = T.length + 1 := by simp [lowT]
  have hlow : serB p (lowT p T) = true := serB_mk hp (by omega) (fun x hx => by
    rcases List.mem_cons.1 hx with rfl | hx
    · exact (serB_true (serB_one hp).1).2.2 1 (by simp)
    · obtain ⟨y, _, rfl⟩ := List.mem_map.1 hx
      exact numB_emod hp _)
  have hf : serB p F = true := serB_mk hp (by omega) hF
  have hs : serT p (lowT p T) F = serL p (lowT p T) F := by unfold serT; rw [if_pos ⟨hlow, hf⟩]
  have hsl : (serL p (lowT p T) F).length ≤ 6 := by rw [serL_len]; omega
  have hU : polB p (trimL (serT p (lowT p T) F)) = true := by
    rw [hs]
    refine polB_of (serB_mk hp (by have := trim_le (serL p (lowT p T) F); omega) (fun x hx => ?_)) (trim_last _)
    have hx := trim_mem hx
    unfold serL convR at hx
    obtain ⟨i, _, rfl⟩ := List.mem_map.1 hx
    exact numB_emod hp _
  have hL : polB p (trimL (lowT p T)) = true :=
    polB_of (serB_mk hp (by have := trim_le (lowT p T); omega) (fun x hx => (serB_true hlow).2.2 x (trim_mem hx))) (trim_last _)
  have hz : co (trimL (lowT p T)) 0 ≠ 0 := by rw [co_trim]; simp [co, lowT]
  have h0 : (trimL (lowT p T)).length ≠ 0 := fun h0 => hz (co_far (by omega))
  obtain ⟨_, _, _, _, l5, l6⟩ := least_law hU hL h0 hz
  have k1 := trim_le (serT p (lowT p T) F)
  have k2 := trim_le (lowT p T)
  rw [hs] at k1
  refine ⟨hlow, hf, hU, hL, by rw [hs]; exact hsl, ?_⟩
  unfold fracOfR
  rw [if_pos h, leastR_yes h0 hz (by rw [hs] at l5 ⊢; omega) (by omega)]
  rfl
set_option maxRecDepth 100000 in
set_option maxHeartbeats 16000000 in
theorem implFracOf (v : Value) (p : Int) (T F : List Int) (w : World) (h : RV w v p T F) (ge : Addr) (hge : GE w ge) :
    Calls Tryd.prog 9 #[v] w (MadeR (fracOfR p T F).1 (fracOfR p T F).2.1 (fracOfR p T F).2.2 w) := by
  obtain ⟨A, n, c, b, o, A', n', c', b', o', rfl, g1, g2⟩ := h
  have hbx := (Bx.new w (.int .i64 p) (.slice A n c) (.slice A' n' c') 29).below (below_new _ (.cells #[.int .i64 0, .slice none 0 0, .slice none 0 0] 27))
  have hbw := BxW.new (w.alloc (.cells #[.int .i64 p, .slice A n c, .slice A' n' c'] 29)) (.int .i64 0) (.slice none 0 0) (.slice none 0 0) 27
  rw [World.size_alloc] at hbw
  have hB0 := ((Below.refl w.heap.size w).alloc (Nat.le_refl _) (.cells #[.int .i64 p, .slice A n c, .slice A' n' c'] 29)).alloc (by simp) (.cells #[.int .i64 0, .slice none 0 0, .slice none 0 0] 27)
  have HV0 := Lib.hid (show RV _ (.agg #[.int .i64 p, .slice A n c, .slice A' n' c']) p T F from ⟨_, _, _, _, _, _, _, _, _, _, rfl, g1.below hB0, g2.below hB0⟩)
  have H := Lib.hid (g1.below hB0)
  have H' := Lib.hid (g2.below hB0)
  have HBX := Lib.hid hbx
  have HBW := Lib.hid hbw
  have HG0 := Lib.hid (hge.below hB0)
  have HB0 := Lib.hid hB0
  clear hge g1 g2 hbx hbw hB0
  rcases hv : recB p T F
  · have HV := Lib.hid hv
    have HE := Lib.hid (show fracOfR p T F = (0, [], []) by unfold fracOfR; rw [if_neg (by simp [hv])])
    clear hv
    go_enter Tryd.func9, Tryd.ntmps9
    go_wp2_with (go_at_call 29; refine (implRecValid _ p T F _ HV0.out).mono ?_; rintro e w1 ⟨rfl, hB⟩; rw [HV.out]; have HB1 := Lib.hid (below_more HB0.out hB); have hbw := HBW.out.below hB; have x0 := hbw.c.1; have x1 := hbw.c.2.1; have x2 := hbw.c.2.2; have fz := hbw.fz; clear hB hbw)
    refine bodyPost_ret (v := .agg #[.int .i64 0, .slice none 0 0, .slice none 0 0]) (by simp [results, Tryd.f9, go_sem, x0, x1, x2]) rfl ?_
    rw [HE.out]
    exact made_zero HB1.out (by omega)
  obtain ⟨hp, h6, hl, hT, hF⟩ := recB_true hv
  have HV := Lib.hid hv
  go_enter Tryd.func9, Tryd.ntmps9
  go_wp2_with (go_at_call 29; refine (implRecValid _ p T F _ HV0.out).mono ?_; rintro e w1 ⟨rfl, hB⟩; rw [HV.out]; have HBX1 := Lib.hid (HBX.out.below hB); have HBX2 := Lib.hid (HBX1.out.below (below_new w1 (.cells #[.int .i64 1] 3))); have y0 := HBX2.out.1; have y1 := HBX2.out.2.1; have y2 := HBX2.out.2.2; have HBW1 := Lib.hid (HBW.out.below hB); have HB1 := Lib.hid (below_more HB0.out hB); have H1 := Lib.hid (H.out.below hB); have H1' := Lib.hid (H'.out.below hB); have HG1 := Lib.hid (HG0.out.below hB); have hlo := HBW1.out.c.lt; clear hB)
  obtain ⟨o1, o2, o3, o4, o5, o6⟩ := fracOf_law hv
  obtain ⟨UP, hUP⟩ : ∃ U, serT p (lowT p T) F = U := ⟨_, rfl⟩
  rw [hUP] at o3 o5 o6
  obtain ⟨⟨RP, RT, RF⟩, hR⟩ : ∃ R, fracOfR p T F = R := ⟨_, rfl⟩
  rw [hR] at o6
  have HRR := Lib.hid hR
  have HS := Lib.hid hUP
  have HPU := Lib.hid o3
  have HPL := Lib.hid o4
  have HUL := Lib.hid (show UP.length ≤ 1048576 by omega)
  have HLW := Lib.hid (show (lowT p T).length = T.length + 1 by simp [lowT])
  have HR3 := Lib.hid o6
  clear o1 o2 o3 o4 o5 o6 hUP hR
  have hpb := prime_ge hp
  have HL := Lib.hid H.out.len
  have hlen := H.out.len
  have HT := Lib.hid hT
  have HF := Lib.hid hF
  have HPR := Lib.hid hp
  have hn6 : n ≤ 6 := by omega
  clear hv hT hF hl h6 hp hlen y0 y1 y2
  go_loopw [3, 17] (fun lw i wr => ∃ (k : Nat) (Al : Option Addr) (cl : Nat), k ≤ n ∧ i = .int .i64 k ∧ lw = .slice Al (k + 1) cl ∧ OI wr w1.heap.size Al (k + 1) cl ((lowT p T).take (k + 1)) ∧ Below w1.heap.size w1 wr) (fun _ i _ => n - (intOf i).toNat)
  case atStart =>
    refine ⟨0, _, 1, Nat.zero_le _, rfl, rfl, ?_, (Below.refl _ _).alloc (Nat.le_refl _) _⟩
    have h := World.ownsRow_lit (e := 3) (base := w1.heap.size) (size := 1) w1 #[.int .i64 1] 1 (Nat.le_refl _) (by unfold maxLen; omega) (by simp)
    unfold OI ints lowT
    exact h
  case round =>
    obtain ⟨k, Al, cl, hk, rfl, rfl, hO, hB⟩ := hrel
    have HO := Lib.hid hO
    have HBr := Lib.hid hB
    have HBXr := Lib.hid (HBX1.out.below hB)
    have Hr := Lib.hid (H1.out.below hB)
    clear hO hB
    by_cases hlt : k < n
    · obtain rfl := Hr.out.adr (by omega)
      obtain ⟨x, hx, hc⟩ := Hr.out.cell k hlt
      have hxb := numB_bd (HT.out x (List.mem_of_getElem? hx))
      obtain ⟨y0, y1, y2⟩ := HBXr.out
      have HX := Lib.hid hxb
      have HXg := Lib.hid hx
      clear hx hxb
      go_wp2_with (first | (go_at_call 30; refine (negative_any2 p x _ HX.out.2.2.1 HX.out.2.2.2 HX.out.1 HX.out.2.1).mono ?_; rintro e w' ⟨rfl, rfl⟩) | (at_builtin; refine wpList_app_int rfl (.tmp 21) (.tmp 26) rfl w1.heap.size Al (k + 1) cl ((lowT p T).take (k + 1)) rfl (World.ownsRow.alloc HO.out _) (-x % p) wr.heap.size 1 rfl (by simp [go_sem]) (by omega) (by have := HBr.out.size; simp; omega) ?_; intro A4 c4 w4 hO4 hK4; have HO4 := Lib.hid hO4; have HK4 := Lib.hid hK4; clear hO4 hK4))
      go_roundw
      case rel =>
        have hs := HBr.out.size
        refine ⟨k + 1, A4, c4, by omega, by go_num, rfl, ?_, HBr.out.trans (((keep_of_below ((Below.refl _ wr).alloc (Nat.le_refl _) (.cells #[.int .i64 (-x % p)] 3)) |>.mono (T := fun k' => (Value.slice Al (k + 1) cl).ownBlock = some k') (fun _ _ h => h.elim)).trans HK4.out).below hs (fun g hg => (HO.out.lt g hg).1))⟩
        rw [lowT_take HXg.out]
        exact HO4.out
      case measure => simp [intOf]; omega
    · obtain rfl : k = n := by omega
      obtain ⟨y0, y1, y2⟩ := HBXr.out
      go_wp2_with (fail)
      have hlw : (lowT p T).take (k + 1) = lowT p T := List.take_of_length_le (by rw [HLW.out, HL.out]; exact Nat.le_refl _)
      rw [hlw] at HO
      obtain ⟨bl, hIl⟩ := OI.ia HO.out
      have HIl := Lib.hid hIl
      have Hr' := Lib.hid (H1'.out.below HBr.out)
      clear hIl hlw
      refine (implSeriesTimes p Al (k + 1) cl bl 0 (lowT p T) A' n' c' b' o' F _ HIl.out Hr'.out).mono ?_
      rw [HS.out]
      rintro e w2 ⟨Au, cu, rfl, hO, hB⟩
      obtain ⟨bu, hI⟩ := OI.ia hO
      have HIu2 := Lib.hid hI
      have HIl2 := Lib.hid (HIl.out.below hB)
      have HBX2 := Lib.hid (HBXr.out.below hB)
      have HBW2 := Lib.hid ((HBW1.out.below HBr.out).below hB)
      have HG2 := Lib.hid ((HG1.out.below HBr.out).below hB)
      have HB2 := Lib.hid (below_more (below_more HB1.out HBr.out) hB)
      clear hO hI hB y0 y1 y2
      obtain ⟨y0, y1, y2⟩ := HBX2.out
      go_upto_region 10 with (fail)
      go_cut [7] (fun v wx => ∃ (gB : Nat) (A3 : Option Addr) (c3 : Nat) (A4 : Option Addr) (c4 : Nat), v = .pointer (some ⟨gB, 0, none⟩) ∧ Bx wx gB (.int .i64 RP) (.slice A3 RT.length c3) (.slice A4 RF.length c4) ∧ OI wx w2.heap.size A3 RT.length c3 RT ∧ OI wx w2.heap.size A4 RF.length c4 RF ∧ Apart (.slice A3 RT.length c3) (.slice A4 RF.length c4) ∧ BxW wx (w.heap.size + 1) (.int .i64 0) (.slice none 0 0) (.slice none 0 0) ∧ Below w.heap.size w wx)
      case first =>
        have HBd2 := Lib.hid HB2.out.drew
        have HG2d := Lib.hid HG2.out.drew
        have HW2d := Lib.hid HBW2.out.drew
        have HIu2d := Lib.hid (HIu2.out.below (below_new_drew w2))
        have HIl2d := Lib.hid (HIl2.out.below (below_new_drew w2))
        have ZS := HBX2.out
        have Zd := HBX2.out.drew
        unfold Bx at ZS Zd
        have hlo2 := HBW2.out.c.lt
        have hfar : ∀ (W : World) (g o o' : Nat) (v : Value), w.heap.size < g → (W.setCell ⟨g, o, none⟩ v).cell? ⟨w.heap.size, o', none⟩ = W.cell? ⟨w.heap.size, o', none⟩ := fun W g o o' v hg => World.cell?_setCell_far _ _ _ _ (by show g ≠ w.heap.size; omega)
        go_region_held3 (fun w' => w'.cell? ⟨w.heap.size, 0, none⟩ = some (.int .i64 p) ∧ w'.cell? ⟨w.heap.size, 1, none⟩ = some (.slice A k c) ∧ w'.cell? ⟨w.heap.size, 2, none⟩ = some (.slice A' n' c')) (first | assumption | exact Z7 | exact Z6 | exact Z5 | exact Z4 | exact Z3 | exact Zd | exact ZS | (refine ⟨?_, ?_, ?_⟩ <;> (simp (disch := omega) only [hfar]; first | exact Z7.1 | exact Z7.2.1 | exact Z7.2.2)) | go_keep)
          (first
            | (go_at_call 33; (with_reducible refine (termsOf_any p Au _ cu bu 0 UP _ (by first | exact HIu2d.out | exact HIu2d.out.below (below_new _ _)) HUL.out).mono ?_); rintro e w3 ⟨A5, c5, rfl, hO, hB⟩; have hB' : Below w2.drew.heap.size w2.drew w3 := (by first | exact hB | exact below_more (below_new _ (.cells #[.int .i64 0, .slice none 0 0, .slice none 0 0] 27)) hB); (first | have HLB := Lib.hid (show BxW w3 w2.heap.size (.int .i64 0) (.slice none 0 0) (.slice none 0 0) from (BxW.new w2.drew (.int .i64 0) (.slice none 0 0) (.slice none 0 0) 27).below hB) | skip); have hz3 : w2.heap.size ≤ w3.heap.size := hB'.size; obtain ⟨b5, hI⟩ := OT.it hO; have HIt3 := Lib.hid hI; clear hO hI; have HBd3 := Lib.hid (below_more HBd2.out hB'); have HG3d := Lib.hid (HG2d.out.below hB'); have HW3d := Lib.hid (HW2d.out.below hB'); have HBX3 := Lib.hid (HBX2.out.drew.below hB'); have Z3 := HBX3.out; unfold Bx at Z3; have HIl3 := Lib.hid (HIl2d.out.below hB'); clear hB hB')
            | (go_at_call 34; (with_reducible refine (trimmed_any p A5 _ c5 b5 UP _ (by first | exact HIt3.out | exact HIt3.out.below (below_new _ _))).mono ?_); rintro e w4 ⟨rfl, hB⟩; have hB' : Below w3.heap.size w3 w4 := (by first | exact hB | exact below_more (below_new _ (.cells #[.int .i64 0, .slice none 0 0, .slice none 0 0] 27)) hB); (first | have HLB := Lib.hid (HLB.out.below hB') | have HLB := Lib.hid ((BxW.new w3 (.int .i64 0) (.slice none 0 0) (.slice none 0 0) 27).below hB) | skip); (first | have hl4 := HLB.out.c.lt | skip); have hz4 : w3.heap.size ≤ w4.heap.size := hB'.size; have HIt4 := Lib.hid (HIt3.out.trim.below hB'); have HBd4 := Lib.hid (below_more HBd3.out hB'); have HG4d := Lib.hid (HG3d.out.below hB'); have HW4d := Lib.hid (HW3d.out.below hB'); have HBX4 := Lib.hid (HBX3.out.below hB'); have Z4 := HBX4.out; unfold Bx at Z4; have HIl4 := Lib.hid (HIl3.out.below hB'); clear hB hB')
            | (go_at_call 33; (with_reducible refine (termsOf_any p Al _ cl bl 0 (lowT p T) _ (by first | exact HIl4.out | exact HIl4.out.below (below_new _ _)) (by omega)).mono ?_); rintro e w5 ⟨A6, c6, rfl, hO, hB⟩; have hB' : Below w4.heap.size w4 w5 := (by first | exact hB | exact below_more (below_new _ (.cells #[.int .i64 0, .slice none 0 0, .slice none 0 0] 27)) hB); (first | have HLB := Lib.hid (HLB.out.below hB') | have HLB := Lib.hid ((BxW.new w4 (.int .i64 0) (.slice none 0 0) (.slice none 0 0) 27).below hB) | skip); (first | have hl5 := HLB.out.c.lt | skip); have hz5 : w4.heap.size ≤ w5.heap.size := hB'.size; obtain ⟨b6, hI⟩ := OT.it hO; have HIs5 := Lib.hid hI; clear hO hI; have HBd5 := Lib.hid (below_more HBd4.out hB'); have HG5d := Lib.hid (HG4d.out.below hB'); have HW5d := Lib.hid (HW4d.out.below hB'); have HBX5 := Lib.hid (HBX4.out.below hB'); have Z5 := HBX5.out; unfold Bx at Z5; have HIt5 := Lib.hid (HIt4.out.below hB'); clear hB hB')
            | (go_at_call 34; (with_reducible refine (trimmed_any p A6 _ c6 b6 (lowT p T) _ (by first | exact HIs5.out | exact HIs5.out.below (below_new _ _))).mono ?_); rintro e w6 ⟨rfl, hB⟩; have hB' : Below w5.heap.size w5 w6 := (by first | exact hB | exact below_more (below_new _ (.cells #[.int .i64 0, .slice none 0 0, .slice none 0 0] 27)) hB); (first | have HLB := Lib.hid (HLB.out.below hB') | have HLB := Lib.hid ((BxW.new w5 (.int .i64 0) (.slice none 0 0) (.slice none 0 0) 27).below hB) | skip); (first | have hl6 := HLB.out.c.lt | skip); have hz6 : w5.heap.size ≤ w6.heap.size := hB'.size; have HIs6 := Lib.hid (HIs5.out.trim.below hB'); have HBd6 := Lib.hid (below_more HBd5.out hB'); have HG6d := Lib.hid (HG5d.out.below hB'); have HW6d := Lib.hid (HW5d.out.below hB'); have HBX6 := Lib.hid (HBX5.out.below hB'); have Z6 := HBX6.out; unfold Bx at Z6; have HIt6 := Lib.hid (HIt5.out.below hB'); clear hB hB')
            | (go_at_call 32; refine (leastFrac_some p A5 _ c5 b5 (trimL UP) A6 _ c6 b6 (trimL (lowT p T)) _ (by first | exact HIt6.out | exact HIt6.out.below (below_new _ _)) (by first | exact HIs6.out | exact HIs6.out.below (below_new _ _)) HPU.out HPL.out ge (by first | exact HG6d.out | exact HG6d.out.below (below_new _ _)) RP RT RF HR3.out).mono ?_; rintro e w7 ⟨A3, c3, A4, c4, rfl, hO1, hO2, hap, hB⟩; have hB' : Below w6.heap.size w6 w7 := (by first | exact hB | exact below_more (below_new _ (.cells #[.int .i64 0, .slice none 0 0, .slice none 0 0] 27)) hB); (first | have HLB := Lib.hid (HLB.out.below hB') | have HLB := Lib.hid ((BxW.new w6 (.int .i64 0) (.slice none 0 0) (.slice none 0 0) 27).below hB) | skip); (first | have hl7 := HLB.out.c.lt | skip); have hz7 : w6.heap.size ≤ w7.heap.size := hB'.size; have HO1 := Lib.hid hO1; have HO2 := Lib.hid hO2; have HAP := Lib.hid hap; clear hO1 hO2 hap; have HBd7 := Lib.hid (below_more HBd6.out hB'); have HG7d := Lib.hid (HG6d.out.below hB'); have HW7d := Lib.hid (HW6d.out.below hB'); have HBX7 := Lib.hid (HBX6.out.below hB'); have Z7 := HBX7.out; unfold Bx at Z7; clear hB hB'; (first | (obtain ⟨z0, z1, z2⟩ := HLB.out.c; have zf := HLB.out.fz; have hzl := HLB.out.c.lt) | skip)))
        all_goals
          go_wp2_with (fail)
          go_meet
          first
            | exact ⟨_, A3, c3, A4, c4, rfl, HLB.out.put _ _ _, owns_mono (OIk HO1.out (set3_keep _ _ _ _ _) (fun k' hk e => by have := (HO1.out.lt k' hk).1; first | omega | (simp at this; omega))) (by first | omega | (simp; omega)), owns_mono (OIk HO2.out (set3_keep _ _ _ _ _) (fun k' hk e => by have := (HO2.out.lt k' hk).1; first | omega | (simp at this; omega))) (by first | omega | (simp; omega)), HAP.out, HW7d.out.keep (set3_keep _ _ _ _ _) (fun e => by omega), HBd7.out.trans (set3_far _ _ _ _ _ (by omega) HBd7.out.size)⟩
            | exact ⟨w7.heap.size, A3, c3, A4, c4, rfl, Bx.new _ _ _ _ _, owns_mono (OIb HO1.out (below_new _ _)) (by omega), owns_mono (OIb HO2.out (below_new _ _)) (by omega), HAP.out, HW7d.out.below (below_new _ _), below_more HBd7.out (below_new _ _)⟩
            | trace_state
      case rest =>
      obtain ⟨gB, A3, c3, A4, c4, rfl, hbx, hO1, hO2, hap, hbw, hB⟩ := hcut
      obtain ⟨wo, rfl⟩ : ∃ wo : World, wo = wc := ⟨_, rfl⟩
      have hs2 := HB2.out.size
      have hlo2 := HBW2.out.c.lt
      have HR4 := Lib.hid (show RO wo w2.heap.size (.agg #[.int .i64 RP, .slice A3 RT.length c3, .slice A4 RF.length c4]) RP RT RF from ⟨A3, c3, A4, c4, rfl, hO1, hO2, hap⟩)
      have HB4 := Lib.hid hB
      obtain ⟨z0, z1, z2⟩ := hbx
      obtain ⟨x0, x1, x2⟩ := hbw.c
      have fz := hbw.fz
      clear hO1 hO2 hap hB hbw
      go_wp2_with (fail)
      refine bodyPost_ret (v := .agg #[.int .i64 RP, .slice A3 RT.length c3, .slice A4 RF.length c4]) (by simp [results, Tryd.f9, go_sem, x0, x1, x2]) rfl ?_
      rw [HRR.out]
      exact made_put (g := w.heap.size + 1) HR4.out HB4.out hs2 (by omega) hlo2
end Go.Proofs.YtbpndmcejbiedaaDoor
namespace Go.Proofs.YtbpndmcejbiedaaDoor
open Go.RowKit
theorem run_app_any (w : World) (B : Nat) (g n c : Nat) (xs : List Int) (hown : OI w B (some ⟨g, 0, none⟩) n c xs) (A2 : Option Addr) (m c2 b2 o2 : Nat) (ys : List Int) (h2 : IA w A2 m b2 o2 ys) (hA : A2 = none → m = 0) (hn : n + m ≤ 1000000000) (hB : B ≤ w.heap.size) :
    ∃ (A' : Option Addr) (c' : Nat) (w' : World), (Builtin.append_ #[22, 22] 22 #[.slice (some ⟨g, 0, none⟩) n c, .slice A2 m c2]).run Tryd.prog w = .ok (.slice A' (n + m) c') w' ∧ OI w' B A' (n + m) c' (xs ++ ys) ∧ w.grownBy w' (some g) := by
  obtain ⟨i0, hi, hz0, hz1, hz2⟩ := info_parts infoInt
  by_cases hm : m = 0
  · subst hm
    obtain rfl : ys = [] := List.eq_nil_of_length_eq_zero h2.len
    have hcap : n ≤ c := OI.capLe hown
    have hsrc : Src Tryd.prog i0.size 22 (.slice A2 0 c2) 0 [] w := by
      cases A2 with
      | none => exact Src.ofNil w Tryd.underlying22 c2
      | some a => exact Src.ofSlice w Tryd.underlying22 a 0 c2 [] (by simp) (fun j u h => by simp at h) (fun u h => by cases h)
    have hr := run_append_room_src (P := Tryd.prog) w 22 22 22 3 i0 Tryd.underlying22 hi g 0 n c (.slice A2 0 c2) 0 [] hsrc (by omega) (fun j h => by simp at h) (fun j h => by simp at h)
    refine ⟨_, _, _, hr, ?_, World.grownBy.refl _ _⟩
    rw [List.append_nil]; exact hown
  · obtain rfl := h2.adr (by omega)
    obtain ⟨v', w', hr, h3, h4, _⟩ := run_append_own (P := Tryd.prog) w B 22 22 3 i0 (.int .i64 0) 1 8 Tryd.underlying22 hi hz0 hz1 hz2 rfl (by decide) _ n (ints xs) hown ⟨b2, o2, none⟩ m c2 (ints ys) (by rw [ints_len, h2.len]; omega) h2.src (ints_one ys) (by unfold maxLen; omega) (by omega) hB
    obtain ⟨A', c', rfl⟩ := owns_shape h3
    refine ⟨A', c', w', hr, ?_, h4⟩
    unfold OI
    simpa [ints] using h3
theorem step_app_any {ops : Array Oper} {o : Oper} {a : Act} {w : World} {K : Act → World → Prop} {Q : Exit → Act → World → Prop} {E : Prop} (hg : o.guard = none) (s x : Operand)
    (ho : o.op = .call { callee := .builtin .append, args := #[s, x], argTypes := #[22, 22] }) (hty : o.type = 22)
    (B g n c : Nat) (xs : List Int) (hs : a.eval s = .slice (some ⟨g, 0, none⟩) n c) (hown : OI w B (some ⟨g, 0, none⟩) n c xs) (A2 : Option Addr) (m c2 b2 o2 : Nat) (ys : List Int) (hx : a.eval x = .slice A2 m c2) (h2 : IA w A2 m b2 o2 ys) (hA : A2 = none → m = 0)
    (hn : n + m ≤ 1000000000) (hB : B ≤ w.heap.size)
    (h : ∀ (A' : Option Addr) (c' : Nat) (w' : World), OI w' B A' (n + m) c' (xs ++ ys) → w.grownBy w' (some g) → K (a.put o.dst (.slice A' (n + m) c')) w') :
    if Region.wanted o (yielded ops a.tmps) = true then Oper.wp Tryd.prog o a w K Q else E := by
  have hw : Region.wanted o (yielded ops a.tmps) = true := by simp [Region.wanted, hg]
  rw [if_pos hw]
  obtain ⟨A', c', w', hr, h3, h4⟩ := run_app_any w B g n c xs hown A2 m c2 b2 o2 ys h2 hA hn hB
  unfold Oper.wp execOp
  simp only [ho, hty, resolve, invoke, builtin, Sem.run_bind, Sem.run_pure, Result.andThen_ok, List.map_toArray, List.map_cons, List.map_nil, hs, hx, hr]
  exact h A' c' w' h3 h4
theorem oi_some {w : World} {B n c : Nat} {A : Option Addr} {xs : List Int} (h : OI w B A n c xs) (hn : 0 < n) : ∃ g, A = some ⟨g, 0, none⟩ := by
  rcases h.adr with ⟨_, h0, _⟩ | ⟨g, h1, _⟩
  · omega
  · exact ⟨g, h1⟩
theorem below_undrewI {B : Nat} {w w' : World} (h : Below B w.drew w') : Below B w w' := ⟨h.os, h.tape, h.output, h.size, h.block⟩
theorem IA.freshI {w : World} (x : Int) : IA (w.alloc (.cells #[.int .i64 x] 3)) (some ⟨w.heap.size, 0, none⟩) 1 w.heap.size 0 [x] := by
  refine ⟨rfl, fun _ => rfl, by omega, fun i hi => ?_⟩
  obtain rfl : i = 0 := by omega
  exact ⟨x, rfl, by simp⟩
theorem leastR_some {p : Int} {up low : List Int} {R : Int × List Int × List Int} (h : leastR p up low = some R) : R = (p, (leastL p up low).1, (leastL p up low).2) := by
  unfold leastR leastO at h
  split at h
  · simpa using h.symm
  · cases h
theorem fracOfR_len (p : Int) (T F : List Int) : (fracOfR p T F).2.1.length ≤ 1048576 ∧ (fracOfR p T F).2.2.length ≤ 1048576 := by
  unfold fracOfR
  split
  · exact leastR_len _ _ _
  · simp
set_option maxRecDepth 100000 in
set_option maxHeartbeats 16000000 in
theorem specFracOf (v : Value) (p : Int) (T F : List Int) (w : World) (h : RV w v p T F) :
    Calls Tryd.prog 7 #[v] w (MadeR (fracOfR p T F).1 (fracOfR p T F).2.1 (fracOfR p T F).2.2 w) := by
  obtain ⟨A, n, c, b, o, A', n', c', b', o', rfl, g1, g2⟩ := h
  have hbx := (Bx.new w (.int .i64 p) (.slice A n c) (.slice A' n' c') 29).below (below_new _ (.cells #[.int .i64 0, .slice none 0 0, .slice none 0 0] 27))
  have hbw := BxW.new (w.alloc (.cells #[.int .i64 p, .slice A n c, .slice A' n' c'] 29)) (.int .i64 0) (.slice none 0 0) (.slice none 0 0) 27
  rw [World.size_alloc] at hbw
  have hB0 := ((Below.refl w.heap.size w).alloc (Nat.le_refl _) (.cells #[.int .i64 p, .slice A n c, .slice A' n' c'] 29)).alloc (by simp) (.cells #[.int .i64 0, .slice none 0 0, .slice none 0 0] 27)
  have HV0 := Lib.hid (show RV _ (.agg #[.int .i64 p, .slice A n c, .slice A' n' c']) p T F from ⟨_, _, _, _, _, _, _, _, _, _, rfl, g1.below hB0, g2.below hB0⟩)
  have H := Lib.hid (g1.below hB0)
  have H' := Lib.hid (g2.below hB0)
  have HBX := Lib.hid hbx
  have HBW := Lib.hid hbw
  have HB0 := Lib.hid hB0
  clear g1 g2 hbx hbw hB0
  rcases hv : recB p T F
  · have HV := Lib.hid hv
    have HE := Lib.hid (show fracOfR p T F = (0, [], []) by unfold fracOfR; rw [if_neg (by simp [hv])])
    clear hv
    go_enter Tryd.func7, Tryd.ntmps7
    go_wp2_with (go_at_call 23; refine (specRecValid _ p T F _ HV0.out).mono ?_; rintro e w1 ⟨rfl, hB⟩; rw [HV.out]; have HB1 := Lib.hid (below_more HB0.out hB); have hbw := HBW.out.below hB; have x0 := hbw.c.1; have x1 := hbw.c.2.1; have x2 := hbw.c.2.2; have fz := hbw.fz; clear hB hbw)
    refine bodyPost_ret (v := .agg #[.int .i64 0, .slice none 0 0, .slice none 0 0]) (by simp [results, Tryd.f7, go_sem, x0, x1, x2]) rfl ?_
    rw [HE.out]
    exact made_zero HB1.out (by omega)
  obtain ⟨hp, h6, hl, hT, hF⟩ := recB_true hv
  have HV := Lib.hid hv
  go_enter Tryd.func7, Tryd.ntmps7
  go_wp2_with (go_at_call 23; refine (specRecValid _ p T F _ HV0.out).mono ?_; rintro e w1 ⟨rfl, hB⟩; rw [HV.out]; have HBX1 := Lib.hid (HBX.out.below hB); have HBX2 := Lib.hid (HBX1.out.below (below_new w1 (.cells #[.int .i64 1] 3))); have y0 := HBX2.out.1; have y1 := HBX2.out.2.1; have y2 := HBX2.out.2.2; have HBW1 := Lib.hid (HBW.out.below hB); have HB1 := Lib.hid (below_more HB0.out hB); have H1 := Lib.hid (H.out.below hB); have H1' := Lib.hid (H'.out.below hB); have hlo := HBW1.out.c.lt; clear hB)
  obtain ⟨o1, o2, o3, o4, o5, o6⟩ := fracOf_law hv
  have HLS := Lib.hid (serB_true o1).2.2
  have HFS := Lib.hid (serB_true o2).2.2
  have ho7 : convR p (lowT p T) F n' = serT p (lowT p T) F := by
    unfold serT
    rw [if_pos ⟨o1, o2⟩]
    unfold serL
    rw [show min (lowT p T).length F.length = n' from by have e1 := H'.out.len; have e2 : (lowT p T).length = T.length + 1 := by simp [lowT]
                                                         omega]
  have HZL := Lib.hid (show co (trimL (lowT p T)) 0 ≠ 0 by rw [co_trim]; simp [co, lowT])
  have HLN := Lib.hid (show (trimL (lowT p T)).length ≠ 0 from fun h0 => HZL.out (co_far (by omega)))
  obtain ⟨UP, hUP⟩ : ∃ U, serT p (lowT p T) F = U := ⟨_, rfl⟩
  rw [hUP] at o3 o5 o6 ho7
  obtain ⟨⟨RP, RT, RF⟩, hR⟩ : ∃ R, fracOfR p T F = R := ⟨_, rfl⟩
  rw [hR] at o6
  have HRR := Lib.hid hR
  have HS := Lib.hid ho7
  have HPU := Lib.hid o3
  have HPL := Lib.hid o4
  have HUL := Lib.hid (show UP.length ≤ 1048576 by omega)
  have HLW := Lib.hid (show (lowT p T).length = T.length + 1 by simp [lowT])
  have hlr := leastR_some o6
  obtain rfl : p = RP := (congrArg Prod.fst hlr).symm
  have HLE := Lib.hid (show (leastL p (trimL UP) (trimL (lowT p T))).1 = RT ∧ (leastL p (trimL UP) (trimL (lowT p T))).2 = RF from ⟨(congrArg (fun x => x.2.1) hlr).symm, (congrArg (fun x => x.2.2) hlr).symm⟩)
  clear hlr
  have hu6 : UP.length ≤ 6 := o5
  clear o1 o2 o3 o4 o5 o6 ho7 hUP hR
  have hpb := prime_ge hp
  have HL := Lib.hid H.out.len
  have hlen := H.out.len
  have HT := Lib.hid hT
  have HF := Lib.hid hF
  have HPR := Lib.hid hp
  have hn6 : n ≤ 6 := by omega
  have hn6' : n' ≤ 6 := by have := H'.out.len; omega
  clear hv hT hF hl h6 hp hlen y0 y1 y2
  go_loopw [3, 4] (fun lw i wr => ∃ (k g5 cl : Nat), k ≤ n ∧ i = .int .i64 k ∧ lw = .slice (some ⟨g5, 0, none⟩) (k + 1) cl ∧ OI wr w1.heap.size (some ⟨g5, 0, none⟩) (k + 1) cl ((lowT p T).take (k + 1)) ∧ Below w1.heap.size w1 wr) (fun _ i _ => n - (intOf i).toNat)
  case atStart =>
    refine ⟨0, w1.heap.size, 1, Nat.zero_le _, rfl, rfl, ?_, (Below.refl _ _).alloc (Nat.le_refl _) _⟩
    have h := World.ownsRow_lit (e := 3) (base := w1.heap.size) (size := 1) w1 #[.int .i64 1] 1 (Nat.le_refl _) (by unfold maxLen; omega) (by simp)
    unfold OI ints lowT
    exact h
  case round =>
    obtain ⟨k, g5, cl, hk, rfl, rfl, hO, hB⟩ := hrel
    have HO := Lib.hid hO
    have HBr := Lib.hid hB
    have HBXr := Lib.hid (HBX1.out.below hB)
    have Hr := Lib.hid (H1.out.below hB)
    clear hO hB
    by_cases hlt : k < n
    · obtain rfl := Hr.out.adr (by omega)
      obtain ⟨x, hx, hc⟩ := Hr.out.cell k hlt
      have hxb := numB_bd (HT.out x (List.mem_of_getElem? hx))
      obtain ⟨y0, y1, y2⟩ := HBXr.out
      have hp2 := hxb.2.2.1
      have hp13 := hxb.2.2.2
      obtain ⟨u, hu⟩ : ∃ u, -x % p = u := ⟨_, rfl⟩
      have HST := Lib.hid (show (lowT p T).take (k + 1) ++ [u] = (lowT p T).take (k + 1 + 1) by rw [lowT_take hx, hu])
      have HU := Lib.hid hu
      have hne5 : ¬ b = g5 := fun e => by
        have h1 := (HO.out.lt g5 rfl).1
        obtain ⟨_, _, hc0⟩ := H1.out.cell k (by omega)
        have h2 : b < w1.heap.size := cell_lt hc0
        omega
      have hwn : IntKind.i64.wrap (-x) = -x := IntWalk.i64_in _ ⟨by omega, by omega⟩
      have hs := HBr.out.size
      clear hu hx
      go_wp2_with (fail)
      have Z0 := And.intro y0 (And.intro y1 hc)
      have Zd : wr.drew.cell? ⟨w.heap.size, 0, none⟩ = some (.int .i64 p) ∧ wr.drew.cell? ⟨w.heap.size, 1, none⟩ = some (.slice (some ⟨b, o, none⟩) n c) ∧ wr.drew.cell? ⟨b, o + k, none⟩ = some (.int .i64 x) := Z0
      go_region_held3 (fun w' => w'.cell? ⟨w.heap.size, 0, none⟩ = some (.int .i64 p) ∧ w'.cell? ⟨w.heap.size, 1, none⟩ = some (.slice (some ⟨b, o, none⟩) n c) ∧ w'.cell? ⟨b, o + k, none⟩ = some (.int .i64 x)) (first | assumption | exact ZE | exact ZL | exact Zd | exact Z0 | go_keep)
        (first
          | (go_at_call 24; refine (l1Mod_is HU.out _ (by omega) (by omega)).mono ?_; rintro e wL ⟨rfl, hE⟩; have hBL : Below wr.heap.size wr wL := below_undrewI (below_eq hE); have HBL := Lib.hid hBL; have HHL := Lib.hid (HBXr.out.below hBL); have HOL := Lib.hid (owns_below HO.out hBL); have ZL := And.intro HHL.out.1 (And.intro HHL.out.2.1 ((keep_of_below hBL).cell hc (fun h => h))); have hsL := hBL.size; clear hE hBL)
          | (refine step_app_any rfl (.tmp 18) (.tmp 28) rfl rfl w1.heap.size g5 (k + 1) cl ((lowT p T).take (k + 1)) rfl (World.ownsRow.alloc HOL.out _) (some ⟨wL.heap.size, 0, none⟩) 1 1 wL.heap.size 0 [u] rfl (IA.freshI u) (by simp) (by omega) (by simp; omega) ?_; intro A6 c6 w6 hO6 hg6; have hk6 := (keep_of_below ((Below.refl _ wL).alloc (Nat.le_refl _) (.cells #[.int .i64 u] 3)) |>.mono (T := fun g => g = g5) (fun _ _ h => h.elim)).trans ((keep_grown hg6).mono (fun g _ hg => by cases hg; rfl)); have hne0 : ¬ w.heap.size = g5 := fun e => by { have h1 := (HOL.out.lt g5 rfl).1; have h2 := HBX1.out.lt; omega }; have ZE := And.intro (hk6.cell ZL.1 hne0) (And.intro (hk6.cell ZL.2.1 hne0) (hk6.cell ZL.2.2 (fun e => hne5 (by have e' : b = g5 := e; exact e')))); have HO6 := Lib.hid hO6; have HK6 := Lib.hid hk6; clear hO6 hg6 hk6))
      all_goals
        obtain ⟨g6, rfl⟩ := oi_some HO6.out (by omega)
        rw [HST.out] at HO6
        go_wp2_with (fail)
        go_roundw
        case rel => exact ⟨k + 1, g6, c6, by omega, by go_num, rfl, HO6.out, HBr.out.trans ((HBL.out.mono hs).trans (HK6.out.below (by omega) (fun g hg => by have := (HO.out.lt g5 rfl).1; have hg' : g = g5 := hg; omega)))⟩
        case measure => simp [intOf]; omega
    · obtain rfl : k = n := by omega
      obtain ⟨y0, y1, y2⟩ := HBXr.out
      have hlw : (lowT p T).take (k + 1) = lowT p T := List.take_of_length_le (by rw [HLW.out, HL.out]; exact Nat.le_refl _)
      rw [hlw] at HO
      obtain ⟨bl, hIl⟩ := OI.ia HO.out
      obtain rfl : g5 = bl := by have := hIl.adr (by omega); simpa using this
      have hcl := OI.capLe HO.out
      have HBd := Lib.hid (below_more HB1.out HBr.out)
      have HIld := Lib.hid hIl
      have HFd := Lib.hid (H1'.out.below HBr.out)
      have HBWd := Lib.hid (HBW1.out.below HBr.out)
      clear hIl hlw
      go_wp2_with (first
          | (go_at_call 26; refine (specSeries p (some ⟨g5, 0, none⟩) (k + 1) cl g5 0 (lowT p T) A' n' c' b' o' F n' _ HIld.out HFd.out HPR.out HLS.out HFS.out (by omega) (by omega) (by omega)).mono ?_; rw [HS.out]; rintro e w3 ⟨A5, c5, rfl, hO, hB⟩; obtain ⟨b5, hI, hA5⟩ := OI.iaA hO; have hc5 := OI.capLe hO; have HI5 := Lib.hid hI; have HB3 := Lib.hid (below_more HBd.out hB); have HBX3 := Lib.hid (HBXr.out.below hB); have HBW3 := Lib.hid (HBWd.out.below hB); have HIl3 := Lib.hid (HIld.out.below hB); clear hO hB hI)
          | (go_at_call 25; refine (specTrim A5 UP.length c5 b5 0 UP _ HI5.out (by omega) hc5 hA5).mono ?_; rintro e w4 ⟨A6, c6, rfl, hO, hB⟩; obtain ⟨b6, hI⟩ := hO.ia; have HI6 := Lib.hid hI; have HB4 := Lib.hid (below_more HB3.out hB); have HBX4 := Lib.hid (HBX3.out.below hB); have HBW4 := Lib.hid (HBW3.out.below hB); have HIl4 := Lib.hid (HIl3.out.below hB); clear hO hB hI y0 y1 y2; obtain ⟨y0, y1, y2⟩ := HBX4.out))
      all_goals
        have HB4d := Lib.hid HB4.out.drew
        have HI6d := Lib.hid (HI6.out.below (below_new_drew _))
        have HIl4d := Lib.hid (HIl4.out.below (below_new_drew _))
        have HBX4d := Lib.hid HBX4.out.drew
        have HBW4d := Lib.hid HBW4.out.drew
        have YS := HBX4.out
        have Yd := HBX4.out.drew
        unfold Bx at YS Yd
        go_region_held3 (fun w' => w'.cell? ⟨w.heap.size, 0, none⟩ = some (.int .i64 p) ∧ w'.cell? ⟨w.heap.size, 1, none⟩ = some (.slice A k c) ∧ w'.cell? ⟨w.heap.size, 2, none⟩ = some (.slice A' n' c')) (first | assumption | exact ZD | exact ZC | exact Yd | exact YS | go_keep)
          (first
            | (go_at_call 25; refine (specTrim (some ⟨g5, 0, none⟩) (k + 1) cl g5 0 (lowT p T) _ HIl4d.out (by omega) hcl (.inr rfl)).mono ?_; rintro e w5 ⟨A7, c7, rfl, hO, hB⟩; obtain ⟨b7, hI⟩ := hO.ia; have HI7 := Lib.hid hI; have HI6e := Lib.hid (HI6d.out.below hB); have HB5 := Lib.hid (below_more HB4d.out hB); have HBX5 := Lib.hid (HBX4d.out.below hB); have HBW5 := Lib.hid (HBW4d.out.below hB); have ZC := HBX5.out; unfold Bx at ZC; clear hO hB hI)
            | (go_at_call 27; refine (specLeast p A6 _ c6 b6 0 (trimL UP) A7 _ c7 b7 0 (trimL (lowT p T)) _ HI6e.out HI7.out HPU.out HPL.out HLN.out HZL.out).mono ?_; rw [HLE.out.1, HLE.out.2]; rintro e w6 ⟨v9, rfl, hO, hB⟩; have hsz6 := HB5.out.size; have hlo6 := HBW5.out.c.lt; obtain ⟨A3, c3, A4, c4, rfl, hO1, hO2, hap⟩ := hO; have HO9 := Lib.hid (And.intro hO1 (And.intro hO2 hap)); have HB6 := Lib.hid (below_more HB5.out hB); have HBW6 := Lib.hid (HBW5.out.below hB); have HBX6 := Lib.hid (HBX5.out.below hB); have ZD := HBX6.out; unfold Bx at ZD; obtain ⟨x0, x1, x2⟩ := HBW6.out.c; have fz := HBW6.out.fz; clear hO1 hO2 hap hB))
        all_goals
          go_wp2_with (fail)
          refine bodyPost_ret (v := .agg #[.int .i64 p, .slice A3 RT.length c3, .slice A4 RF.length c4]) (by simp [results, Tryd.f7, go_sem, x0, x1, x2]) rfl ?_
          rw [HRR.out]
          exact made_put (g := w.heap.size + 1) ⟨A3, c3, A4, c4, rfl, HO9.out.1, HO9.out.2.1, HO9.out.2.2⟩ HB6.out hsz6 (by omega) hlo6
end Go.Proofs.YtbpndmcejbiedaaDoor

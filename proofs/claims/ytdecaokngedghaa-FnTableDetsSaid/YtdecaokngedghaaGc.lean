/-
  Plain mathematics: sums, rows that a matrix takes to 0, what the elimination reaches.
  Plain mathematics: the elimination keeps what is taken to 0, and reaches a form of unit columns.
  Plain mathematics: the form is told by what is taken to 0; the rank is the least inner length of a product; rows as columns have the same rank.
  Plain mathematics: the rank is the least inner length of a product.
  Plain mathematics: products, rows as columns, ranks of lists of rows; the kernel's rows.
  Plain mathematics: the form of the form; rows added to another one; equations.
-/
import Derived.Test.YtdecaokngedghaaElim
import Derived.Test.YtdecaokngedghaaSig
import Derived.Test.YtdecaokngedghaaGb
import Derived.Test.YtdecaokngedghaaGa
namespace Go.Proofs.Ytdecaokngedghaa
/-- the numbers v, one a column, whose sum with each row is 0 -/
def Ker (p : Int) (n l : Nat) (f : Nat → Nat → Int) (v : Nat → Int) : Prop := ∀ i, i < n → p ∣ sigN l (fun j => f i j * v j)
theorem getQ (l : List (List Int)) (q : Nat) : l.getD q [] = (l[q]?).getD [] := List.getD_eq_getElem?_getD
theorem at2_swap {M : List (List Int)} {i j : Nat} (hi : i < M.length) (hj : j < M.length) (a b : Nat) : at2 (swapM M i j) a b = if a = j then at2 M i b else if a = i then at2 M j b else at2 M a b := by
  unfold at2 swapM
  by_cases h1 : a = j
  · subst h1
    rw [if_pos rfl, getQ, List.getElem?_set_self (by simpa using hj)]; rfl
  · rw [if_neg h1, getQ, List.getElem?_set_ne (fun e => h1 e.symm)]
    by_cases h2 : a = i
    · subst h2
      rw [if_pos rfl, List.getElem?_set_self hi]; rfl
    · rw [if_neg h2, List.getElem?_set_ne (fun e => h2 e.symm), ← getQ]
theorem at2_setRow {M : List (List Int)} {i : Nat} {row : List Int} (hi : i < M.length) (a b : Nat) : at2 (M.set i row) a b = if a = i then row.getD b 0 else at2 M a b := by
  unfold at2
  by_cases h : a = i
  · subst h; rw [if_pos rfl, getQ, List.getElem?_set_self hi]; rfl
  · rw [if_neg h, getQ, List.getElem?_set_ne (fun e => h e.symm), ← getQ]
theorem scaleRow_at (p t : Int) (row : List Int) (b : Nat) : (scaleRow p t row).getD b 0 = row.getD b 0 * t % p := by
  unfold scaleRow
  rw [List.getD_eq_getElem?_getD, List.getElem?_map, List.getD_eq_getElem?_getD]
  cases row[b]? <;> simp
theorem subRow_at (p t : Int) (xs ys : List Int) (h : xs.length = ys.length) (b : Nat) : (subRow p t xs ys).getD b 0 = (xs.getD b 0 - t * ys.getD b 0) % p := by
  unfold subRow
  rw [List.getD_eq_getElem?_getD, List.getElem?_zipWith, List.getD_eq_getElem?_getD, List.getD_eq_getElem?_getD]
  by_cases hb : b < xs.length
  · rw [List.getElem?_eq_getElem hb, List.getElem?_eq_getElem (by omega)]; rfl
  · rw [List.getElem?_eq_none (by omega), List.getElem?_eq_none (by omega)]; simp
theorem at2_clear {p : Int} {l : Nat} {M : List (List Int)} (h : VM p l M) {top col : Nat} (ht : top < M.length) {a : Nat} (ha : a < M.length) (b : Nat) :
    at2 (clearM p M top col) a b = if a = top then at2 M a b else (at2 M a b - at2 M a col * at2 M top b) % p := by
  have e : at2 (clearM p M top col) a b = (clearRow p M top col a).getD b 0 := by
    unfold at2; rw [getQ, clearM_get _ _ _ _ _ ha]; rfl
  rw [e]
  unfold clearRow
  split
  · rfl
  · rw [subRow_at _ _ _ _ (by rw [(h.getD ha).1, (h.getD ht).1])]; rfl
theorem at2_choose {p : Int} {M : List (List Int)} {r top col : Nat} (hr : r < M.length) (ht : top < M.length) (a b : Nat) :
    at2 (chooseM p M r top col) a b = if a = top then at2 M r b * invM p (at2 M r col) % p else if a = r then at2 M top b else at2 M a b := by
  have hs : (swapM M r top).length = M.length := swapM_len _ _ _
  have e0 : ∀ b, ((swapM M r top).getD top []).getD b 0 = at2 M r b := fun b => by
    have := at2_swap hr ht top b
    rw [if_pos rfl] at this; exact this
  unfold chooseM
  rw [at2_setRow (by rw [hs]; exact ht)]
  by_cases h : a = top
  · rw [if_pos h, if_pos h, scaleRow_at, e0]
    have : at2 (swapM M r top) top col = at2 M r col := e0 col
    rw [this]
  · rw [if_neg h, if_neg h, at2_swap hr ht, if_neg h]
end Go.Proofs.Ytdecaokngedghaa
namespace Go.Proofs.Ytdecaokngedghaa
/-- where a row comes from when two are exchanged -/
def swp (r top a : Nat) : Nat := if a = top then r else if a = r then top else a
theorem swp_swp (r top a : Nat) : swp r top (swp r top a) = a := by
  unfold swp
  by_cases h1 : a = top <;> by_cases h2 : a = r <;> simp_all
  all_goals (split <;> simp_all)
/-- the matrix behind one step of the elimination -/
def stepM (p : Int) (N : List (List Int)) (r top c : Nat) : List (List Int) := clearM p (chooseM p N r top c) top c
theorem stepM_top {p : Int} {l : Nat} {N : List (List Int)} (hp : primeB p = true) (h : VM p l N) {r top c : Nat} (hr : r < N.length) (ht : top < N.length) (b : Nat) :
    at2 (stepM p N r top c) top b = at2 N r b * invM p (at2 N r c) % p := by
  unfold stepM
  rw [at2_clear (h.choose hp hr ht) (by rw [chooseM_len]; exact ht) (by rw [chooseM_len]; exact ht), if_pos rfl, at2_choose hr ht, if_pos rfl]
theorem stepM_at {p : Int} {l : Nat} {N : List (List Int)} (hp : primeB p = true) (h : VM p l N) {r top c : Nat} (hr : r < N.length) (ht : top < N.length) {a : Nat} (ha : a < N.length) (hat : a ≠ top) (b : Nat) :
    at2 (stepM p N r top c) a b = (at2 N (swp r top a) b - at2 N (swp r top a) c * at2 (stepM p N r top c) top b) % p := by
  have e : ∀ b, at2 (chooseM p N r top c) a b = at2 N (swp r top a) b := fun b => by
    rw [at2_choose hr ht, if_neg hat]
    unfold swp
    rw [if_neg hat]
    split <;> rfl
  rw [stepM_top hp h hr ht]
  unfold stepM
  rw [at2_clear (h.choose hp hr ht) (by rw [chooseM_len]; exact ht) (by rw [chooseM_len]; exact ha), if_neg hat, e, e, at2_choose hr ht, if_pos rfl]
theorem stepM_len (p : Int) (N : List (List Int)) (r top c : Nat) : (stepM p N r top c).length = N.length := by unfold stepM; rw [clearM_len, chooseM_len]
theorem swp_lt {r top a n : Nat} (hr : r < n) (ht : top < n) (ha : a < n) : swp r top a < n := by
  unfold swp
  split
  · exact hr
  · split
    · exact ht
    · exact ha
theorem stepM_ker {p : Int} {l : Nat} {N : List (List Int)} (hp : primeB p = true) (h : VM p l N) {r top c : Nat} (hr : r < N.length) (ht : top < N.length) (hu : p ∣ at2 N r c * invM p (at2 N r c) - 1) (v : Nat → Int) :
    Ker p N.length l (at2 (stepM p N r top c)) v ↔ Ker p N.length l (at2 N) v := by
  obtain ⟨u, hu'⟩ : ∃ u, invM p (at2 N r c) = u := ⟨_, rfl⟩
  have htop : p ∣ sigN l (fun j => at2 (stepM p N r top c) top j * v j) - u * sigN l (fun j => at2 N r j * v j) := by
    rw [← sigN_mul]
    refine sigN_near fun k _ => ?_
    rw [stepM_top hp h hr ht, hu', show at2 N r k * u % p * v k - u * (at2 N r k * v k) = (at2 N r k * u % p - at2 N r k * u) * v k by grind]
    exact dvd_mulR (near_mod _ _) _
  have hrow : ∀ a, a < N.length → a ≠ top → p ∣ sigN l (fun j => at2 (stepM p N r top c) a j * v j) - (sigN l (fun j => at2 N (swp r top a) j * v j) - at2 N (swp r top a) c * sigN l (fun j => at2 (stepM p N r top c) top j * v j)) := by
    intro a ha hat
    rw [← sigN_mul, ← sigN_sub]
    refine sigN_near fun k _ => ?_
    rw [stepM_at hp h hr ht ha hat]
    obtain ⟨y, hy⟩ : ∃ y, at2 (stepM p N r top c) top k = y := ⟨_, rfl⟩
    rw [hy]
    obtain ⟨z, hz⟩ : ∃ z, at2 N (swp r top a) k = z := ⟨_, rfl⟩
    obtain ⟨t, htt⟩ : ∃ t, at2 N (swp r top a) c = t := ⟨_, rfl⟩
    rw [hz, htt, show (z - t * y) % p * v k - (z * v k - t * (y * v k)) = ((z - t * y) % p - (z - t * y)) * v k by grind]
    exact dvd_mulR (near_mod _ _) _
  rw [hu'] at hu
  constructor
  · intro hk
    have h0 : p ∣ u * sigN l (fun j => at2 N r j * v j) := (near_move htop).1 (hk top ht)
    have hS : p ∣ sigN l (fun j => at2 N r j * v j) := by
      obtain ⟨S, hS⟩ : ∃ S, sigN l (fun j => at2 N r j * v j) = S := ⟨_, rfl⟩
      rw [hS] at h0 ⊢
      obtain ⟨x, hx⟩ : ∃ x, at2 N r c = x := ⟨_, rfl⟩
      rw [hx] at hu
      have h1 := Int.dvd_sub (dvd_mulL h0 x) (dvd_mulR hu S)
      rwa [show x * (u * S) - (x * u - 1) * S = S by grind] at h1
    intro i hi
    by_cases hir : i = r
    · subst hir; exact hS
    · have hs : swp r top i ≠ top := by
        intro e
        have := swp_swp r top i
        rw [e] at this
        unfold swp at this
        rw [if_pos rfl] at this
        exact hir this.symm
      have h1 := hrow (swp r top i) (swp_lt hr ht hi) hs
      rw [swp_swp] at h1
      have h2 := (near_move h1).1 (hk _ (swp_lt hr ht hi))
      have h3 := Int.dvd_add h2 (dvd_mulL (hk top ht) (at2 N i c))
      obtain ⟨T, hT⟩ : ∃ T, sigN l (fun j => at2 (stepM p N r top c) top j * v j) = T := ⟨_, rfl⟩
      rw [hT] at h3
      rwa [show sigN l (fun j => at2 N i j * v j) - at2 N i c * T + at2 N i c * T = sigN l (fun j => at2 N i j * v j) by omega] at h3
  · intro hk
    have h0 : p ∣ sigN l (fun j => at2 (stepM p N r top c) top j * v j) := (near_move htop).2 (dvd_mulL (hk r hr) u)
    intro a ha
    by_cases hat : a = top
    · subst hat; exact h0
    · exact (near_move (hrow a ha hat)).2 (Int.dvd_sub (hk _ (swp_lt hr ht ha)) (dvd_mulL h0 _))
/-- unit columns, rows that begin behind each other, rows of 0 -/
structure Red (n c : Nat) (f : Nat → Nat → Int) (hs : List Nat) : Prop where
  lt : ∀ k, k < hs.length → hs.getD k 0 < c
  inc : ∀ k k', k < k' → k' < hs.length → hs.getD k 0 < hs.getD k' 0
  le : hs.length ≤ n
  one : ∀ k, k < hs.length → ∀ i, i < n → f i (hs.getD k 0) = if i = k then 1 else 0
  low : ∀ i, hs.length ≤ i → i < n → ∀ j, j < c → f i j = 0
  pre : ∀ k, k < hs.length → ∀ j, j < hs.getD k 0 → f k j = 0
theorem getD_snoc {hs : List Nat} {c k : Nat} : (hs ++ [c]).getD k 0 = if k < hs.length then hs.getD k 0 else if k = hs.length then c else 0 := by
  simp only [List.getD_eq_getElem?_getD]
  by_cases h : k < hs.length
  · rw [if_pos h, List.getElem?_append_left h]
  · rw [if_neg h, List.getElem?_append_right (by omega)]
    by_cases h2 : k = hs.length
    · subst h2; simp
    · rw [if_neg h2, List.getElem?_eq_none (by simp; omega)]; rfl
theorem mod_01 {p : Int} (hp : 2 ≤ p) (b : Prop) [Decidable b] : (if b then (1 : Int) else 0) % p = if b then 1 else 0 := by
  split
  · exact Int.emod_eq_of_lt (by omega) (by omega)
  · simp
theorem Red.step {p : Int} {l : Nat} {N : List (List Int)} (hp : primeB p = true) (h : VM p l N) {hs : List Nat} {c r : Nat} (hR : Red N.length c (at2 N) hs) (hr1 : hs.length ≤ r) (hr : r < N.length) (hx : at2 N r c * invM p (at2 N r c) % p = 1) :
    Red N.length (c + 1) (at2 (stepM p N r hs.length c)) (hs ++ [c]) := by
  have hpb := prime_ge hp
  have ht : hs.length < N.length := by omega
  have hT := stepM_top hp h hr ht (c := c)
  have hA := fun {a : Nat} (ha : a < N.length) (hat : a ≠ hs.length) => stepM_at hp h hr ht (c := c) ha hat
  have top0 : ∀ j, j < c → at2 (stepM p N r hs.length c) hs.length j = 0 := fun j hj => by rw [hT, hR.low r hr1 hr j hj]; simp
  have topc : at2 (stepM p N r hs.length c) hs.length c = 1 := by rw [hT, hx]
  have colc : ∀ a, a < N.length → a ≠ hs.length → at2 (stepM p N r hs.length c) a c = 0 := fun a ha hat => by
    rw [hA ha hat, topc, Int.mul_one, Int.sub_self]; simp
  have oth : ∀ a, a < N.length → a ≠ hs.length → ∀ j, j < c → at2 (stepM p N r hs.length c) a j = at2 N (swp r hs.length a) j % p := fun a ha hat j hj => by
    rw [hA ha hat, top0 j hj, Int.mul_zero, Int.sub_zero]
  have sge : ∀ a, hs.length ≤ a → hs.length ≤ swp r hs.length a := fun a ha => by
    unfold swp; split
    · exact hr1
    · split <;> omega
  have slo : ∀ a, a < hs.length → swp r hs.length a = a := fun a ha => by unfold swp; rw [if_neg (by omega), if_neg (by omega)]
  refine ⟨fun k hk => ?_, fun k k' hkk hk' => ?_, by simp; omega, fun k hk i hi => ?_, fun i hi1 hi j hj => ?_, fun k hk j hj => ?_⟩
  · rw [getD_snoc]
    simp at hk
    split
    · have := hR.lt k (by omega); omega
    · split <;> omega
  · simp at hk'
    rw [getD_snoc, getD_snoc, if_pos (by omega)]
    by_cases h2 : k' < hs.length
    · rw [if_pos h2]; exact hR.inc k k' hkk h2
    · rw [if_neg h2, if_pos (by omega)]; exact hR.lt k (by omega)
  · simp at hk
    rw [getD_snoc]
    by_cases h2 : k < hs.length
    · rw [if_pos h2]
      have hlt := hR.lt k h2
      by_cases hit : i = hs.length
      · subst hit
        rw [top0 _ hlt, if_neg (by omega)]
      · rw [oth i hi hit _ hlt, hR.one k h2 _ (swp_lt hr ht hi), mod_01 hpb.1]
        by_cases hil : i < hs.length
        · rw [slo i hil]
        · have := sge i (by omega)
          rw [if_neg (by omega), if_neg (by omega)]
    · rw [if_neg h2, if_pos (by omega)]
      obtain rfl : k = hs.length := by omega
      by_cases hit : i = hs.length
      · subst hit; rw [topc, if_pos rfl]
      · rw [colc i hi hit, if_neg hit]
  · simp at hi1
    by_cases hjc : j = c
    · subst hjc; exact colc i hi (by omega)
    · rw [oth i hi (by omega) j (by omega), hR.low _ (sge i (by omega)) (swp_lt hr ht hi) j (by omega)]; simp
  · simp at hk
    rw [getD_snoc] at hj
    by_cases h2 : k < hs.length
    · rw [if_pos h2] at hj
      have hlt := hR.lt k h2
      rw [oth k (by omega) (by omega) j (by omega), slo k h2, hR.pre k h2 j hj]; simp
    · rw [if_neg h2, if_pos (by omega)] at hj
      obtain rfl : k = hs.length := by omega
      exact top0 j hj
end Go.Proofs.Ytdecaokngedghaa
namespace Go.Proofs.Ytdecaokngedghaa
theorem elim_some {p : Int} {M : List (List Int)} {c r : Nat} (h : firstW (elim p M c).1 c ((elim p M c).1.length - (elim p M c).2.length) (elim p M c).2.length = some r) :
    elim p M (c + 1) = (stepM p (elim p M c).1 r (elim p M c).2.length c, (elim p M c).2 ++ [c]) := by
  show stepE p (elim p M c).1 (elim p M c).2 c = _
  unfold stepE
  rw [h]; rfl
theorem elim_none {p : Int} {M : List (List Int)} {c : Nat} (h : firstW (elim p M c).1 c ((elim p M c).1.length - (elim p M c).2.length) (elim p M c).2.length = none) : elim p M (c + 1) = elim p M c := by
  show stepE p (elim p M c).1 (elim p M c).2 c = _
  unfold stepE
  rw [h]
theorem elim_red {p : Int} (hp : primeB p = true) {l : Nat} {M : List (List Int)} (h : VM p l M) : ∀ c, c ≤ l → Red M.length c (at2 (elim p M c).1) (elim p M c).2
  | 0, _ => ⟨fun k hk => by simp [elim] at hk, fun k k' _ hk' => by simp [elim] at hk', by simp [elim], fun k hk => by simp [elim] at hk, fun i _ _ j hj => absurd hj (by omega), fun k hk => by simp [elim] at hk⟩
  | c + 1, hc => by
    have hR := elim_red hp h c (by omega)
    obtain ⟨h1, h2, h3, _⟩ := elim_inv hp h c
    rcases hf : firstW (elim p M c).1 c ((elim p M c).1.length - (elim p M c).2.length) (elim p M c).2.length with _ | r
    · rw [elim_none hf]
      refine ⟨fun k hk => by have := hR.lt k hk; omega, hR.inc, hR.le, hR.one, fun i hi1 hi j hj => ?_, hR.pre⟩
      by_cases e : j = c
      · subst e; exact firstW_none hf i hi1 (by omega)
      · exact hR.low i hi1 hi j (by omega)
    · obtain ⟨g1, g2, g3, _⟩ := firstW_some hf
      rw [elim_some hf]
      have hn := numB_true (h2.at2 (i := r) (j := c) (by omega) (by omega))
      rw [← h1] at hR ⊢
      exact hR.step hp h2 g1 (by omega) (inv_ok hp hn.2.1 hn.2.2 g3)
theorem elim_ker {p : Int} (hp : primeB p = true) {l : Nat} {M : List (List Int)} (h : VM p l M) (v : Nat → Int) : ∀ c, c ≤ l → (Ker p M.length l (at2 (elim p M c).1) v ↔ Ker p M.length l (at2 M) v)
  | 0, _ => Iff.rfl
  | c + 1, hc => by
    have hi := elim_ker hp h v c (by omega)
    obtain ⟨h1, h2, h3, _⟩ := elim_inv hp h c
    rcases hf : firstW (elim p M c).1 c ((elim p M c).1.length - (elim p M c).2.length) (elim p M c).2.length with _ | r
    · rw [elim_none hf]; exact hi
    · obtain ⟨g1, g2, g3, _⟩ := firstW_some hf
      rw [elim_some hf]
      have hn := numB_true (h2.at2 (i := r) (j := c) (by omega) (by omega))
      have hx := inv_ok hp hn.2.1 hn.2.2 g3
      rw [← h1] at hi ⊢
      refine (stepM_ker hp h2 (by omega) (by omega) ?_ v).trans hi
      have := near_mod p (at2 (elim p M c).1 r c * invM p (at2 (elim p M c).1 r c))
      rw [hx] at this
      have h5 := Int.dvd_neg.2 this
      rwa [show -(1 - at2 (elim p M c).1 r c * invM p (at2 (elim p M c).1 r c)) = at2 (elim p M c).1 r c * invM p (at2 (elim p M c).1 r c) - 1 by omega] at h5
/-- the vector of a column that begins no row -/
def freeV (p : Int) (F : List (List Int)) (hs : List Nat) (c l : Nat) (j : Nat) : Int := (kerFill p F hs c l hs.length).getD j 0
theorem kerFill_col {p : Int} {F : List (List Int)} {hs : List Nat} {c l : Nat} (hc : c < l) : ∀ k, k ≤ hs.length → (∀ q, q < k → hs.getD q 0 ≠ c) → (kerFill p F hs c l k).getD c 0 = 1
  | 0, _, _ => by
    show ((List.replicate l (0 : Int)).set c 1).getD c 0 = 1
    rw [List.getD_eq_getElem?_getD, List.getElem?_set_self (by simpa using hc)]; rfl
  | k + 1, hk, h => by
    show ((kerFill p F hs c l k).set (hs.getD k 0) (-(at2 F k c) % p)).getD c 0 = 1
    rw [List.getD_eq_getElem?_getD, List.getElem?_set_ne (h k (by omega)), ← List.getD_eq_getElem?_getD]
    exact kerFill_col hc k (by omega) (fun q hq => h q (by omega))
theorem kerFill_head {p : Int} {F : List (List Int)} {hs : List Nat} {c l : Nat} (hl : ∀ q, q < hs.length → hs.getD q 0 < l) (hd : ∀ q q', q < q' → q' < hs.length → hs.getD q 0 < hs.getD q' 0) : ∀ k, k ≤ hs.length → ∀ q, q < k → (kerFill p F hs c l k).getD (hs.getD q 0) 0 = -(at2 F q c) % p
  | 0, _, _, hq => absurd hq (by omega)
  | k + 1, hk, q, hq => by
    show ((kerFill p F hs c l k).set (hs.getD k 0) (-(at2 F k c) % p)).getD (hs.getD q 0) 0 = _
    rw [List.getD_eq_getElem?_getD]
    by_cases e : q = k
    · subst e
      rw [List.getElem?_set_self (by rw [kerFill_len]; exact hl q (by omega))]; rfl
    · have := hd q k (by omega) (by omega)
      rw [List.getElem?_set_ne (by omega), ← List.getD_eq_getElem?_getD]
      exact kerFill_head hl hd k (by omega) q (by omega)
theorem kerFill_off {p : Int} {F : List (List Int)} {hs : List Nat} {c l j : Nat} (hj : j ≠ c) : ∀ k, (∀ q, q < k → hs.getD q 0 ≠ j) → (kerFill p F hs c l k).getD j 0 = 0
  | 0, _ => by
    show ((List.replicate l (0 : Int)).set c 1).getD j 0 = 0
    rw [List.getD_eq_getElem?_getD, List.getElem?_set_ne (fun e => hj e.symm), List.getElem?_replicate]
    split <;> rfl
  | k + 1, h => by
    show ((kerFill p F hs c l k).set (hs.getD k 0) (-(at2 F k c) % p)).getD j 0 = 0
    rw [List.getD_eq_getElem?_getD, List.getElem?_set_ne (h k (by omega)), ← List.getD_eq_getElem?_getD]
    exact kerFill_off hj k (fun q hq => h q (by omega))
theorem notin_getD {hs : List Nat} {c : Nat} (h : c ∉ hs) : ∀ q, q < hs.length → hs.getD q 0 ≠ c := fun _ hq e => h (e ▸ getD_mem_nat hq)
theorem mem_getD {hs : List Nat} {c : Nat} (h : c ∈ hs) : ∃ q, q < hs.length ∧ hs.getD q 0 = c := by
  obtain ⟨q, hq, he⟩ := List.getElem_of_mem h
  exact ⟨q, hq, by rw [List.getD_eq_getElem?_getD, List.getElem?_eq_getElem hq, he]; rfl⟩
/-- what is taken to 0: the vector of a free column -/
theorem free_ker {p : Int} {n l c : Nat} {F : List (List Int)} {hs : List Nat} (hR : Red n l (at2 F) hs) (hc : c < l) (hf : c ∉ hs) : Ker p n l (at2 F) (freeV p F hs c l) := by
  intro i hi
  have hn := notin_getD hf
  have hcol : freeV p F hs c l c = 1 := kerFill_col hc _ (Nat.le_refl _) hn
  by_cases hk : i < hs.length
  · have hh : freeV p F hs c l (hs.getD i 0) = -(at2 F i c) % p := kerFill_head hR.lt hR.inc _ (Nat.le_refl _) i hk
    rw [sigN_two (c := c) (d := hs.getD i 0) (fun e => hn i hk e.symm) hc (hR.lt i hk) (fun j hj h1 h2 => ?_)]
    · rw [hcol, hh, hR.one i hk i hi, if_pos rfl]
      have := near_mod p (-(at2 F i c))
      rwa [show at2 F i c * 1 + 1 * (-at2 F i c % p) = -at2 F i c % p - -at2 F i c by omega]
    · by_cases hm : j ∈ hs
      · obtain ⟨q, hq, rfl⟩ := mem_getD hm
        rw [hR.one q hq i hi, if_neg (fun e => h2 (by rw [e]))]; simp
      · have : freeV p F hs c l j = 0 := kerFill_off h1 _ (notin_getD hm)
        rw [this]; simp
  · rw [sigN_zero (fun j hj => by rw [hR.low i (by omega) hi j hj]; simp)]
    exact Int.dvd_zero p
theorem free_after {p : Int} {n l c : Nat} {F : List (List Int)} {hs : List Nat} (hR : Red n l (at2 F) hs) (j : Nat) (hj : c < j) : freeV p F hs c l j = 0 := by
  by_cases hm : j ∈ hs
  · obtain ⟨q, hq, rfl⟩ := mem_getD hm
    have hh : freeV p F hs c l (hs.getD q 0) = -(at2 F q c) % p := kerFill_head hR.lt hR.inc _ (Nat.le_refl _) q hq
    rw [hh, hR.pre q hq c hj]; simp
  · exact kerFill_off (by omega) _ (notin_getD hm)
theorem head_zero {p : Int} {n l : Nat} {f : Nat → Nat → Int} {hs : List Nat} (hR : Red n l f hs) {v : Nat → Int} (hv : Ker p n l f v) {k : Nat} (hk : k < hs.length) (hz : ∀ j, hs.getD k 0 < j → v j = 0) : p ∣ v (hs.getD k 0) := by
  have h := hv k (by have := hR.le; omega)
  rw [sigN_one (hR.lt k hk) (fun j hj hne => ?_), hR.one k hk k (by have := hR.le; omega), if_pos rfl, Int.one_mul] at h
  · exact h
  · by_cases h2 : j < hs.getD k 0
    · rw [hR.pre k hk j h2]; simp
    · rw [hz j (by omega)]; simp
theorem sorted_ext : ∀ (a b : List Nat), a.Pairwise (· < ·) → b.Pairwise (· < ·) → (∀ x, x ∈ a ↔ x ∈ b) → a = b
  | [], [], _, _, _ => rfl
  | [], y :: b, _, _, h => absurd ((h y).2 (by simp)) (by simp)
  | x :: a, [], _, _, h => absurd ((h x).1 (by simp)) (by simp)
  | x :: a, y :: b, ha, hb, h => by
    obtain ⟨ha1, ha2⟩ := List.pairwise_cons.1 ha
    obtain ⟨hb1, hb2⟩ := List.pairwise_cons.1 hb
    have hxy : x = y := by
      have h1 := (h x).1 (by simp)
      have h2 := (h y).2 (by simp)
      rcases List.mem_cons.1 h1 with h1 | h1
      · exact h1
      · rcases List.mem_cons.1 h2 with h2 | h2
        · exact h2.symm
        · have := ha1 y h2; have := hb1 x h1; omega
    subst hxy
    rw [sorted_ext a b ha2 hb2 (fun z => ⟨fun hz => by
      rcases List.mem_cons.1 ((h z).1 (List.mem_cons_of_mem _ hz)) with e | e
      · have := ha1 z hz; omega
      · exact e, fun hz => by
      rcases List.mem_cons.1 ((h z).2 (List.mem_cons_of_mem _ hz)) with e | e
      · have := hb1 z hz; omega
      · exact e⟩)]
theorem Red.sorted {n c : Nat} {f : Nat → Nat → Int} {hs : List Nat} (hR : Red n c f hs) : hs.Pairwise (· < ·) := by
  rw [List.pairwise_iff_getElem]
  intro i j hi hj hij
  have := hR.inc i j hij hj
  simpa [List.getD_eq_getElem?_getD, List.getElem?_eq_getElem hi, List.getElem?_eq_getElem hj] using this
theorem Red.bound {n c : Nat} {f : Nat → Nat → Int} {hs : List Nat} (hR : Red n c f hs) : ∀ x ∈ hs, x < c := fun x hx => by
  obtain ⟨q, hq, rfl⟩ := mem_getD hx; exact hR.lt q hq
/-- if the rows are fewer than the columns, some column begins no row -/
theorem free_exists {n l : Nat} {f : Nat → Nat → Int} {hs : List Nat} (hR : Red n l f hs) (h : hs.length < l) : ∃ c, c < l ∧ c ∉ hs := by
  refine Classical.byContradiction fun hno => ?_
  have hall : ∀ c, c < l → c ∈ hs := fun c hc => Classical.byContradiction fun hm => hno ⟨c, hc, hm⟩
  have := sorted_ext hs (List.range l) hR.sorted List.pairwise_lt_range (fun x => ⟨fun hx => List.mem_range.2 (hR.bound x hx), fun hx => hall x (List.mem_range.1 hx)⟩)
  rw [this] at h
  simp at h
theorem mat_ext {l : Nat} {F F' : List (List Int)} (hl : F.length = F'.length) (h1 : ∀ row ∈ F, row.length = l) (h2 : ∀ row ∈ F', row.length = l) (h : ∀ i, i < F.length → ∀ j, j < l → at2 F i j = at2 F' i j) : F = F' := by
  refine List.ext_getElem hl fun i hi hi' => ?_
  have e1 := h1 _ (List.getElem_mem hi)
  have e2 := h2 _ (List.getElem_mem hi')
  refine List.ext_getElem (by rw [e1, e2]) fun j hj hj' => ?_
  have := h i hi j (by omega)
  simpa [at2, List.getD_eq_getElem?_getD, List.getElem?_eq_getElem hi, List.getElem?_eq_getElem hi', List.getElem?_eq_getElem hj, List.getElem?_eq_getElem hj'] using this
/-- the form is told by what is taken to 0 -/
theorem form_unique {p : Int} (hp : primeB p = true) {l : Nat} {M M' : List (List Int)} (h : VM p l M) (h' : VM p l M') (hn : M.length = M'.length) (hk : ∀ v, Ker p M.length l (at2 M) v ↔ Ker p M.length l (at2 M') v) : elim p M l = elim p M' l := by
  have hpb := prime_ge hp
  have hR := elim_red hp h l (Nat.le_refl _)
  have hR' := elim_red hp h' l (Nat.le_refl _)
  have hE := fun v => elim_ker hp h v l (Nat.le_refl _)
  have hE' := fun v => elim_ker hp h' v l (Nat.le_refl _)
  rw [← hn] at hR' hE'
  obtain ⟨i1, i2, _, _⟩ := elim_inv hp h l
  obtain ⟨j1, j2, _, _⟩ := elim_inv hp h' l
  have hkk : ∀ v, Ker p M.length l (at2 (elim p M l).1) v ↔ Ker p M.length l (at2 (elim p M' l).1) v := fun v => (hE v).trans ((hk v).trans (hE' v).symm)
  have hsub : ∀ {F F' : List (List Int)} {hs hs' : List Nat}, Red M.length l (at2 F) hs → Red M.length l (at2 F') hs' → (∀ v, Ker p M.length l (at2 F) v → Ker p M.length l (at2 F') v) → ∀ x, x ∈ hs' → x ∈ hs := by
    intro F F' hs hs' hR hR' hkk x hx
    refine Classical.byContradiction fun hno => ?_
    obtain ⟨q, hq, rfl⟩ := mem_getD hx
    have hlt := hR'.lt q hq
    have h1 := head_zero hR' (hkk _ (free_ker hR hlt hno)) hq (fun j hj => free_after hR j hj)
    have h2 : freeV p F hs (hs'.getD q 0) l (hs'.getD q 0) = 1 := kerFill_col hlt _ (Nat.le_refl _) (notin_getD hno)
    rw [h2] at h1
    have := Int.le_of_dvd (by omega) h1
    omega
  have hhs : (elim p M l).2 = (elim p M' l).2 := sorted_ext _ _ hR.sorted hR'.sorted (fun x => ⟨hsub hR' hR (fun v hv => (hkk v).2 hv) x, hsub hR hR' (fun v hv => (hkk v).1 hv) x⟩)
  refine Prod.ext (mat_ext (l := l) (by rw [i1, j1, hn]) (fun row hr => (i2 row hr).1) (fun row hr => (j2 row hr).1) fun i hi j hj => ?_) hhs
  rw [i1] at hi
  rw [← hhs] at hR'
  obtain ⟨hs, hHS⟩ : ∃ hs, (elim p M l).2 = hs := ⟨_, rfl⟩
  rw [hHS] at hR hR'
  by_cases hi2 : i < hs.length
  · by_cases hm : j ∈ hs
    · obtain ⟨q, hq, rfl⟩ := mem_getD hm
      rw [hR.one q hq i hi, hR'.one q hq i hi]
    · have hv := (hkk _).1 (free_ker hR hj hm)
      have h1 := hv i hi
      have hn' := notin_getD hm
      have hcol : freeV p (elim p M l).1 hs j l j = 1 := kerFill_col hj _ (Nat.le_refl _) hn'
      have hh : freeV p (elim p M l).1 hs j l (hs.getD i 0) = -(at2 (elim p M l).1 i j) % p := kerFill_head hR.lt hR.inc _ (Nat.le_refl _) i hi2
      rw [sigN_two (c := j) (d := hs.getD i 0) (fun e => hn' i hi2 e.symm) hj (hR.lt i hi2) (fun k hk' g1 g2 => ?_), hcol, hh, hR'.one i hi2 i hi, if_pos rfl] at h1
      · have h2 := near_mod p (-(at2 (elim p M l).1 i j))
        have h3 := Int.dvd_sub h1 h2
        rw [show at2 (elim p M' l).1 i j * 1 + 1 * (-at2 (elim p M l).1 i j % p) - (-at2 (elim p M l).1 i j % p - -at2 (elim p M l).1 i j) = at2 (elim p M' l).1 i j - at2 (elim p M l).1 i j by omega] at h3
        have a1 := numB_true (i2.at2 (i := i) (j := j) (by omega) hj)
        have a2 := numB_true (j2.at2 (i := i) (j := j) (by omega) hj)
        exact (near_eq h3 a2.2.1 a2.2.2 a1.2.1 a1.2.2).symm
      · by_cases hm2 : k ∈ hs
        · obtain ⟨q, hq, rfl⟩ := mem_getD hm2
          rw [hR'.one q hq i hi, if_neg (fun e => g2 (by rw [e]))]; simp
        · have : freeV p (elim p M l).1 hs j l k = 0 := kerFill_off g1 _ (notin_getD hm2)
          rw [this]; simp
  · rw [hR.low i (by omega) hi j hj, hR'.low i (by omega) hi j hj]
end Go.Proofs.Ytdecaokngedghaa
namespace Go.Proofs.Ytdecaokngedghaa
/-- a matrix as a list -/
def mk2 (p : Int) (n l : Nat) (f : Nat → Nat → Int) : List (List Int) := (List.range n).map fun i => (List.range l).map fun j => f i j % p
theorem mk2_len (p : Int) (n l : Nat) (f : Nat → Nat → Int) : (mk2 p n l f).length = n := by simp [mk2]
theorem mk2_VM {p : Int} (hp : primeB p = true) (n l : Nat) (f : Nat → Nat → Int) : VM p l (mk2 p n l f) := by
  intro row hr
  unfold mk2 at hr
  obtain ⟨i, hi, rfl⟩ := List.mem_map.1 hr
  refine ⟨by simp, fun x hx => ?_⟩
  obtain ⟨j, hj, rfl⟩ := List.mem_map.1 hx
  exact numB_emod hp _
theorem mk2_at {p : Int} {n l : Nat} {f : Nat → Nat → Int} {i j : Nat} (hi : i < n) (hj : j < l) : at2 (mk2 p n l f) i j = f i j % p := by
  unfold at2 mk2
  rw [getQ, List.getElem?_map, List.getElem?_range hi]
  show ((List.range l).map _).getD j 0 = _
  rw [List.getD_eq_getElem?_getD, List.getElem?_map, List.getElem?_range hj]; rfl
/-- fewer sums than columns: some numbers, not all 0, are taken to 0 -/
theorem pigeon {p : Int} (hp : primeB p = true) {r s : Nat} (h : r < s) (f : Nat → Nat → Int) : ∃ v : Nat → Int, (∃ c, c < s ∧ v c = 1) ∧ ∀ k, k < r → p ∣ sigN s (fun q => f k q * v q) := by
  have hV := mk2_VM hp r s f
  have hR := elim_red hp hV s (Nat.le_refl _)
  rw [mk2_len] at hR
  obtain ⟨c, hc, hm⟩ := free_exists hR (by have := hR.le; omega)
  have hk := free_ker (p := p) hR hc hm
  have hk2 := (elim_ker hp hV _ s (Nat.le_refl _)).1 (by rw [mk2_len]; exact hk)
  refine ⟨freeV p (elim p (mk2 p r s f) s).1 (elim p (mk2 p r s f) s).2 c s, ⟨c, hc, kerFill_col hc _ (Nat.le_refl _) (notin_getD hm)⟩, fun k hk' => ?_⟩
  have := hk2 k (by rw [mk2_len]; exact hk')
  refine (near_move (sigN_near fun q hq => ?_)).1 this
  rw [mk2_at hk' hq, ← Int.sub_mul]
  exact dvd_mulR (near_mod _ _) _
/-- each matrix is the product of its columns at the heads and its form -/
theorem elim_fac {p : Int} (hp : primeB p = true) {l : Nat} {M : List (List Int)} (h : VM p l M) : ∀ i, i < M.length → ∀ j, j < l → p ∣ at2 M i j - sigN (elim p M l).2.length (fun k => at2 M i ((elim p M l).2.getD k 0) * at2 (elim p M l).1 k j) := by
  intro i hi j hj
  have hR := elim_red hp h l (Nat.le_refl _)
  have hE := fun v => elim_ker hp h v l (Nat.le_refl _)
  obtain ⟨F, hF⟩ : ∃ F, (elim p M l).1 = F := ⟨_, rfl⟩
  obtain ⟨hs, hHS⟩ : ∃ hs, (elim p M l).2 = hs := ⟨_, rfl⟩
  rw [hF, hHS] at hR
  rw [hF] at hE
  rw [hF, hHS]
  by_cases hm : j ∈ hs
  · obtain ⟨q, hq, rfl⟩ := mem_getD hm
    have hle := hR.le
    rw [sigN_one hq (fun k hk hne => by rw [hR.one q hq k (by omega), if_neg hne]; simp), hR.one q hq q (by omega), if_pos rfl, Int.mul_one, Int.sub_self]
    exact Int.dvd_zero p
  · have hk := (hE _).1 (free_ker hR hj hm) i hi
    have hn := notin_getD hm
    have hcol : freeV p F hs j l j = 1 := kerFill_col hj _ (Nat.le_refl _) hn
    rw [sigN_plus hj, sigN_heads (fun k => hs.getD k 0) (m := hs.length) hR.lt hR.inc (fun k _ hne => ?_)] at hk
    · rw [hcol, Int.mul_one] at hk
      rw [sigN_congr (n := hs.length) (g := fun k => at2 M i (hs.getD k 0) * (-(at2 F k j) % p)) (fun k hk' => by
        rw [if_neg (hn k hk')]
        have : freeV p F hs j l (hs.getD k 0) = -(at2 F k j) % p := kerFill_head hR.lt hR.inc _ (Nat.le_refl _) k hk'
        rw [this])] at hk
      have h2 : p ∣ sigN hs.length (fun k => at2 M i (hs.getD k 0) * (-(at2 F k j) % p)) - (-1) * sigN hs.length (fun k => at2 M i (hs.getD k 0) * at2 F k j) := by
        rw [← sigN_mul]
        refine sigN_near fun k _ => ?_
        obtain ⟨x, hx⟩ : ∃ x, at2 M i (hs.getD k 0) = x := ⟨_, rfl⟩
        rw [hx, show x * (-at2 F k j % p) - -1 * (x * at2 F k j) = x * (-at2 F k j % p - -at2 F k j) by grind]
        exact dvd_mulL (near_mod _ _) _
      have h3 := Int.dvd_sub hk h2
      obtain ⟨S, hS⟩ : ∃ S, sigN hs.length (fun k => at2 M i (hs.getD k 0) * at2 F k j) = S := ⟨_, rfl⟩
      rw [hS] at h3 ⊢
      obtain ⟨T, hT⟩ : ∃ T, sigN hs.length (fun k => at2 M i (hs.getD k 0) * (-(at2 F k j) % p)) = T := ⟨_, rfl⟩
      rw [hT] at h3
      rwa [show at2 M i j + T - (T - -1 * S) = at2 M i j - S by omega] at h3
    · by_cases e : k = j
      · simp [e]
      · simp only [if_neg e]
        have : freeV p F hs j l k = 0 := kerFill_off e _ hne
        rw [this]; simp
/-- a product with so many numbers between -/
def Fac (p : Int) (n l r : Nat) (f : Nat → Nat → Int) : Prop := ∃ X Y : Nat → Nat → Int, ∀ i, i < n → ∀ j, j < l → p ∣ f i j - sigN r (fun k => X i k * Y k j)
theorem Fac.elim {p : Int} (hp : primeB p = true) {l : Nat} {M : List (List Int)} (h : VM p l M) : Fac p M.length l (elim p M l).2.length (at2 M) := ⟨_, _, elim_fac hp h⟩
theorem Fac.congr {p : Int} {n l r : Nat} {f g : Nat → Nat → Int} (h : Fac p n l r f) (hg : ∀ i, i < n → ∀ j, j < l → p ∣ g i j - f i j) : Fac p n l r g := by
  obtain ⟨X, Y, h⟩ := h
  exact ⟨X, Y, fun i hi j hj => near_trans (hg i hi j hj) (h i hi j hj)⟩
theorem Fac.turn {p : Int} {n l r : Nat} {f : Nat → Nat → Int} (h : Fac p n l r f) : Fac p l n r (fun i j => f j i) := by
  obtain ⟨X, Y, h⟩ := h
  refine ⟨fun i k => Y k i, fun k j => X j k, fun i hi j hj => ?_⟩
  rw [sigN_congr (g := fun k => X j k * Y k i) (fun k _ => Int.mul_comm _ _)]
  exact h j hj i hi
theorem Fac.left {p : Int} {n l r m : Nat} {f g : Nat → Nat → Int} (h : Fac p n m r f) : Fac p n l r (fun i j => sigN m (fun k => f i k * g k j)) := by
  obtain ⟨X, Y, h⟩ := h
  refine ⟨X, fun q j => sigN m (fun k => Y q k * g k j), fun i hi j _ => ?_⟩
  have e : sigN r (fun q => X i q * sigN m (fun k => Y q k * g k j)) = sigN m (fun k => sigN r (fun q => X i q * Y q k) * g k j) := by
    rw [sigN_congr (g := fun q => sigN m (fun k => X i q * Y q k * g k j)) (fun q _ => by rw [← sigN_mul]; exact sigN_congr fun k _ => (Int.mul_assoc _ _ _).symm), sigN_swap]
    exact sigN_congr fun k _ => sigN_mulr _ _ _
  rw [e]
  refine sigN_near fun k hk => ?_
  rw [← Int.sub_mul]
  exact dvd_mulR (h i hi k hk) _
theorem Fac.right {p : Int} {n l r m : Nat} {f g : Nat → Nat → Int} (h : Fac p m l r g) : Fac p n l r (fun i j => sigN m (fun k => f i k * g k j)) := by
  have h2 := (h.turn.left (l := n) (g := fun k i => f i k)).turn
  refine h2.congr fun i _ j _ => ?_
  rw [sigN_congr (g := fun k => g k j * f i k) (fun k _ => Int.mul_comm _ _), Int.sub_self]
  exact Int.dvd_zero p
/-- as many unit columns as that are not made of fewer -/
theorem unit_le {p : Int} (hp : primeB p = true) {n l r m : Nat} {f : Nat → Nat → Int} (hf : Fac p n l r f) (h : Nat → Nat) (hl : ∀ t, t < m → h t < l) (hm : m ≤ n) (hu : ∀ t, t < m → ∀ s, s < m → f t (h s) = if t = s then 1 else 0) : m ≤ r := by
  refine Classical.byContradiction fun hno => ?_
  have hpb := prime_ge hp
  obtain ⟨X, Y, hf⟩ := hf
  obtain ⟨v, ⟨c, hc, hv1⟩, hv⟩ := pigeon hp (r := r) (s := m) (by omega) (fun k t => X t k)
  have h1 : sigN m (fun t => v t * f t (h c)) = 1 := by
    rw [sigN_one hc (fun t ht hne => by rw [hu t ht c hc, if_neg hne]; simp), hu c hc c hc, if_pos rfl, hv1]; rfl
  have h2 : p ∣ sigN m (fun t => v t * f t (h c)) - sigN m (fun t => v t * sigN r (fun k => X t k * Y k (h c))) := by
    refine sigN_near fun t ht => ?_
    rw [← Int.mul_sub]
    exact dvd_mulL (hf t (by omega) _ (hl c hc)) _
  have h3 : sigN m (fun t => v t * sigN r (fun k => X t k * Y k (h c))) = sigN r (fun k => sigN m (fun t => X t k * v t) * Y k (h c)) := by
    rw [sigN_congr (g := fun t => sigN r (fun k => X t k * v t * Y k (h c))) (fun t _ => by rw [← sigN_mul]; exact sigN_congr fun k _ => by grind), sigN_swap]
    exact sigN_congr fun k _ => sigN_mulr _ _ _
  rw [h1, h3] at h2
  have h4 := (near_move h2).2 (sigN_dvd fun k hk => dvd_mulR (hv k hk) _)
  have := Int.le_of_dvd (by omega) h4
  omega
/-- the rank is at most each such number -/
theorem rank_le {p : Int} (hp : primeB p = true) {l : Nat} {M : List (List Int)} (h : VM p l M) {r : Nat} (hf : Fac p M.length l r (at2 M)) : (elim p M l).2.length ≤ r := by
  refine Classical.byContradiction fun hno => ?_
  have hpb := prime_ge hp
  have hR := elim_red hp h l (Nat.le_refl _)
  have hE := fun v => elim_ker hp h v l (Nat.le_refl _)
  obtain ⟨F, hF⟩ : ∃ F, (elim p M l).1 = F := ⟨_, rfl⟩
  obtain ⟨hs, hHS⟩ : ∃ hs, (elim p M l).2 = hs := ⟨_, rfl⟩
  rw [hF, hHS] at hR
  rw [hF] at hE
  rw [hHS] at hno
  have hle := hR.le
  obtain ⟨X, Y, hf⟩ := hf
  obtain ⟨v, ⟨c, hc, hv1⟩, hv⟩ := pigeon hp (r := r) (s := hs.length) (by omega) (fun k q => Y k (hs.getD q 0))
  have hinj : ∀ a b, a < hs.length → b < hs.length → hs.getD a 0 = hs.getD b 0 → a = b := fun a b ha hb e => by
    rcases Nat.lt_trichotomy a b with h1 | h1 | h1
    · have := hR.inc a b h1 hb; omega
    · exact h1
    · have := hR.inc b a h1 ha; omega
  obtain ⟨u, hu⟩ : ∃ u : Nat → Int, u = fun j => sigN hs.length (fun q => if hs.getD q 0 = j then v q else 0) := ⟨_, rfl⟩
  have hu1 : ∀ q, q < hs.length → u (hs.getD q 0) = v q := fun q hq => by
    rw [hu]
    show sigN hs.length (fun q' => if hs.getD q' 0 = hs.getD q 0 then v q' else 0) = _
    rw [sigN_one hq (fun k hk hne => if_neg (fun e => hne (hinj k q hk hq e))), if_pos rfl]
  have hu0 : ∀ j, (∀ q, q < hs.length → hs.getD q 0 ≠ j) → u j = 0 := fun j hj => by
    rw [hu]
    exact sigN_zero fun q hq => if_neg (hj q hq)
  have hsum : ∀ g : Nat → Int, sigN l (fun j => g j * u j) = sigN hs.length (fun q => g (hs.getD q 0) * v q) := fun g => by
    rw [sigN_heads (fun k => hs.getD k 0) (m := hs.length) hR.lt hR.inc (fun j _ hne => by rw [hu0 j hne]; simp)]
    exact sigN_congr fun q hq => by rw [hu1 q hq]
  have hker : Ker p M.length l (at2 M) u := fun i hi => by
    have h2 : p ∣ sigN l (fun j => at2 M i j * u j) - sigN l (fun j => sigN r (fun k => X i k * Y k j) * u j) := by
      refine sigN_near fun j hj => ?_
      rw [← Int.sub_mul]
      exact dvd_mulR (hf i hi j hj) _
    refine (near_move h2).2 ?_
    rw [sigN_congr (g := fun j => sigN r (fun k => X i k * (Y k j * u j))) (fun j _ => by rw [← sigN_mulr]; exact sigN_congr fun k _ => Int.mul_assoc _ _ _), sigN_swap]
    refine sigN_dvd fun k hk => ?_
    rw [sigN_mul, hsum]
    exact dvd_mulL (hv k hk) _
  have h5 := (hE u).2 hker c (by omega)
  rw [hsum, sigN_one hc (fun q hq hne => by rw [hR.one q hq c (by omega), if_neg (fun e => hne e.symm)]; simp), hR.one c hc c (by omega), if_pos rfl, hv1] at h5
  have := Int.le_of_dvd (by omega) h5
  omega
end Go.Proofs.Ytdecaokngedghaa
namespace Go.Proofs.Ytdecaokngedghaa
theorem dot_sig : ∀ (xs ys : List Int) (n : Nat), xs.length ≤ n → dot xs ys = sigN n (fun k => xs.getD k 0 * ys.getD k 0)
  | [], ys, n, _ => by rw [sigN_zero (fun k _ => by simp)]; simp [dot]
  | x :: xs, [], n, _ => by rw [sigN_zero (fun k _ => by simp)]; simp [dot]
  | x :: xs, y :: ys, 0, h => by simp at h
  | x :: xs, y :: ys, n + 1, h => by
    rw [sigN_shift]
    show x * y + dot xs ys = _
    rw [dot_sig xs ys n (by simpa using h)]
    rfl
theorem colM_getD (M : List (List Int)) (j k : Nat) : (colM M j).getD k 0 = at2 M k j := by
  unfold colM at2
  rw [List.getD_eq_getElem?_getD, List.getElem?_map, getQ]
  cases M[k]? <;> simp
theorem getD_row {M : List (List Int)} {i : Nat} {row : List Int} (h : M[i]? = some row) : M.getD i [] = row := by rw [getQ, h]; rfl
theorem turn_at {M : List (List Int)} {i j : Nat} (hj : j < (M.headD []).length) : at2 (turnM M) j i = at2 M i j := by
  have := turnM_get M j hj
  show ((turnM M).getD j []).getD i 0 = _
  rw [getD_row this, colM_getD]
theorem times_at {p : Int} {m : Nat} {A B : List (List Int)} (hA : VM p m A) {i j : Nat} (hi : i < A.length) (hj : j < (B.headD []).length) : at2 (timesM p A B) i j = sigN m (fun k => at2 A i k * at2 B k j) % p := by
  have h1 : A[i]? = some (A.getD i []) := by rw [getQ, List.getElem?_eq_getElem hi]; rfl
  have h2 := timesM_get (p := p) (B := B) h1
  show ((timesM p A B).getD i []).getD j 0 = _
  rw [getD_row h2, List.getD_eq_getElem?_getD, timesRow_get _ _ _ _ hj]
  show dot _ _ % p = _
  rw [dot_sig _ _ m (by rw [(hA.getD hi).1]; exact Nat.le_refl _)]
  congr 1
  exact sigN_congr fun k _ => by rw [colM_getD]; rfl
theorem headD_len {p : Int} {l : Nat} {M : List (List Int)} (h : VM p l M) (h1 : 1 ≤ M.length) : (M.headD []).length = l := by
  cases M with
  | nil => simp at h1
  | cons r M => exact (h r (by simp)).1
theorem matB_mk {p : Int} {l : Nat} {M : List (List Int)} (h : VM p l M) (h1 : 1 ≤ M.length) (h8 : M.length ≤ 8) (l1 : 1 ≤ l) (l8 : l ≤ 8) : matB p M = true := by
  have hd := headD_len h h1
  simp only [matB, hd, Bool.and_eq_true, decide_eq_true_eq, List.all_eq_true, rowOk, rowB]
  exact ⟨⟨h1, h8, l1, l8⟩, h⟩
theorem VM.times {p : Int} (hp : primeB p = true) (A B : List (List Int)) : VM p (B.headD []).length (timesM p A B) := by
  intro row hr
  unfold timesM at hr
  obtain ⟨r, _, rfl⟩ := List.mem_map.1 hr
  refine ⟨timesRow_len _ _ _, fun x hx => ?_⟩
  unfold timesRow at hx
  obtain ⟨j, _, rfl⟩ := List.mem_map.1 hx
  exact numB_emod hp _
theorem VM.turn {p : Int} {M : List (List Int)} (h : matB p M = true) : VM p M.length (turnM M) := by
  intro row hr
  unfold turnM at hr
  obtain ⟨j, hj, rfl⟩ := List.mem_map.1 hr
  exact ⟨colM_len _ _, colM_valid h j (List.mem_range.1 hj)⟩
theorem times_mat {p : Int} {A B : List (List Int)} (hA : matB p A = true) (hB : matB p B = true) : matB p (timesM p A B) = true ∧ ((timesM p A B).headD []).length = (B.headD []).length := by
  obtain ⟨a1, a2, a3, a4, _⟩ := matB_true hA
  obtain ⟨b1, b2, b3, b4, _⟩ := matB_true hB
  have hV := VM.times (prime_of_mat hA) A B
  have hl := timesM_len p A B
  exact ⟨matB_mk hV (by omega) (by omega) b3 b4, headD_len hV (by omega)⟩
theorem turn_mat {p : Int} {M : List (List Int)} (h : matB p M = true) : matB p (turnM M) = true ∧ ((turnM M).headD []).length = M.length := by
  obtain ⟨a1, a2, a3, a4, _⟩ := matB_true h
  have hV := VM.turn h
  have hl := turnM_len M
  exact ⟨matB_mk hV (by omega) (by omega) a1 a2, headD_len hV (by omega)⟩
theorem vm_ext {p : Int} {l : Nat} {F F' : List (List Int)} (h1 : VM p l F) (h2 : VM p l F') (hl : F.length = F'.length) (h : ∀ i, i < F.length → ∀ j, j < l → at2 F i j = at2 F' i j) : F = F' := mat_ext hl (fun r hr => (h1 r hr).1) (fun r hr => (h2 r hr).1) h
theorem turn_turn {p : Int} {M : List (List Int)} (h : matB p M = true) : turnM (turnM M) = M := by
  obtain ⟨h1, h2⟩ := turn_mat h
  have hV := VM.turn h1
  rw [turnM_len] at hV
  have hl : (turnM (turnM M)).length = M.length := by rw [turnM_len, h2]
  refine vm_ext hV (VM_of_mat h) hl fun i hi j hj => ?_
  rw [turn_at (by rw [h2]; omega), turn_at hj]
theorem times_assoc {p : Int} {A B C : List (List Int)} (hA : matB p A = true) (hB : matB p B = true) (hC : matB p C = true) (hAB : (A.headD []).length = B.length) : timesM p (timesM p A B) C = timesM p A (timesM p B C) := by
  have hp := prime_of_mat hA
  obtain ⟨m1, m2⟩ := times_mat hA hB
  obtain ⟨n1, n2⟩ := times_mat hB hC
  have hV2 := VM.times hp A (timesM p B C)
  rw [n2] at hV2
  refine vm_ext (VM.times hp _ C) hV2 (by simp [timesM_len]) fun i hi j hj => ?_
  rw [timesM_len, timesM_len] at hi
  have hVAB := VM.times hp A B
  rw [times_at hVAB (by rw [timesM_len]; exact hi) hj, times_at (VM_of_mat hA) hi (by rw [n2]; exact hj)]
  refine mod_of_near ?_
  have e1 : p ∣ sigN (B.headD []).length (fun k => at2 (timesM p A B) i k * at2 C k j) - sigN (B.headD []).length (fun k => sigN (A.headD []).length (fun q => at2 A i q * at2 B q k) * at2 C k j) := by
    refine sigN_near fun k hk => ?_
    rw [times_at (VM_of_mat hA) hi hk, ← Int.sub_mul]
    exact dvd_mulR (near_mod _ _) _
  have e2 : p ∣ sigN (A.headD []).length (fun q => at2 A i q * at2 (timesM p B C) q j) - sigN (A.headD []).length (fun q => at2 A i q * sigN (B.headD []).length (fun k => at2 B q k * at2 C k j)) := by
    refine sigN_near fun q hq => ?_
    rw [times_at (VM_of_mat hB) (by omega) hj, ← Int.mul_sub]
    exact dvd_mulL (near_mod _ _) _
  have e3 : sigN (B.headD []).length (fun k => sigN (A.headD []).length (fun q => at2 A i q * at2 B q k) * at2 C k j) = sigN (A.headD []).length (fun q => at2 A i q * sigN (B.headD []).length (fun k => at2 B q k * at2 C k j)) := by
    rw [sigN_congr (g := fun k => sigN (A.headD []).length (fun q => at2 A i q * (at2 B q k * at2 C k j))) (fun k _ => by rw [← sigN_mulr]; exact sigN_congr fun q _ => Int.mul_assoc _ _ _), sigN_swap]
    exact sigN_congr fun q _ => sigN_mul _ _ _
  rw [e3] at e1
  exact near_trans e1 (near_symm e2)
theorem times_turn {p : Int} {A B : List (List Int)} (hA : matB p A = true) (hB : matB p B = true) (hAB : (A.headD []).length = B.length) : turnM (timesM p A B) = timesM p (turnM B) (turnM A) := by
  have hp := prime_of_mat hA
  obtain ⟨m1, m2⟩ := times_mat hA hB
  obtain ⟨a1, a2⟩ := turn_mat hA
  obtain ⟨b1, b2⟩ := turn_mat hB
  have hV := VM.turn m1
  rw [timesM_len] at hV
  have hV2 := VM.times hp (turnM B) (turnM A)
  rw [a2] at hV2
  refine vm_ext hV hV2 (by rw [turnM_len, timesM_len, turnM_len, m2]) fun i hi j hj => ?_
  rw [turnM_len, m2] at hi
  rw [turn_at (by rw [m2]; exact hi), times_at (VM_of_mat hA) hj hi, times_at (VM.turn hB) (by rw [turnM_len]; exact hi) (by rw [a2]; exact hj), hAB]
  congr 1
  exact sigN_congr fun k hk => by rw [turn_at hi, turn_at (by omega), Int.mul_comm]
theorem rankR_yes {p : Int} {M : List (List Int)} (h : matB p M = true) : rankR p M = ((elim p M (M.headD []).length).2.length : Int) := by unfold rankR; rw [if_pos h]
theorem rankR_no {p : Int} {M : List (List Int)} (h : matB p M = false) : rankR p M = -1 := by unfold rankR; rw [if_neg (by simp [h])]
theorem rank_bd {p : Int} {M : List (List Int)} (h : matB p M = true) : (elim p M (M.headD []).length).2.length ≤ M.length ∧ (elim p M (M.headD []).length).2.length ≤ (M.headD []).length := by
  obtain ⟨_, _, h3, h4⟩ := elim_inv (prime_of_mat h) (VM_of_mat h) (M.headD []).length
  exact ⟨h3, h4⟩
theorem rank_times {p : Int} {A B : List (List Int)} (hA : matB p A = true) (hB : matB p B = true) (hAB : (A.headD []).length = B.length) : rankR p (timesM p A B) ≤ rankR p A ∧ rankR p (timesM p A B) ≤ rankR p B := by
  have hp := prime_of_mat hA
  obtain ⟨m1, m2⟩ := times_mat hA hB
  have hV := VM_of_mat m1
  have hn : ∀ i, i < (timesM p A B).length → ∀ j, j < ((timesM p A B).headD []).length → p ∣ at2 (timesM p A B) i j - sigN (A.headD []).length (fun k => at2 A i k * at2 B k j) := fun i hi j hj => by
    rw [timesM_len] at hi
    rw [m2] at hj
    rw [times_at (VM_of_mat hA) hi hj]
    exact near_mod _ _
  rw [rankR_yes m1, rankR_yes hA, rankR_yes hB]
  constructor
  · refine Int.ofNat_le.2 (rank_le hp hV (Fac.congr ?_ hn))
    have := Fac.elim hp (VM_of_mat hA)
    rw [timesM_len]
    exact this.left
  · refine Int.ofNat_le.2 (rank_le hp hV (Fac.congr ?_ hn))
    have := Fac.elim hp (VM_of_mat hB)
    rw [m2, hAB]
    exact this.right
theorem rank_turn_le {p : Int} {M : List (List Int)} (h : matB p M = true) : rankR p (turnM M) ≤ rankR p M := by
  have hp := prime_of_mat h
  obtain ⟨m1, m2⟩ := turn_mat h
  rw [rankR_yes m1, rankR_yes h]
  refine Int.ofNat_le.2 (rank_le hp (VM_of_mat m1) ?_)
  rw [m2, turnM_len]
  refine (Fac.elim hp (VM_of_mat h)).turn.congr fun i hi j hj => ?_
  rw [turn_at hi, Int.sub_self]
  exact Int.dvd_zero p
theorem rank_turn {p : Int} {M : List (List Int)} (h : matB p M = true) : rankR p (turnM M) = rankR p M := by
  have h1 := rank_turn_le h
  have h2 := rank_turn_le (turn_mat h).1
  rw [turn_turn h] at h2
  omega
/-- the columns that begin no row -/
def frees (hs : List Nat) (c : Nat) : List Nat := (List.range c).filter (fun q => decide (q ∉ hs))
theorem kerM_frees (p : Int) (F : List (List Int)) (hs : List Nat) (l : Nat) : ∀ c, kerM p F hs l c = (frees hs c).map fun q => kerFill p F hs q l hs.length
  | 0 => rfl
  | c + 1 => by
    unfold frees
    rw [List.range_succ, List.filter_append, List.map_append]
    by_cases h : c ∈ hs
    · rw [kerM_stay h, kerM_frees p F hs l c]
      simp [h, frees]
    · rw [kerM_go h, kerM_frees p F hs l c]
      simp [h, frees]
theorem filter_both {α : Type} (q : α → Bool) : ∀ xs : List α, (xs.filter q).length + (xs.filter (fun x => !q x)).length = xs.length
  | [] => rfl
  | x :: xs => by
    have := filter_both q xs
    rw [List.filter_cons, List.filter_cons]
    cases q x <;> simp <;> omega
theorem frees_len {n l : Nat} {f : Nat → Nat → Int} {hs : List Nat} (hR : Red n l f hs) : (frees hs l).length + hs.length = l := by
  have h1 := filter_both (fun q => decide (q ∉ hs)) (List.range l)
  have h2 : (List.range l).filter (fun x => !decide (x ∉ hs)) = hs := by
    refine sorted_ext _ _ (List.Pairwise.filter _ List.pairwise_lt_range) hR.sorted fun x => ?_
    simp only [List.mem_filter, List.mem_range]
    constructor
    · rintro ⟨_, h⟩; simpa using h
    · intro h; exact ⟨hR.bound x h, by simpa using h⟩
  rw [h2] at h1
  simpa [frees] using h1
theorem frees_at {hs : List Nat} {l t : Nat} (ht : t < (frees hs l).length) : (frees hs l).getD t 0 < l ∧ (frees hs l).getD t 0 ∉ hs := by
  have h : (frees hs l).getD t 0 ∈ frees hs l := getD_mem_nat ht
  unfold frees at h
  rw [List.mem_filter] at h
  exact ⟨List.mem_range.1 h.1, by simpa [frees] using h.2⟩
theorem frees_inj {hs : List Nat} {l t s : Nat} (ht : t < (frees hs l).length) (hs' : s < (frees hs l).length) (h : (frees hs l).getD t 0 = (frees hs l).getD s 0) : t = s := by
  have hP : (frees hs l).Pairwise (· < ·) := List.Pairwise.filter _ List.pairwise_lt_range
  rw [List.pairwise_iff_getElem] at hP
  simp only [List.getD_eq_getElem?_getD, List.getElem?_eq_getElem ht, List.getElem?_eq_getElem hs', Option.getD_some] at h
  rcases Nat.lt_trichotomy t s with h1 | h1 | h1
  · have := hP t s ht hs' h1; omega
  · exact h1
  · have := hP s t hs' ht h1; omega
theorem kerFill_valid {p : Int} (hp : primeB p = true) (F : List (List Int)) (hs : List Nat) (c l : Nat) : ∀ k, ∀ x ∈ kerFill p F hs c l k, numB p x = true
  | 0, x, hx => by
    have hpb := prime_ge hp
    rcases List.mem_or_eq_of_mem_set (show x ∈ (List.replicate l (0 : Int)).set c 1 from hx) with h | h
    · rw [List.eq_of_mem_replicate h]; exact numB_mk hp (by omega) (by omega)
    · rw [h]; exact numB_mk hp (by omega) (by omega)
  | k + 1, x, hx => by
    rcases List.mem_or_eq_of_mem_set (show x ∈ (kerFill p F hs c l k).set (hs.getD k 0) (-(at2 F k c) % p) from hx) with h | h
    · exact kerFill_valid hp F hs c l k x h
    · rw [h]; exact numB_emod hp _
theorem kerM_at {p : Int} {F : List (List Int)} {hs : List Nat} {l t : Nat} (ht : t < (frees hs l).length) (j : Nat) : at2 (kerM p F hs l l) t j = freeV p F hs ((frees hs l).getD t 0) l j := by
  unfold at2 freeV
  rw [kerM_frees, getQ, List.getElem?_map, List.getElem?_eq_getElem ht, List.getD_eq_getElem?_getD (l := frees hs l), List.getElem?_eq_getElem ht]; rfl
theorem VM.ker {p : Int} (hp : primeB p = true) (F : List (List Int)) (hs : List Nat) (l : Nat) : VM p l (kerM p F hs l l) := by
  intro row hr
  rw [kerM_frees] at hr
  obtain ⟨q, _, rfl⟩ := List.mem_map.1 hr
  exact ⟨kerFill_len _ _ _ _ _ _, kerFill_valid hp _ _ _ _ _⟩
/-- the rows of the kernel: how many, that they are taken to 0, and their rank -/
theorem kernel_law {p : Int} {M : List (List Int)} (h : matB p M = true) : ((kernelR p M).length : Int) + rankR p M = ((M.headD []).length : Int) ∧ VM p (M.headD []).length (kernelR p M) ∧
    (∀ t, t < (kernelR p M).length → Ker p M.length (M.headD []).length (at2 M) (at2 (kernelR p M) t)) ∧
    (1 ≤ (kernelR p M).length → matB p (kernelR p M) = true ∧ rankR p (kernelR p M) = ((kernelR p M).length : Int)) := by
  have hp := prime_of_mat h
  have hV := VM_of_mat h
  obtain ⟨a1, a2, a3, a4, _⟩ := matB_true h
  obtain ⟨l, hl⟩ : ∃ l, (M.headD []).length = l := ⟨_, rfl⟩
  rw [rankR_yes h, kernelR_yes h]
  rw [hl] at hV a3 a4 ⊢
  have hR := elim_red hp hV l (Nat.le_refl _)
  have hE := fun v => elim_ker hp hV v l (Nat.le_refl _)
  obtain ⟨F, hF⟩ : ∃ F, (elim p M l).1 = F := ⟨_, rfl⟩
  obtain ⟨hs, hHS⟩ : ∃ hs, (elim p M l).2 = hs := ⟨_, rfl⟩
  rw [hF, hHS] at hR
  rw [hF] at hE
  rw [hF, hHS]
  have hfl := frees_len hR
  have hlen : (kerM p F hs l l).length = (frees hs l).length := by rw [kerM_frees, List.length_map]
  have hVK := VM.ker hp F hs l
  refine ⟨by omega, hVK, fun t ht => ?_, fun h1 => ?_⟩
  · obtain ⟨g1, g2⟩ := frees_at (t := t) (hs := hs) (l := l) (by omega)
    have e : at2 (kerM p F hs l l) t = freeV p F hs ((frees hs l).getD t 0) l := funext fun j => kerM_at (by omega) j
    rw [e]
    exact (hE _).1 (free_ker hR g1 g2)
  · have hm := matB_mk hVK h1 (by omega) a3 a4
    refine ⟨hm, ?_⟩
    rw [rankR_yes hm, headD_len hVK h1]
    have r1 := (elim_red hp hVK l (Nat.le_refl _)).le
    have r2 := unit_le hp (Fac.elim hp hVK) (fun t => (frees hs l).getD t 0) (m := (kerM p F hs l l).length) (fun t ht => (frees_at (by omega)).1) (Nat.le_refl _) (fun t ht s hs' => by
      rw [kerM_at (by omega)]
      obtain ⟨g1, g2⟩ := frees_at (t := t) (hs := hs) (l := l) (by omega)
      obtain ⟨g3, g4⟩ := frees_at (t := s) (hs := hs) (l := l) (by omega)
      by_cases e : t = s
      · subst e
        rw [if_pos rfl]
        exact kerFill_col g1 _ (Nat.le_refl _) (notin_getD g2)
      · rw [if_neg e]
        exact kerFill_off (fun e2 => e (frees_inj (by omega) (by omega) e2.symm)) _ (notin_getD g4))
    omega
end Go.Proofs.Ytdecaokngedghaa
namespace Go.Proofs.Ytdecaokngedghaa
theorem form_mat {p : Int} {M : List (List Int)} (h : matB p M = true) : matB p (formR p M) = true ∧ ((formR p M).headD []).length = (M.headD []).length ∧ (formR p M).length = M.length := by
  have hp := prime_of_mat h
  obtain ⟨a1, a2, a3, a4, _⟩ := matB_true h
  obtain ⟨i1, i2, _, _⟩ := elim_inv hp (VM_of_mat h) (M.headD []).length
  rw [formR_yes h]
  exact ⟨matB_mk i2 (by omega) (by omega) a3 a4, headD_len i2 (by omega), i1⟩
theorem elim_form {p : Int} {M : List (List Int)} (h : matB p M = true) : elim p (formR p M) (M.headD []).length = elim p M (M.headD []).length := by
  have hp := prime_of_mat h
  obtain ⟨i1, i2, _, _⟩ := elim_inv hp (VM_of_mat h) (M.headD []).length
  rw [formR_yes h]
  refine form_unique hp i2 (VM_of_mat h) i1 fun v => ?_
  rw [i1]
  exact elim_ker hp (VM_of_mat h) v _ (Nat.le_refl _)
theorem form_form {p : Int} {M : List (List Int)} (h : matB p M = true) : formR p (formR p M) = formR p M := by
  obtain ⟨m1, m2, _⟩ := form_mat h
  rw [formR_yes m1, m2, elim_form h, ← formR_yes h]
theorem kernel_form {p : Int} {M : List (List Int)} (h : matB p M = true) : kernelR p (formR p M) = kernelR p M := by
  obtain ⟨m1, m2, _⟩ := form_mat h
  rw [kernelR_yes m1, kernelR_yes h, m2, elim_form h]
/-- with the first row added to each other one -/
def moreRow (p : Int) (M : List (List Int)) (k : Nat) : List Int := if k = 0 then M.getD 0 [] else List.zipWith (fun x y => (x + y) % p) (M.getD k []) (M.getD 0 [])
def moreM (p : Int) (M : List (List Int)) : List (List Int) := (List.range M.length).map (moreRow p M)
theorem moreM_len (p : Int) (M : List (List Int)) : (moreM p M).length = M.length := by simp [moreM]
theorem moreM_get (p : Int) (M : List (List Int)) {k : Nat} (h : k < M.length) : (moreM p M)[k]? = some (moreRow p M k) := by unfold moreM; rw [List.getElem?_map, List.getElem?_range h]; rfl
theorem moreRow_len {p : Int} {l : Nat} {M : List (List Int)} (h : VM p l M) {k : Nat} (hk : k < M.length) : (moreRow p M k).length = l := by
  unfold moreRow
  have h0 := (h.getD (i := 0) (by omega)).1
  have h1 := (h.getD hk).1
  split
  · exact h0
  · rw [List.length_zipWith, h0, h1]; exact Nat.min_self _
theorem VM.more {p : Int} (hp : primeB p = true) {l : Nat} {M : List (List Int)} (h : VM p l M) : VM p l (moreM p M) := by
  intro row hr
  unfold moreM at hr
  obtain ⟨k, hk, rfl⟩ := List.mem_map.1 hr
  have hk := List.mem_range.1 hk
  refine ⟨moreRow_len h hk, ?_⟩
  unfold moreRow
  split
  · exact (h.getD (by omega)).2
  · intro x hx
    obtain ⟨a, b, rfl⟩ := zipWith_mem _ hx
    exact numB_emod hp _
theorem more_at {p : Int} {l : Nat} {M : List (List Int)} (h : VM p l M) {k j : Nat} (hk : k < M.length) (hj : j < l) : at2 (moreM p M) k j = if k = 0 then at2 M k j else (at2 M k j + at2 M 0 j) % p := by
  show ((moreM p M).getD k []).getD j 0 = _
  rw [getD_row (moreM_get p M hk)]
  unfold moreRow
  by_cases e : k = 0
  · rw [if_pos e, if_pos e, e]; rfl
  · rw [if_neg e, if_neg e]
    have h0 := (h.getD (i := 0) (by omega)).1
    have h1 := (h.getD hk).1
    rw [List.getD_eq_getElem?_getD, List.getElem?_zipWith, List.getElem?_eq_getElem (show j < (M.getD k []).length by omega), List.getElem?_eq_getElem (show j < (M.getD 0 []).length by omega)]
    unfold at2
    rw [List.getD_eq_getElem?_getD (l := M.getD k []), List.getD_eq_getElem?_getD (l := M.getD 0 []), List.getElem?_eq_getElem (show j < (M.getD k []).length by omega), List.getElem?_eq_getElem (show j < (M.getD 0 []).length by omega)]
    rfl
theorem more_mat {p : Int} {M : List (List Int)} (h : matB p M = true) : matB p (moreM p M) = true ∧ ((moreM p M).headD []).length = (M.headD []).length := by
  have hp := prime_of_mat h
  obtain ⟨a1, a2, a3, a4, _⟩ := matB_true h
  have hV := VM.more hp (VM_of_mat h)
  have hl := moreM_len p M
  exact ⟨matB_mk hV (by omega) (by omega) a3 a4, headD_len hV (by omega)⟩
theorem more_ker {p : Int} {l : Nat} {M : List (List Int)} (h : VM p l M) (v : Nat → Int) : Ker p M.length l (at2 (moreM p M)) v ↔ Ker p M.length l (at2 M) v := by
  have h0 : ∀ i, i < M.length → i = 0 → sigN l (fun j => at2 (moreM p M) i j * v j) = sigN l (fun j => at2 M i j * v j) := fun i hi e => sigN_congr fun j hj => by rw [more_at h hi hj, if_pos e]
  have h1 : ∀ i, i < M.length → i ≠ 0 → p ∣ sigN l (fun j => at2 (moreM p M) i j * v j) - (sigN l (fun j => at2 M i j * v j) + sigN l (fun j => at2 M 0 j * v j)) := fun i hi e => by
    rw [← sigN_add]
    refine sigN_near fun j hj => ?_
    rw [more_at h hi hj, if_neg e, ← Int.add_mul, ← Int.sub_mul]
    exact dvd_mulR (near_mod _ _) _
  constructor
  · intro hk i hi
    have hz := hk 0 (by omega)
    rw [h0 0 (by omega) rfl] at hz
    by_cases e : i = 0
    · rw [e]; exact hz
    · have := (near_move (h1 i hi e)).1 (hk i hi)
      have h3 := Int.dvd_sub this hz
      rwa [Int.add_sub_cancel] at h3
  · intro hk i hi
    by_cases e : i = 0
    · rw [h0 i hi e]; exact hk i hi
    · exact (near_move (h1 i hi e)).2 (Int.dvd_add (hk i hi) (hk 0 (by omega)))
theorem form_more {p : Int} {M : List (List Int)} (h : matB p M = true) : formR p (moreM p M) = formR p M := by
  have hp := prime_of_mat h
  obtain ⟨m1, m2⟩ := more_mat h
  rw [formR_yes m1, formR_yes h, m2]
  rw [form_unique hp (VM.more hp (VM_of_mat h)) (VM_of_mat h) (moreM_len p M) fun v => by rw [moreM_len]; exact more_ker (VM_of_mat h) v]
/-- the heads are told by what is taken to 0 -/
theorem heads_sub {p : Int} (hp : primeB p = true) {n n' l : Nat} {F F' : List (List Int)} {hs hs' : List Nat} (hR : Red n l (at2 F) hs) (hR' : Red n' l (at2 F') hs') (hkk : ∀ v, Ker p n l (at2 F) v → Ker p n' l (at2 F') v) : ∀ x, x ∈ hs' → x ∈ hs := by
  intro x hx
  have hpb := prime_ge hp
  refine Classical.byContradiction fun hno => ?_
  obtain ⟨q, hq, rfl⟩ := mem_getD hx
  have hlt := hR'.lt q hq
  have h1 := head_zero hR' (hkk _ (free_ker hR hlt hno)) hq (fun j hj => free_after hR j hj)
  have h2 : freeV p F hs (hs'.getD q 0) l (hs'.getD q 0) = 1 := kerFill_col hlt _ (Nat.le_refl _) (notin_getD hno)
  rw [h2] at h1
  have := Int.le_of_dvd (by omega) h1
  omega
theorem heads_same {p : Int} (hp : primeB p = true) {n n' l : Nat} {F F' : List (List Int)} {hs hs' : List Nat} (hR : Red n l (at2 F) hs) (hR' : Red n' l (at2 F') hs') (hkk : ∀ v, Ker p n l (at2 F) v ↔ Ker p n' l (at2 F') v) : hs = hs' :=
  sorted_ext _ _ hR.sorted hR'.sorted (fun x => ⟨heads_sub hp hR' hR (fun v hv => (hkk v).2 hv) x, heads_sub hp hR hR' (fun v hv => (hkk v).1 hv) x⟩)
theorem widen_at {p : Int} {l : Nat} {M : List (List Int)} {want : List Int} (h : VM p l M) (hw : want.length = M.length) {i : Nat} (hi : i < M.length) : (∀ j, j < l → at2 (widenM M want) i j = at2 M i j) ∧ at2 (widenM M want) i l = want.getD i 0 := by
  have h1 : M[i]? = some (M.getD i []) := by rw [getQ, List.getElem?_eq_getElem hi]; rfl
  have h2 : want[i]? = some (want.getD i 0) := by rw [List.getD_eq_getElem?_getD, List.getElem?_eq_getElem (show i < want.length by omega)]; rfl
  have h3 := getD_row (widenM_get h1 h2)
  have h4 := (h.getD hi).1
  refine ⟨fun j hj => ?_, ?_⟩
  · show ((widenM M want).getD i []).getD j 0 = _
    rw [h3, List.getD_eq_getElem?_getD, List.getElem?_append_left (by omega), ← List.getD_eq_getElem?_getD]; rfl
  · show ((widenM M want).getD i []).getD l 0 = _
    rw [h3, List.getD_eq_getElem?_getD, List.getElem?_append_right (by omega), h4]; simp
/-- the numbers so far, 0 behind -/
def cut0 (l : Nat) (v : Nat → Int) (j : Nat) : Int := if j < l then v j else 0
theorem ker_cut {p : Int} {n l : Nat} {f g : Nat → Nat → Int} {v : Nat → Int} (h : ∀ i, i < n → ∀ j, j < l → f i j = g i j) : Ker p n (l + 1) f (cut0 l v) ↔ Ker p n l g v := by
  have e : ∀ i, i < n → sigN (l + 1) (fun j => f i j * cut0 l v j) = sigN l (fun j => g i j * v j) := fun i hi => by
    show sigN l (fun j => f i j * cut0 l v j) + f i l * cut0 l v l = _
    rw [show cut0 l v l = 0 by unfold cut0; rw [if_neg (by omega)], Int.mul_zero, Int.add_zero]
    exact sigN_congr fun j hj => by rw [h i hi j hj]; unfold cut0; rw [if_pos hj]
  exact ⟨fun hk i hi => by rw [← e i hi]; exact hk i hi, fun hk i hi => by rw [e i hi]; exact hk i hi⟩
theorem solFill_head {F : List (List Int)} {hs : List Nat} {l : Nat} (hl : ∀ q, q < hs.length → hs.getD q 0 < l) (hd : ∀ q q', q < q' → q' < hs.length → hs.getD q 0 < hs.getD q' 0) : ∀ k, k ≤ hs.length → ∀ q, q < k → (solFill F hs l k).getD (hs.getD q 0) 0 = at2 F q l
  | 0, _, _, hq => absurd hq (by omega)
  | k + 1, hk, q, hq => by
    show ((solFill F hs l k).set (hs.getD k 0) (at2 F k l)).getD (hs.getD q 0) 0 = _
    rw [List.getD_eq_getElem?_getD]
    by_cases e : q = k
    · subst e
      rw [List.getElem?_set_self (by rw [solFill_len]; exact hl q (by omega))]; rfl
    · have := hd q k (by omega) (by omega)
      rw [List.getElem?_set_ne (by omega), ← List.getD_eq_getElem?_getD]
      exact solFill_head hl hd k (by omega) q (by omega)
theorem solFill_off {F : List (List Int)} {hs : List Nat} {l j : Nat} : ∀ k, (∀ q, q < k → hs.getD q 0 ≠ j) → (solFill F hs l k).getD j 0 = 0
  | 0, _ => by
    show (List.replicate l (0 : Int)).getD j 0 = 0
    rw [List.getD_eq_getElem?_getD, List.getElem?_replicate]
    split <;> rfl
  | k + 1, h => by
    show ((solFill F hs l k).set (hs.getD k 0) (at2 F k l)).getD j 0 = 0
    rw [List.getD_eq_getElem?_getD, List.getElem?_set_ne (h k (by omega)), ← List.getD_eq_getElem?_getD]
    exact solFill_off k (fun q hq => h q (by omega))
/-- equations: the sums are the numbers; a further column makes the rank no greater exactly if there is a solution -/
theorem solve_law {p : Int} {M : List (List Int)} {want : List Int} (h : matB p M = true) (hw : want.length = M.length) (hv : rowB p want = true) :
    ((solveR p M want).isSome = decide ((elim p (widenM M want) ((M.headD []).length + 1)).2.length = (elim p M (M.headD []).length).2.length)) ∧
    (∀ x, solveR p M want = some x → x.length = (M.headD []).length ∧ ∀ i, i < M.length → sigN (M.headD []).length (fun j => at2 M i j * x.getD j 0) % p = want.getD i 0) := by
  have hp := prime_of_mat h
  have hpb := prime_ge hp
  have hV := VM_of_mat h
  rw [solveR_yes (by unfold okS; rw [h, hv]; simp [hw])]
  obtain ⟨l, hl⟩ : ∃ l, (M.headD []).length = l := ⟨_, rfl⟩
  rw [hl] at hV ⊢
  have hVW := VM.widen hV (rowB_mem hv)
  have hWl := widenM_len hw
  obtain ⟨W, hW⟩ : ∃ W, widenM M want = W := ⟨_, rfl⟩
  have hwa := fun {i : Nat} (hi : i < M.length) => widen_at hV hw hi
  rw [hW] at hVW hWl hwa ⊢
  have hR := elim_red hp hV l (Nat.le_refl _)
  have hRW := elim_red hp hVW l (by omega)
  have hE := fun v => elim_ker hp hV v l (Nat.le_refl _)
  have hEW := fun v => elim_ker hp hVW v l (by omega)
  rw [hWl] at hRW hEW
  have hsame : (elim p W l).2 = (elim p M l).2 := heads_same hp hRW hR fun v => by
    rw [← ker_cut (f := at2 (elim p W l).1) (g := at2 (elim p W l).1) (fun _ _ _ _ => rfl), hEW, hE]
    exact ker_cut fun i hi j hj => (hwa hi).1 j hj
  rcases hf : firstW (elim p W l).1 l ((elim p W l).1.length - (elim p W l).2.length) (elim p W l).2.length with _ | r
  · rw [elim_none hf, solveW_yes hf]
    refine ⟨by rw [hsame]; simp, fun x hx => ?_⟩
    obtain rfl := (Option.some.inj hx).symm
    refine ⟨solFill_len _ _ _ _, fun i hi => ?_⟩
    obtain ⟨i1, i2, i3, _⟩ := elim_inv hp hVW l
    obtain ⟨F, hF⟩ : ∃ F, (elim p W l).1 = F := ⟨_, rfl⟩
    obtain ⟨hs, hHS⟩ : ∃ hs, (elim p W l).2 = hs := ⟨_, rfl⟩
    rw [hF, hHS] at hRW hf
    rw [hF] at hEW i1
    rw [hHS] at i3
    rw [hF, hHS]
    obtain ⟨x, hx⟩ : ∃ x : Nat → Int, x = fun j => (solFill F hs l hs.length).getD j 0 := ⟨_, rfl⟩
    have hxh : ∀ q, q < hs.length → x (hs.getD q 0) = at2 F q l := fun q hq => by rw [hx]; exact solFill_head hRW.lt hRW.inc _ (Nat.le_refl _) q hq
    have hx0 : ∀ j, (∀ q, q < hs.length → hs.getD q 0 ≠ j) → x j = 0 := fun j hj => by rw [hx]; exact solFill_off _ hj
    have hk := (hEW (fun j => if j < l then x j else -1)).1 (fun i hi => by
      show p ∣ sigN l (fun j => at2 F i j * (if j < l then x j else -1)) + at2 F i l * (if l < l then x l else -1)
      rw [if_neg (by omega), sigN_congr (g := fun j => at2 F i j * x j) (fun j hj => by rw [if_pos hj])]
      rw [sigN_heads (fun k => hs.getD k 0) (m := hs.length) hRW.lt hRW.inc (fun j _ hne => by rw [hx0 j hne]; simp)]
      by_cases hi2 : i < hs.length
      · rw [sigN_one hi2 (fun k hk hne => by rw [hRW.one k hk i hi, if_neg (fun e => hne e.symm)]; simp), hRW.one i hi2 i hi, if_pos rfl, hxh i hi2]
        rw [show 1 * at2 F i l + at2 F i l * -1 = 0 by omega]
        exact Int.dvd_zero p
      · rw [sigN_zero (fun k hk => by rw [hRW.one k hk i hi, if_neg (by omega)]; simp), firstW_none hf i (by omega) (by rw [i1]; omega)]
        simp) i hi
    have hk2 : p ∣ sigN l (fun j => at2 W i j * (if j < l then x j else -1)) + at2 W i l * (if l < l then x l else -1) := hk
    rw [if_neg (by omega), sigN_congr (g := fun j => at2 M i j * x j) (fun j hj => by rw [if_pos hj, (hwa hi).1 j hj]), (hwa hi).2] at hk2
    have hb : numB p (want.getD i 0) = true := by
      rw [List.getD_eq_getElem?_getD, List.getElem?_eq_getElem (show i < want.length by omega)]
      exact rowB_mem hv _ (List.getElem_mem _)
    have hb := numB_true hb
    rw [show (fun j => at2 M i j * (solFill F hs l hs.length).getD j 0) = fun j => at2 M i j * x j by rw [hx]]
    have h4 := mod_of_near (p := p) (x := sigN l (fun j => at2 M i j * x j)) (y := want.getD i 0) (by rwa [show sigN l (fun j => at2 M i j * x j) - want.getD i 0 = sigN l (fun j => at2 M i j * x j) + want.getD i 0 * -1 by omega])
    rw [h4]
    exact Int.emod_eq_of_lt hb.2.1 hb.2.2
  · rw [elim_some hf, solveW_no hf]
    refine ⟨?_, fun x hx => by cases hx⟩
    rw [hsame]
    simp
end Go.Proofs.Ytdecaokngedghaa

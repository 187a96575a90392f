/-
  Plain mathematics: the elimination keeps what is taken to 0, and reaches a form of unit columns.
-/
import Derived.Test.YtpelokdgjdljfabLin
namespace Go.Proofs.Ytpelokdgjdljfab
theorem dvd_mulR {p a : Int} (h : p ∣ a) (c : Int) : p ∣ a * c := by obtain ⟨k, rfl⟩ := h; exact ⟨k * c, by grind⟩
theorem dvd_mulL {p a : Int} (h : p ∣ a) (c : Int) : p ∣ c * a := by obtain ⟨k, rfl⟩ := h; exact ⟨c * k, by grind⟩
/-- where a row comes from when two are exchanged -/
def swp (r top a : Nat) : Nat := if a = top then r else if a = r then top else a
theorem swp_swp (r top a : Nat) : swp r top (swp r top a) = a := by
  unfold swp
  by_cases h1 : a = top <;> by_cases h2 : a = r <;> simp_all
  all_goals (split <;> simp_all)
/-- the matrix behind one step of the elimination -/
def stepM (p : Int) (N : List (List Int)) (r top c : Nat) : List (List Int) := clearM p (chooseM p N r top c) top c
theorem stepM_top {p : Int} {l : Nat} {N : List (List Int)} (hp : primeB p = true) (h : VM p l N) {r top c : Nat} (hr : r < N.length) (ht : top < N.length) (b : Nat) :
    at2 (stepM p N r top c) top b = at2 N r b * invM p (at2 N r c) % p := by
  unfold stepM
  rw [at2_clear (h.choose hp hr ht) (by rw [chooseM_len]; exact ht) (by rw [chooseM_len]; exact ht), if_pos rfl, at2_choose hr ht, if_pos rfl]
theorem stepM_at {p : Int} {l : Nat} {N : List (List Int)} (hp : primeB p = true) (h : VM p l N) {r top c : Nat} (hr : r < N.length) (ht : top < N.length) {a : Nat} (ha : a < N.length) (hat : a ≠ top) (b : Nat) :
    at2 (stepM p N r top c) a b = (at2 N (swp r top a) b - at2 N (swp r top a) c * at2 (stepM p N r top c) top b) % p := by
  have e : ∀ b, at2 (chooseM p N r top c) a b = at2 N (swp r top a) b := fun b => by
    rw [at2_choose hr ht, if_neg hat]
    unfold swp
    rw [if_neg hat]
    split <;> rfl
  rw [stepM_top hp h hr ht]
  unfold stepM
  rw [at2_clear (h.choose hp hr ht) (by rw [chooseM_len]; exact ht) (by rw [chooseM_len]; exact ha), if_neg hat, e, e, at2_choose hr ht, if_pos rfl]
theorem stepM_len (p : Int) (N : List (List Int)) (r top c : Nat) : (stepM p N r top c).length = N.length := by unfold stepM; rw [clearM_len, chooseM_len]
theorem swp_lt {r top a n : Nat} (hr : r < n) (ht : top < n) (ha : a < n) : swp r top a < n := by
  unfold swp
  split
  · exact hr
  · split
    · exact ht
    · exact ha
theorem stepM_ker {p : Int} {l : Nat} {N : List (List Int)} (hp : primeB p = true) (h : VM p l N) {r top c : Nat} (hr : r < N.length) (ht : top < N.length) (hu : p ∣ at2 N r c * invM p (at2 N r c) - 1) (v : Nat → Int) :
    Ker p N.length l (at2 (stepM p N r top c)) v ↔ Ker p N.length l (at2 N) v := by
  obtain ⟨u, hu'⟩ : ∃ u, invM p (at2 N r c) = u := ⟨_, rfl⟩
  have htop : p ∣ sigN l (fun j => at2 (stepM p N r top c) top j * v j) - u * sigN l (fun j => at2 N r j * v j) := by
    rw [← sigN_mul]
    refine sigN_near fun k _ => ?_
    rw [stepM_top hp h hr ht, hu', show at2 N r k * u % p * v k - u * (at2 N r k * v k) = (at2 N r k * u % p - at2 N r k * u) * v k by grind]
    exact dvd_mulR (near_mod _ _) _
  have hrow : ∀ a, a < N.length → a ≠ top → p ∣ sigN l (fun j => at2 (stepM p N r top c) a j * v j) - (sigN l (fun j => at2 N (swp r top a) j * v j) - at2 N (swp r top a) c * sigN l (fun j => at2 (stepM p N r top c) top j * v j)) := by
    intro a ha hat
    rw [← sigN_mul, ← sigN_sub]
    refine sigN_near fun k _ => ?_
    rw [stepM_at hp h hr ht ha hat]
    obtain ⟨y, hy⟩ : ∃ y, at2 (stepM p N r top c) top k = y := ⟨_, rfl⟩
    rw [hy]
    obtain ⟨z, hz⟩ : ∃ z, at2 N (swp r top a) k = z := ⟨_, rfl⟩
    obtain ⟨t, htt⟩ : ∃ t, at2 N (swp r top a) c = t := ⟨_, rfl⟩
    rw [hz, htt, show (z - t * y) % p * v k - (z * v k - t * (y * v k)) = ((z - t * y) % p - (z - t * y)) * v k by grind]
    exact dvd_mulR (near_mod _ _) _
  rw [hu'] at hu
  constructor
  · intro hk
    have h0 : p ∣ u * sigN l (fun j => at2 N r j * v j) := (near_move htop).1 (hk top ht)
    have hS : p ∣ sigN l (fun j => at2 N r j * v j) := by
      obtain ⟨S, hS⟩ : ∃ S, sigN l (fun j => at2 N r j * v j) = S := ⟨_, rfl⟩
      rw [hS] at h0 ⊢
      obtain ⟨x, hx⟩ : ∃ x, at2 N r c = x := ⟨_, rfl⟩
      rw [hx] at hu
      have h1 := Int.dvd_sub (dvd_mulL h0 x) (dvd_mulR hu S)
      rwa [show x * (u * S) - (x * u - 1) * S = S by grind] at h1
    intro i hi
    by_cases hir : i = r
    · subst hir; exact hS
    · have hs : swp r top i ≠ top := by
        intro e
        have := swp_swp r top i
        rw [e] at this
        unfold swp at this
        rw [if_pos rfl] at this
        exact hir this.symm
      have h1 := hrow (swp r top i) (swp_lt hr ht hi) hs
      rw [swp_swp] at h1
      have h2 := (near_move h1).1 (hk _ (swp_lt hr ht hi))
      have h3 := Int.dvd_add h2 (dvd_mulL (hk top ht) (at2 N i c))
      obtain ⟨T, hT⟩ : ∃ T, sigN l (fun j => at2 (stepM p N r top c) top j * v j) = T := ⟨_, rfl⟩
      rw [hT] at h3
      rwa [show sigN l (fun j => at2 N i j * v j) - at2 N i c * T + at2 N i c * T = sigN l (fun j => at2 N i j * v j) by omega] at h3
  · intro hk
    have h0 : p ∣ sigN l (fun j => at2 (stepM p N r top c) top j * v j) := (near_move htop).2 (dvd_mulL (hk r hr) u)
    intro a ha
    by_cases hat : a = top
    · subst hat; exact h0
    · exact (near_move (hrow a ha hat)).2 (Int.dvd_sub (hk _ (swp_lt hr ht ha)) (dvd_mulL h0 _))
/-- unit columns, rows that begin behind each other, rows of 0 -/
structure Red (n c : Nat) (f : Nat → Nat → Int) (hs : List Nat) : Prop where
  lt : ∀ k, k < hs.length → hs.getD k 0 < c
  inc : ∀ k k', k < k' → k' < hs.length → hs.getD k 0 < hs.getD k' 0
  le : hs.length ≤ n
  one : ∀ k, k < hs.length → ∀ i, i < n → f i (hs.getD k 0) = if i = k then 1 else 0
  low : ∀ i, hs.length ≤ i → i < n → ∀ j, j < c → f i j = 0
  pre : ∀ k, k < hs.length → ∀ j, j < hs.getD k 0 → f k j = 0
theorem getD_snoc {hs : List Nat} {c k : Nat} : (hs ++ [c]).getD k 0 = if k < hs.length then hs.getD k 0 else if k = hs.length then c else 0 := by
  simp only [List.getD_eq_getElem?_getD]
  by_cases h : k < hs.length
  · rw [if_pos h, List.getElem?_append_left h]
  · rw [if_neg h, List.getElem?_append_right (by omega)]
    by_cases h2 : k = hs.length
    · subst h2; simp
    · rw [if_neg h2, List.getElem?_eq_none (by simp; omega)]; rfl
theorem mod_01 {p : Int} (hp : 2 ≤ p) (b : Prop) [Decidable b] : (if b then (1 : Int) else 0) % p = if b then 1 else 0 := by
  split
  · exact Int.emod_eq_of_lt (by omega) (by omega)
  · simp
theorem Red.step {p : Int} {l : Nat} {N : List (List Int)} (hp : primeB p = true) (h : VM p l N) {hs : List Nat} {c r : Nat} (hR : Red N.length c (at2 N) hs) (hr1 : hs.length ≤ r) (hr : r < N.length) (hx : at2 N r c * invM p (at2 N r c) % p = 1) :
    Red N.length (c + 1) (at2 (stepM p N r hs.length c)) (hs ++ [c]) := by
  have hpb := prime_ge hp
  have ht : hs.length < N.length := by omega
  have hT := stepM_top hp h hr ht (c := c)
  have hA := fun {a : Nat} (ha : a < N.length) (hat : a ≠ hs.length) => stepM_at hp h hr ht (c := c) ha hat
  have top0 : ∀ j, j < c → at2 (stepM p N r hs.length c) hs.length j = 0 := fun j hj => by rw [hT, hR.low r hr1 hr j hj]; simp
  have topc : at2 (stepM p N r hs.length c) hs.length c = 1 := by rw [hT, hx]
  have colc : ∀ a, a < N.length → a ≠ hs.length → at2 (stepM p N r hs.length c) a c = 0 := fun a ha hat => by
    rw [hA ha hat, topc, Int.mul_one, Int.sub_self]; simp
  have oth : ∀ a, a < N.length → a ≠ hs.length → ∀ j, j < c → at2 (stepM p N r hs.length c) a j = at2 N (swp r hs.length a) j % p := fun a ha hat j hj => by
    rw [hA ha hat, top0 j hj, Int.mul_zero, Int.sub_zero]
  have sge : ∀ a, hs.length ≤ a → hs.length ≤ swp r hs.length a := fun a ha => by
    unfold swp; split
    · exact hr1
    · split <;> omega
  have slo : ∀ a, a < hs.length → swp r hs.length a = a := fun a ha => by unfold swp; rw [if_neg (by omega), if_neg (by omega)]
  refine ⟨fun k hk => ?_, fun k k' hkk hk' => ?_, by simp; omega, fun k hk i hi => ?_, fun i hi1 hi j hj => ?_, fun k hk j hj => ?_⟩
  · rw [getD_snoc]
    simp at hk
    split
    · have := hR.lt k (by omega); omega
    · split <;> omega
  · simp at hk'
    rw [getD_snoc, getD_snoc, if_pos (by omega)]
    by_cases h2 : k' < hs.length
    · rw [if_pos h2]; exact hR.inc k k' hkk h2
    · rw [if_neg h2, if_pos (by omega)]; exact hR.lt k (by omega)
  · simp at hk
    rw [getD_snoc]
    by_cases h2 : k < hs.length
    · rw [if_pos h2]
      have hlt := hR.lt k h2
      by_cases hit : i = hs.length
      · subst hit
        rw [top0 _ hlt, if_neg (by omega)]
      · rw [oth i hi hit _ hlt, hR.one k h2 _ (swp_lt hr ht hi), mod_01 hpb.1]
        by_cases hil : i < hs.length
        · rw [slo i hil]
        · have := sge i (by omega)
          rw [if_neg (by omega), if_neg (by omega)]
    · rw [if_neg h2, if_pos (by omega)]
      obtain rfl : k = hs.length := by omega
      by_cases hit : i = hs.length
      · subst hit; rw [topc, if_pos rfl]
      · rw [colc i hi hit, if_neg hit]
  · simp at hi1
    by_cases hjc : j = c
    · subst hjc; exact colc i hi (by omega)
    · rw [oth i hi (by omega) j (by omega), hR.low _ (sge i (by omega)) (swp_lt hr ht hi) j (by omega)]; simp
  · simp at hk
    rw [getD_snoc] at hj
    by_cases h2 : k < hs.length
    · rw [if_pos h2] at hj
      have hlt := hR.lt k h2
      rw [oth k (by omega) (by omega) j (by omega), slo k h2, hR.pre k h2 j hj]; simp
    · rw [if_neg h2, if_pos (by omega)] at hj
      obtain rfl : k = hs.length := by omega
      exact top0 j hj
end Go.Proofs.Ytpelokdgjdljfab

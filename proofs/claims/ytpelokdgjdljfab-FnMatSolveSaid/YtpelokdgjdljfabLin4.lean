/-
  Plain mathematics: the rank is the least inner length of a product.
-/
import Derived.Test.YtpelokdgjdljfabLin3
namespace Go.Proofs.Ytpelokdgjdljfab
theorem near_symm {p a b : Int} (h : p ∣ a - b) : p ∣ b - a := by have := Int.dvd_neg.2 h; rwa [Int.neg_sub] at this
theorem near_trans {p a b c : Int} (h : p ∣ a - b) (h' : p ∣ b - c) : p ∣ a - c := by have := Int.dvd_add h h'; rwa [show a - b + (b - c) = a - c by omega] at this
theorem sigN_mulr (c : Int) (f : Nat → Int) (n : Nat) : sigN n (fun k => f k * c) = sigN n f * c := by
  rw [Int.mul_comm, ← sigN_mul]; exact sigN_congr fun k _ => Int.mul_comm _ _
/-- a matrix as a list -/
def mk2 (p : Int) (n l : Nat) (f : Nat → Nat → Int) : List (List Int) := (List.range n).map fun i => (List.range l).map fun j => f i j % p
theorem mk2_len (p : Int) (n l : Nat) (f : Nat → Nat → Int) : (mk2 p n l f).length = n := by simp [mk2]
theorem mk2_VM {p : Int} (hp : primeB p = true) (n l : Nat) (f : Nat → Nat → Int) : VM p l (mk2 p n l f) := by
  intro row hr
  unfold mk2 at hr
  obtain ⟨i, hi, rfl⟩ := List.mem_map.1 hr
  refine ⟨by simp, fun x hx => ?_⟩
  obtain ⟨j, hj, rfl⟩ := List.mem_map.1 hx
  exact numB_emod hp _
theorem mk2_at {p : Int} {n l : Nat} {f : Nat → Nat → Int} {i j : Nat} (hi : i < n) (hj : j < l) : at2 (mk2 p n l f) i j = f i j % p := by
  unfold at2 mk2
  rw [getQ, List.getElem?_map, List.getElem?_range hi]
  show ((List.range l).map _).getD j 0 = _
  rw [List.getD_eq_getElem?_getD, List.getElem?_map, List.getElem?_range hj]; rfl
/-- fewer sums than columns: some numbers, not all 0, are taken to 0 -/
theorem pigeon {p : Int} (hp : primeB p = true) {r s : Nat} (h : r < s) (f : Nat → Nat → Int) : ∃ v : Nat → Int, (∃ c, c < s ∧ v c = 1) ∧ ∀ k, k < r → p ∣ sigN s (fun q => f k q * v q) := by
  have hV := mk2_VM hp r s f
  have hR := elim_red hp hV s (Nat.le_refl _)
  rw [mk2_len] at hR
  obtain ⟨c, hc, hm⟩ := free_exists hR (by have := hR.le; omega)
  have hk := free_ker (p := p) hR hc hm
  have hk2 := (elim_ker hp hV _ s (Nat.le_refl _)).1 (by rw [mk2_len]; exact hk)
  refine ⟨freeV p (elim p (mk2 p r s f) s).1 (elim p (mk2 p r s f) s).2 c s, ⟨c, hc, kerFill_col hc _ (Nat.le_refl _) (notin_getD hm)⟩, fun k hk' => ?_⟩
  have := hk2 k (by rw [mk2_len]; exact hk')
  refine (near_move (sigN_near fun q hq => ?_)).1 this
  rw [mk2_at hk' hq, ← Int.sub_mul]
  exact dvd_mulR (near_mod _ _) _
theorem sigN_plus {l j : Nat} (hj : j < l) (g : Nat → Int) : sigN l g = g j + sigN l (fun k => if k = j then 0 else g k) := by
  have e : sigN l g = sigN l (fun k => (if k = j then g k else 0) + (if k = j then 0 else g k)) := sigN_congr (fun k _ => by split <;> omega)
  rw [e, sigN_add, sigN_one hj (fun k _ hne => if_neg hne), if_pos rfl]
/-- each matrix is the product of its columns at the heads and its form -/
theorem elim_fac {p : Int} (hp : primeB p = true) {l : Nat} {M : List (List Int)} (h : VM p l M) : ∀ i, i < M.length → ∀ j, j < l → p ∣ at2 M i j - sigN (elim p M l).2.length (fun k => at2 M i ((elim p M l).2.getD k 0) * at2 (elim p M l).1 k j) := by
  intro i hi j hj
  have hR := elim_red hp h l (Nat.le_refl _)
  have hE := fun v => elim_ker hp h v l (Nat.le_refl _)
  obtain ⟨F, hF⟩ : ∃ F, (elim p M l).1 = F := ⟨_, rfl⟩
  obtain ⟨hs, hHS⟩ : ∃ hs, (elim p M l).2 = hs := ⟨_, rfl⟩
  rw [hF, hHS] at hR
  rw [hF] at hE
  rw [hF, hHS]
  by_cases hm : j ∈ hs
  · obtain ⟨q, hq, rfl⟩ := mem_getD hm
    have hle := hR.le
    rw [sigN_one hq (fun k hk hne => by rw [hR.one q hq k (by omega), if_neg hne]; simp), hR.one q hq q (by omega), if_pos rfl, Int.mul_one, Int.sub_self]
    exact Int.dvd_zero p
  · have hk := (hE _).1 (free_ker hR hj hm) i hi
    have hn := notin_getD hm
    have hcol : freeV p F hs j l j = 1 := kerFill_col hj _ (Nat.le_refl _) hn
    rw [sigN_plus hj, sigN_heads (fun k => hs.getD k 0) (m := hs.length) hR.lt hR.inc (fun k _ hne => ?_)] at hk
    · rw [hcol, Int.mul_one] at hk
      rw [sigN_congr (n := hs.length) (g := fun k => at2 M i (hs.getD k 0) * (-(at2 F k j) % p)) (fun k hk' => by
        rw [if_neg (hn k hk')]
        have : freeV p F hs j l (hs.getD k 0) = -(at2 F k j) % p := kerFill_head hR.lt hR.inc _ (Nat.le_refl _) k hk'
        rw [this])] at hk
      have h2 : p ∣ sigN hs.length (fun k => at2 M i (hs.getD k 0) * (-(at2 F k j) % p)) - (-1) * sigN hs.length (fun k => at2 M i (hs.getD k 0) * at2 F k j) := by
        rw [← sigN_mul]
        refine sigN_near fun k _ => ?_
        obtain ⟨x, hx⟩ : ∃ x, at2 M i (hs.getD k 0) = x := ⟨_, rfl⟩
        rw [hx, show x * (-at2 F k j % p) - -1 * (x * at2 F k j) = x * (-at2 F k j % p - -at2 F k j) by grind]
        exact dvd_mulL (near_mod _ _) _
      have h3 := Int.dvd_sub hk h2
      obtain ⟨S, hS⟩ : ∃ S, sigN hs.length (fun k => at2 M i (hs.getD k 0) * at2 F k j) = S := ⟨_, rfl⟩
      rw [hS] at h3 ⊢
      obtain ⟨T, hT⟩ : ∃ T, sigN hs.length (fun k => at2 M i (hs.getD k 0) * (-(at2 F k j) % p)) = T := ⟨_, rfl⟩
      rw [hT] at h3
      rwa [show at2 M i j + T - (T - -1 * S) = at2 M i j - S by omega] at h3
    · by_cases e : k = j
      · simp [e]
      · simp only [if_neg e]
        have : freeV p F hs j l k = 0 := kerFill_off e _ hne
        rw [this]; simp
/-- a product with so many numbers between -/
def Fac (p : Int) (n l r : Nat) (f : Nat → Nat → Int) : Prop := ∃ X Y : Nat → Nat → Int, ∀ i, i < n → ∀ j, j < l → p ∣ f i j - sigN r (fun k => X i k * Y k j)
theorem Fac.elim {p : Int} (hp : primeB p = true) {l : Nat} {M : List (List Int)} (h : VM p l M) : Fac p M.length l (elim p M l).2.length (at2 M) := ⟨_, _, elim_fac hp h⟩
theorem Fac.congr {p : Int} {n l r : Nat} {f g : Nat → Nat → Int} (h : Fac p n l r f) (hg : ∀ i, i < n → ∀ j, j < l → p ∣ g i j - f i j) : Fac p n l r g := by
  obtain ⟨X, Y, h⟩ := h
  exact ⟨X, Y, fun i hi j hj => near_trans (hg i hi j hj) (h i hi j hj)⟩
theorem Fac.turn {p : Int} {n l r : Nat} {f : Nat → Nat → Int} (h : Fac p n l r f) : Fac p l n r (fun i j => f j i) := by
  obtain ⟨X, Y, h⟩ := h
  refine ⟨fun i k => Y k i, fun k j => X j k, fun i hi j hj => ?_⟩
  rw [sigN_congr (g := fun k => X j k * Y k i) (fun k _ => Int.mul_comm _ _)]
  exact h j hj i hi
theorem Fac.left {p : Int} {n l r m : Nat} {f g : Nat → Nat → Int} (h : Fac p n m r f) : Fac p n l r (fun i j => sigN m (fun k => f i k * g k j)) := by
  obtain ⟨X, Y, h⟩ := h
  refine ⟨X, fun q j => sigN m (fun k => Y q k * g k j), fun i hi j _ => ?_⟩
  have e : sigN r (fun q => X i q * sigN m (fun k => Y q k * g k j)) = sigN m (fun k => sigN r (fun q => X i q * Y q k) * g k j) := by
    rw [sigN_congr (g := fun q => sigN m (fun k => X i q * Y q k * g k j)) (fun q _ => by rw [← sigN_mul]; exact sigN_congr fun k _ => (Int.mul_assoc _ _ _).symm), sigN_swap]
    exact sigN_congr fun k _ => sigN_mulr _ _ _
  rw [e]
  refine sigN_near fun k hk => ?_
  rw [← Int.sub_mul]
  exact dvd_mulR (h i hi k hk) _
theorem Fac.right {p : Int} {n l r m : Nat} {f g : Nat → Nat → Int} (h : Fac p m l r g) : Fac p n l r (fun i j => sigN m (fun k => f i k * g k j)) := by
  have h2 := (h.turn.left (l := n) (g := fun k i => f i k)).turn
  refine h2.congr fun i _ j _ => ?_
  rw [sigN_congr (g := fun k => g k j * f i k) (fun k _ => Int.mul_comm _ _), Int.sub_self]
  exact Int.dvd_zero p
/-- as many unit columns as that are not made of fewer -/
theorem unit_le {p : Int} (hp : primeB p = true) {n l r m : Nat} {f : Nat → Nat → Int} (hf : Fac p n l r f) (h : Nat → Nat) (hl : ∀ t, t < m → h t < l) (hm : m ≤ n) (hu : ∀ t, t < m → ∀ s, s < m → f t (h s) = if t = s then 1 else 0) : m ≤ r := by
  refine Classical.byContradiction fun hno => ?_
  have hpb := prime_ge hp
  obtain ⟨X, Y, hf⟩ := hf
  obtain ⟨v, ⟨c, hc, hv1⟩, hv⟩ := pigeon hp (r := r) (s := m) (by omega) (fun k t => X t k)
  have h1 : sigN m (fun t => v t * f t (h c)) = 1 := by
    rw [sigN_one hc (fun t ht hne => by rw [hu t ht c hc, if_neg hne]; simp), hu c hc c hc, if_pos rfl, hv1]; rfl
  have h2 : p ∣ sigN m (fun t => v t * f t (h c)) - sigN m (fun t => v t * sigN r (fun k => X t k * Y k (h c))) := by
    refine sigN_near fun t ht => ?_
    rw [← Int.mul_sub]
    exact dvd_mulL (hf t (by omega) _ (hl c hc)) _
  have h3 : sigN m (fun t => v t * sigN r (fun k => X t k * Y k (h c))) = sigN r (fun k => sigN m (fun t => X t k * v t) * Y k (h c)) := by
    rw [sigN_congr (g := fun t => sigN r (fun k => X t k * v t * Y k (h c))) (fun t _ => by rw [← sigN_mul]; exact sigN_congr fun k _ => by grind), sigN_swap]
    exact sigN_congr fun k _ => sigN_mulr _ _ _
  rw [h1, h3] at h2
  have h4 := (near_move h2).2 (sigN_dvd fun k hk => dvd_mulR (hv k hk) _)
  have := Int.le_of_dvd (by omega) h4
  omega
/-- the rank is at most each such number -/
theorem rank_le {p : Int} (hp : primeB p = true) {l : Nat} {M : List (List Int)} (h : VM p l M) {r : Nat} (hf : Fac p M.length l r (at2 M)) : (elim p M l).2.length ≤ r := by
  refine Classical.byContradiction fun hno => ?_
  have hpb := prime_ge hp
  have hR := elim_red hp h l (Nat.le_refl _)
  have hE := fun v => elim_ker hp h v l (Nat.le_refl _)
  obtain ⟨F, hF⟩ : ∃ F, (elim p M l).1 = F := ⟨_, rfl⟩
  obtain ⟨hs, hHS⟩ : ∃ hs, (elim p M l).2 = hs := ⟨_, rfl⟩
  rw [hF, hHS] at hR
  rw [hF] at hE
  rw [hHS] at hno
  have hle := hR.le
  obtain ⟨X, Y, hf⟩ := hf
  obtain ⟨v, ⟨c, hc, hv1⟩, hv⟩ := pigeon hp (r := r) (s := hs.length) (by omega) (fun k q => Y k (hs.getD q 0))
  have hinj : ∀ a b, a < hs.length → b < hs.length → hs.getD a 0 = hs.getD b 0 → a = b := fun a b ha hb e => by
    rcases Nat.lt_trichotomy a b with h1 | h1 | h1
    · have := hR.inc a b h1 hb; omega
    · exact h1
    · have := hR.inc b a h1 ha; omega
  obtain ⟨u, hu⟩ : ∃ u : Nat → Int, u = fun j => sigN hs.length (fun q => if hs.getD q 0 = j then v q else 0) := ⟨_, rfl⟩
  have hu1 : ∀ q, q < hs.length → u (hs.getD q 0) = v q := fun q hq => by
    rw [hu]
    show sigN hs.length (fun q' => if hs.getD q' 0 = hs.getD q 0 then v q' else 0) = _
    rw [sigN_one hq (fun k hk hne => if_neg (fun e => hne (hinj k q hk hq e))), if_pos rfl]
  have hu0 : ∀ j, (∀ q, q < hs.length → hs.getD q 0 ≠ j) → u j = 0 := fun j hj => by
    rw [hu]
    exact sigN_zero fun q hq => if_neg (hj q hq)
  have hsum : ∀ g : Nat → Int, sigN l (fun j => g j * u j) = sigN hs.length (fun q => g (hs.getD q 0) * v q) := fun g => by
    rw [sigN_heads (fun k => hs.getD k 0) (m := hs.length) hR.lt hR.inc (fun j _ hne => by rw [hu0 j hne]; simp)]
    exact sigN_congr fun q hq => by rw [hu1 q hq]
  have hker : Ker p M.length l (at2 M) u := fun i hi => by
    have h2 : p ∣ sigN l (fun j => at2 M i j * u j) - sigN l (fun j => sigN r (fun k => X i k * Y k j) * u j) := by
      refine sigN_near fun j hj => ?_
      rw [← Int.sub_mul]
      exact dvd_mulR (hf i hi j hj) _
    refine (near_move h2).2 ?_
    rw [sigN_congr (g := fun j => sigN r (fun k => X i k * (Y k j * u j))) (fun j _ => by rw [← sigN_mulr]; exact sigN_congr fun k _ => Int.mul_assoc _ _ _), sigN_swap]
    refine sigN_dvd fun k hk => ?_
    rw [sigN_mul, hsum]
    exact dvd_mulL (hv k hk) _
  have h5 := (hE u).2 hker c (by omega)
  rw [hsum, sigN_one hc (fun q hq hne => by rw [hR.one q hq c (by omega), if_neg (fun e => hne e.symm)]; simp), hR.one c hc c (by omega), if_pos rfl, hv1] at h5
  have := Int.le_of_dvd (by omega) h5
  omega
end Go.Proofs.Ytpelokdgjdljfab

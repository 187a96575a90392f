/-
  Plain mathematics: powers by squares, roots, products and inverses of beginnings of series.
-/
import Derived.Test.YtecmclaockmgeaaDoorDiv
namespace Go.Proofs.YtecmclaockmgeaaDoor
theorem trim_pol {f : List Int} (h : f.length = 0 ∨ co f (f.length - 1) ≠ 0) : trimL f = f := pol_ext (trim_last f) h (co_trim f)
theorem polB_nil {p : Int} (hp : primeB p = true) : polB p [] = true := polB_of (serB_mk hp (by simp) (by simp)) (.inl rfl)
/-- one number alone, at a place -/
def mono (n : Nat) : Nat → Int := fun k => if k = n then 1 else 0
theorem mono_cv (a b k : Nat) : cv (mono a) (mono b) k = mono (a + b) k := by
  have : cv (mono a) (mono b) k = if b ≤ k then mono a (k - b) * 1 else 0 := cv_at (mono a) b k 1
  rw [this]
  unfold mono
  by_cases h : k = a + b
  · rw [if_pos (by omega), if_pos (by omega), if_pos h]; rfl
  · rw [if_neg h]
    split
    · rw [if_neg (by omega)]; rfl
    · rfl
def mulR (p : Int) (g a b : List Int) : List Int := remL p (trimL (tmsL p a b)) g
theorem mulR_law {p : Int} {g a b : List Int} (hg : polB p g = true) (h1 : 1 ≤ g.length) (hgl : g.length ≤ 12) (ha : polB p a = true) (hb : polB p b = true) (hal : a.length < g.length) (hbl : b.length < g.length) :
    polB p (mulR p g a b) = true ∧ (mulR p g a b).length < g.length ∧ CG p (co g) (co (mulR p g a b)) (cv (co a) (co b)) ∧ trimL (tmsL p a b) = tmsL p a b ∧ polB p (tmsL p a b) = true := by
  have ht : polB p (tmsL p a b) = true := tmsL_pol ha hb (by unfold tmsN; split <;> omega)
  have e := trim_pol (polB_last ht)
  obtain ⟨_, r2, _, r4, _⟩ := div_law (polB_ser ht) hg h1
  unfold mulR
  rw [e]
  refine ⟨r2, r4, (CG.rem (polB_ser ht) hg h1).symm.trans (CG.near fun k => ?_), rfl, ht⟩
  rw [co_tmsL]; exact near_mod _ _
def powL (p : Int) (g : List Int) (n : Nat) (out sq : List Int) : List Int :=
  if h : n = 0 then out else powL p g (n / 2) (if n % 2 = 1 then mulR p g out sq else out) (mulR p g sq sq)
termination_by n
decreasing_by omega
theorem powL_zero (p : Int) (g out sq : List Int) : powL p g 0 out sq = out := by rw [powL]; simp
theorem powL_step {p : Int} {g out sq : List Int} {n : Nat} (h : n ≠ 0) : powL p g n out sq = powL p g (n / 2) (if n % 2 = 1 then mulR p g out sq else out) (mulR p g sq sq) := by rw [powL, dif_neg h]
theorem powL_law {p : Int} {g : List Int} (hg : polB p g = true) (h1 : 1 ≤ g.length) (hgl : g.length ≤ 12) : ∀ (n : Nat) (out sq : List Int) (a b : Nat), polB p out = true → polB p sq = true → out.length < g.length → sq.length < g.length → CG p (co g) (co out) (mono a) → CG p (co g) (co sq) (mono b) →
    polB p (powL p g n out sq) = true ∧ (powL p g n out sq).length < g.length ∧ CG p (co g) (co (powL p g n out sq)) (mono (a + b * n)) := by
  intro n
  induction n using Nat.strongRecOn with
  | ind n ih =>
    intro out sq a b ho hs hol hsl hoc hsc
    by_cases h0 : n = 0
    · subst h0
      rw [powL_zero]; exact ⟨ho, hol, hoc⟩
    · rw [powL_step h0]
      obtain ⟨s1, s2, s3, _⟩ := mulR_law hg h1 hgl hs hs hsl hsl
      have hm : ∀ k, ∀ j, k + 1 ≤ j → mono k j = 0 := fun k j hj => by unfold mono; rw [if_neg (by omega)]
      have s4 : CG p (co g) (co (mulR p g sq sq)) (mono (b + b)) := by
        have := s3.trans (hsc.mul2 hsc (fun k hk => co_far hk) (hm b))
        rwa [show cv (mono b) (mono b) = mono (b + b) from funext (mono_cv b b)] at this
      by_cases h2 : n % 2 = 1
      · rw [if_pos h2]
        obtain ⟨o1, o2, o3, _⟩ := mulR_law hg h1 hgl ho hs hol hsl
        have o4 : CG p (co g) (co (mulR p g out sq)) (mono (a + b)) := by
          have := o3.trans (hoc.mul2 hsc (fun k hk => co_far hk) (hm a))
          rwa [show cv (mono a) (mono b) = mono (a + b) from funext (mono_cv a b)] at this
        have := ih (n / 2) (by omega) _ _ (a + b) (b + b) o1 s1 o2 s2 o4 s4
        rwa [show a + b + (b + b) * (n / 2) = a + b * n by
          have e : n = 2 * (n / 2) + 1 := by omega
          generalize n / 2 = h at e
          subst e
          grind] at this
      · rw [if_neg h2]
        have := ih (n / 2) (by omega) _ _ a (b + b) ho s1 hol s2 hoc s4
        rwa [show a + (b + b) * (n / 2) = a + b * n by
          have e : n = 2 * (n / 2) := by omega
          generalize n / 2 = h at e
          subst e
          grind] at this
def powR (p : Int) (g : List Int) (n : Nat) : List Int := powL p g n (remL p [1] g) (remL p [0, 1] g)
theorem serB_one {p : Int} (hp : primeB p = true) : serB p [1] = true ∧ serB p [0, 1] = true := by
  have hpb := prime_ge hp
  have h0 := numB_zero hp
  have h1 : numB p 1 = true := numB_mk hp (by omega) (by omega)
  exact ⟨serB_mk hp (by simp) (by simpa using h1), serB_mk hp (by simp) (by simp [h0, h1])⟩
theorem powR_law {p : Int} {g : List Int} (hg : polB p g = true) (h1 : 1 ≤ g.length) (hgl : g.length ≤ 12) (n : Nat) : polB p (powR p g n) = true ∧ (powR p g n).length < g.length ∧ CG p (co g) (co (powR p g n)) (mono n) := by
  obtain ⟨hp, _, _⟩ := serB_true (polB_ser hg)
  obtain ⟨e1, e2⟩ := serB_one hp
  obtain ⟨_, a2, _, a4, _⟩ := div_law e1 hg h1
  obtain ⟨_, b2, _, b4, _⟩ := div_law e2 hg h1
  have c1 : CG p (co g) (co (remL p [1] g)) (mono 0) := (CG.rem e1 hg h1).symm.trans (CG.near fun k => by
    match k with
    | 0 => simp [co, mono]
    | k + 1 => simp [co, mono])
  have c2 : CG p (co g) (co (remL p [0, 1] g)) (mono 1) := (CG.rem e2 hg h1).symm.trans (CG.near fun k => by
    match k with
    | 0 => simp [co, mono]
    | 1 => simp [co, mono]
    | k + 2 => simp [co, mono])
  have := powL_law hg h1 hgl n _ _ 0 1 a2 b2 a4 b4 c1 c2
  rwa [show 0 + 1 * n = n by omega] at this
/-- powers add their exponents -/
theorem powR_add {p : Int} {g : List Int} (hg : polB p g = true) (h1 : 1 ≤ g.length) (hgl : g.length ≤ 12) (a b : Nat) : tmsN (powR p g a) (powR p g b) ≤ 24 ∧ remL p (tmsL p (powR p g a) (powR p g b)) g = powR p g (a + b) := by
  obtain ⟨a1, a2, a3⟩ := powR_law hg h1 hgl a
  obtain ⟨b1, b2, b3⟩ := powR_law hg h1 hgl b
  obtain ⟨c1, c2, c3⟩ := powR_law hg h1 hgl (a + b)
  obtain ⟨d1, d2, d3, d4, d5⟩ := mulR_law hg h1 hgl a1 b1 a2 b2
  refine ⟨by unfold tmsN; split <;> omega, ?_⟩
  have e : mulR p g (powR p g a) (powR p g b) = remL p (tmsL p (powR p g a) (powR p g b)) g := by unfold mulR; rw [d4]
  rw [← e]
  refine CG.same hg h1 d1 c1 d2 c2 (d3.trans ((a3.mul2 b3 (fun k hk => co_far hk) (M' := a + 1) (fun j hj => by unfold mono; rw [if_neg (by omega)])).trans ?_))
  rw [show cv (mono a) (mono b) = mono (a + b) from funext (mono_cv a b)]
  exact c3.symm
/-- roots: the rest of a division by the number less x -/
theorem root_law {p x : Int} {f : List Int} (hf : polB p f = true) : polB p [(p - x) % p, 1] = true ∧ ((remL p f [(p - x) % p, 1]).length = 0 ↔ atL p x f = 0) ∧ ((remL p f [(p - x) % p, 1]).length = 0 ∨ (remL p f [(p - x) % p, 1]) = [atL p x f]) := by
  obtain ⟨hp, _, _⟩ := serB_true (polB_ser hf)
  have hpb := prime_ge hp
  have hc : numB p ((p - x) % p) = true := numB_emod hp _
  have h1 : numB p 1 = true := numB_mk hp (by omega) (by omega)
  have hg : polB p [(p - x) % p, 1] = true := polB_of (serB_mk hp (by simp) (fun z hz => by
    rcases List.mem_cons.1 hz with h | h
    · rw [h]; exact hc
    · rw [List.mem_singleton.1 h]; exact h1)) (.inr (by simp [co]))
  obtain ⟨q1, r1, q2, r2, h⟩ := div_law (polB_ser hf) hg (by simp)
  obtain ⟨g, hgd⟩ : ∃ g, [(p - x) % p, 1] = g := ⟨_, rfl⟩
  have hga : atL p x g = 0 := by
    rw [← hgd]
    show (((0 * x + 1) % p) * x + (p - x) % p) % p = 0
    rw [Int.zero_mul, Int.zero_add, Int.emod_eq_of_lt (show (0 : Int) ≤ 1 by omega) (by omega), Int.one_mul]
    refine Int.emod_eq_zero_of_dvd ?_
    have := near_mod p (p - x)
    have := Int.dvd_add this (Int.dvd_refl p)
    rwa [show (p - x) % p - (p - x) + p = x + (p - x) % p by omega] at this
  rw [hgd] at q1 r1 q2 r2 h hg ⊢
  obtain ⟨Q, hQ⟩ : ∃ Q, quoL p f g = Q := ⟨_, rfl⟩
  obtain ⟨R, hR⟩ : ∃ R, remL p f g = R := ⟨_, rfl⟩
  rw [hQ] at q1 q2 h
  rw [hR] at r1 r2 h ⊢
  have hgl : g.length = 2 := by rw [← hgd]; rfl
  have ha : atL p x f = numAdd p (atL p x (tmsL p g Q)) (atL p x R) := at_add hp fun k => by
    refine near_trans (h k) ?_
    rw [co_tmsL]
    have := near_symm (near_mod p (cv (co g) (co Q) k))
    rwa [show cv (co g) (co Q) k + co R k - (cv (co g) (co Q) k % p + co R k) = cv (co g) (co Q) k - cv (co g) (co Q) k % p by omega]
  have hm : atL p x (tmsL p g Q) = 0 := by
    rw [at_times hp (f := g) (g := Q) (fun k => by rw [co_tmsL]; exact near_mod _ _), hga, numTimes_ok (numB_zero hp) (atL_bd hp _)]; simp
  have hRb := numB_true (atL_bd (x := x) hp R)
  rw [hm, numAdd_ok (numB_zero hp) (atL_bd hp _), Int.zero_add, Int.emod_eq_of_lt hRb.2.1 hRb.2.2] at ha
  refine ⟨hg, ?_⟩
  rw [ha]
  match R, r1, r2 with
  | [], _, _ => exact ⟨⟨fun _ => rfl, fun _ => rfl⟩, .inl rfl⟩
  | [c], r1, _ =>
    have hcb := co_bd (polB_ser r1) 0
    have e : atL p x [c] = c := by
      show (0 * x + c) % p = c
      rw [Int.zero_mul, Int.zero_add]
      exact Int.emod_eq_of_lt hcb.1 hcb.2
    have hne : c ≠ 0 := by
      rcases polB_last r1 with h | h
      · simp at h
      · exact h
    rw [e]
    exact ⟨⟨fun h => by simp at h, fun h => absurd h hne⟩, .inr rfl⟩
  | a :: b :: R, _, r2 => rw [hgl] at r2; simp only [List.length_cons] at r2; omega
/-- products of beginnings -/
def serL (p : Int) (s t : List Int) : List Int := convR p s t (min s.length t.length)
theorem serL_comm (p : Int) (s t : List Int) : serL p s t = serL p t s := by
  unfold serL convR
  rw [Nat.min_comm]
  exact congrArg (List.map · _) (funext fun k => by rw [conv_eq, conv_eq, cv_comm])
theorem list_of_co {s t : List Int} (hl : s.length = t.length) (h : ∀ k, k < s.length → co s k = co t k) : s = t := by
  refine List.ext_getElem hl fun i h1 h2 => ?_
  have := h i h1
  simpa [co, List.getD_eq_getElem?_getD, List.getElem?_eq_getElem h1, List.getElem?_eq_getElem h2] using this
theorem co_convR (p : Int) (f g : List Int) {many k : Nat} (h : k < many) : co (convR p f g many) k = cv (co f) (co g) k % p := getD_at (convR_get p f g h)
theorem serL_one {p : Int} {s one : List Int} (hs : serB p s = true) (hl : one.length = s.length) (h : ∀ k, co one k = unitF k ∨ s.length ≤ k) : serL p s one = s := by
  have hlen : (serL p s one).length = s.length := by unfold serL; rw [convR_len, hl, Nat.min_self]
  refine list_of_co hlen fun k hk => ?_
  rw [hlen] at hk
  unfold serL
  rw [co_convR _ _ _ (by omega)]
  have e : cv (co s) (co one) k = co s k := by
    rw [cv_comm, ← cv_unit (co s) k]
    exact sigN_congr fun j hj => by rcases h j with h | h; rw [h]; omega
  rw [e]
  have := co_bd hs k
  exact Int.emod_eq_of_lt this.1 this.2
theorem co_take {s : List Int} {n k : Nat} (h : k < n) : co (s.take n) k = co s k := by unfold co; rw [List.getD_eq_getElem?_getD, List.getElem?_take, if_pos h, ← List.getD_eq_getElem?_getD]
theorem serL_take (p : Int) (s t : List Int) {n : Nat} (hn : n ≤ min s.length t.length) : serL p (s.take n) (t.take n) = (serL p s t).take n := by
  have h1 : (serL p (s.take n) (t.take n)).length = n := by unfold serL; rw [convR_len, List.length_take, List.length_take]; omega
  have h2 : ((serL p s t).take n).length = n := by unfold serL; rw [List.length_take, convR_len]; omega
  refine list_of_co (by rw [h1, h2]) fun k hk => ?_
  rw [h1] at hk
  rw [co_take hk]
  unfold serL
  rw [co_convR _ _ _ (by rw [List.length_take, List.length_take]; omega), co_convR _ _ _ (by omega)]
  congr 1
  exact sigN_congr fun j hj => by rw [co_take (by omega), co_take (by omega)]
/-- inverses of beginnings -/
def bkL (p : Int) (s : List Int) (back : Int) : Nat → List Int
  | 0 => []
  | k + 1 => bkL p s back k ++ [if k = 0 then back else (-(sigN k (fun j => co s (j + 1) * co (bkL p s back k) (k - 1 - j)))) % p * back % p]
theorem bkL_len (p : Int) (s : List Int) (back : Int) : ∀ k, (bkL p s back k).length = k
  | 0 => rfl
  | k + 1 => by simp [bkL, bkL_len p s back k]
theorem co_append {s t : List Int} (k : Nat) : co (s ++ t) k = if k < s.length then co s k else co t (k - s.length) := by
  unfold co
  rw [List.getD_eq_getElem?_getD]
  split
  · rename_i h; rw [List.getElem?_append_left h, ← List.getD_eq_getElem?_getD]
  · rename_i h; rw [List.getElem?_append_right (by omega), ← List.getD_eq_getElem?_getD]
theorem co_bkL_low (p : Int) (s : List Int) (back : Int) {k m : Nat} (h : k < m) : ∀ d, co (bkL p s back (m + d)) k = co (bkL p s back m) k
  | 0 => rfl
  | d + 1 => by
    show co (bkL p s back (m + d) ++ _) k = _
    rw [co_append, bkL_len, if_pos (by omega)]
    exact co_bkL_low p s back h d
theorem bkL_valid {p : Int} (hp : primeB p = true) {s : List Int} {back : Int} (hb : numB p back = true) : ∀ k, ∀ x ∈ bkL p s back k, numB p x = true
  | 0, x, hx => by simp [bkL] at hx
  | k + 1, x, hx => by
    rcases List.mem_append.1 (show x ∈ bkL p s back k ++ _ from hx) with h | h
    · exact bkL_valid hp hb k x h
    · simp only [List.mem_singleton] at h
      rw [h]
      split
      · exact hb
      · exact numB_emod hp _
theorem bkL_law {p : Int} {s : List Int} {back : Int} (hb : p ∣ co s 0 * back - 1) (n : Nat) : ∀ k, k < n → p ∣ cv (co s) (co (bkL p s back n)) k - unitF k := by
  intro k hk
  have e : ∀ j, j ≤ k → co (bkL p s back n) j = co (bkL p s back (k + 1)) j := fun j hj => by
    have := co_bkL_low p s back (show j < k + 1 by omega) (n - (k + 1))
    rwa [show k + 1 + (n - (k + 1)) = n by omega] at this
  rw [show cv (co s) (co (bkL p s back n)) k = cv (co s) (co (bkL p s back (k + 1))) k from sigN_congr fun j _ => by rw [e (k - j) (by omega)]]
  have hlast : co (bkL p s back (k + 1)) k = if k = 0 then back else (-(sigN k (fun j => co s (j + 1) * co (bkL p s back k) (k - 1 - j)))) % p * back % p := by
    show co (bkL p s back k ++ _) k = _
    rw [co_append, bkL_len, if_neg (by omega), Nat.sub_self]; rfl
  unfold cv
  rw [sigN_shift, Nat.sub_zero, hlast]
  by_cases h0 : k = 0
  · subst h0
    rw [if_pos rfl]
    simpa [sigN, unitF] using hb
  · rw [if_neg h0]
    have e2 : sigN k (fun j => co s (j + 1) * co (bkL p s back (k + 1)) (k - (j + 1))) = sigN k (fun j => co s (j + 1) * co (bkL p s back k) (k - 1 - j)) := sigN_congr fun j hj => by
      have := co_bkL_low p s back (show k - (j + 1) < k by omega) 1
      rw [this, show k - (j + 1) = k - 1 - j by omega]
    rw [e2]
    unfold unitF
    rw [if_neg h0, Int.sub_zero]
    generalize sigN k (fun j => co s (j + 1) * co (bkL p s back k) (k - 1 - j)) = S
    have h1 := near_mod p (-S)
    have h2 := near_mod p (-S % p * back)
    generalize -S % p = u at h1 h2 ⊢
    generalize u * back % p = v at h2 ⊢
    generalize co s 0 = x at hb ⊢
    have h3 := Int.dvd_add (Int.dvd_add (dvd_mulL h2 x) (dvd_mulL hb u)) h1
    rwa [show x * (v - u * back) + u * (x * back - 1) + (u - -S) = x * v + S by grind] at h3
def backL (p : Int) (s : List Int) : List Int := bkL p s (invM p (co s 0)) s.length
theorem back_law {p : Int} {s : List Int} (hs : serB p s = true) (h1 : 1 ≤ s.length) (h0 : co s 0 ≠ 0) : serB p (backL p s) = true ∧ (backL p s).length = s.length ∧ co (backL p s) 0 ≠ 0 ∧ (∀ k, k < s.length → p ∣ cv (co s) (co (backL p s)) k - unitF k) := by
  obtain ⟨hp, hl, hv⟩ := serB_true hs
  have hpb := prime_ge hp
  have hb := co_bd hs 0
  have hinv : p ∣ co s 0 * invM p (co s 0) - 1 := by
    have := near_mod p (co s 0 * invM p (co s 0))
    rw [inv_ok hp hb.1 hb.2 h0] at this
    exact near_symm this
  have hn : numB p (invM p (co s 0)) = true := numB_mk hp (inv_bd hp).1 (inv_bd hp).2
  have hlaw := bkL_law hinv s.length
  refine ⟨serB_mk hp (by unfold backL; rw [bkL_len]; exact hl) (bkL_valid hp hn _), by unfold backL; rw [bkL_len], fun hz => ?_, hlaw⟩
  have := hlaw 0 (by omega)
  unfold backL at hz
  have e : cv (co s) (co (bkL p s (invM p (co s 0)) s.length)) 0 = co s 0 * co (bkL p s (invM p (co s 0)) s.length) 0 := by unfold cv; simp [sigN]
  rw [e, hz] at this
  have h2 : p ∣ (1 : Int) := by
    have := Int.dvd_neg.2 this
    simpa [unitF] using this
  have := Int.le_of_dvd (by omega) h2
  omega
/-- the inverse is the only one -/
theorem back_uniq {p : Int} {s x y : List Int} (hs : serB p s = true) (h0 : co s 0 ≠ 0) (hx : serB p x = true) (hy : serB p y = true) (hlx : x.length = s.length) (hly : y.length = s.length) (h1 : ∀ k, k < s.length → p ∣ cv (co s) (co x) k - unitF k) (h2 : ∀ k, k < s.length → p ∣ cv (co s) (co y) k - unitF k) : x = y := by
  obtain ⟨hp, _, _⟩ := serB_true hs
  have hb := co_bd hs 0
  have hinv : p ∣ co s 0 * invM p (co s 0) - 1 := by
    have := near_mod p (co s 0 * invM p (co s 0))
    rw [inv_ok hp hb.1 hb.2 h0] at this
    exact near_symm this
  have A : ∀ n k, k < n → k < s.length → p ∣ co x k - co y k := by
    intro n
    induction n with
    | zero => intro k hk; omega
    | succ n ih =>
      intro k hk hkl
      by_cases e : k < n
      · exact ih k e hkl
      · obtain rfl : k = n := by omega
        have h3 := near_trans (h1 k hkl) (near_symm (h2 k hkl))
        have h4 : p ∣ (cv (co s) (co x) k - cv (co s) (co y) k) - co s 0 * (co x k - co y k) := by
          unfold cv
          rw [sigN_shift, sigN_shift, Nat.sub_zero]
          have : p ∣ sigN k (fun j => co s (j + 1) * co x (k - (j + 1))) - sigN k (fun j => co s (j + 1) * co y (k - (j + 1))) := sigN_near fun j hj => by
            rw [← Int.mul_sub]; exact dvd_mulL (ih _ (by omega) (by omega)) _
          generalize sigN k (fun j => co s (j + 1) * co x (k - (j + 1))) = a at this ⊢
          generalize sigN k (fun j => co s (j + 1) * co y (k - (j + 1))) = b at this ⊢
          rwa [show co s 0 * co x k + a - (co s 0 * co y k + b) - co s 0 * (co x k - co y k) = a - b by grind]
        have h5 := (near_move h4).1 h3
        generalize co s 0 = z at hinv h5
        generalize invM p z = b at hinv
        generalize co x k - co y k = d at h5 ⊢
        have h6 := Int.dvd_sub (dvd_mulR h5 b) (dvd_mulR hinv d)
        rwa [show z * d * b - (z * b - 1) * d = d by grind] at h6
  refine list_of_co (by rw [hlx, hly]) fun k hk => ?_
  exact co_near hx hy (A (k + 1) k (by omega) (by omega))
theorem back_back {p : Int} {s : List Int} (hs : serB p s = true) (h1 : 1 ≤ s.length) (h0 : co s 0 ≠ 0) : backL p (backL p s) = s := by
  obtain ⟨b1, b2, b3, b4⟩ := back_law hs h1 h0
  obtain ⟨c1, c2, c3, c4⟩ := back_law b1 (by omega) b3
  refine back_uniq b1 b3 c1 hs c2 b2.symm c4 fun k hk => ?_
  rw [cv_comm]
  exact b4 k (by omega)
end Go.Proofs.YtecmclaockmgeaaDoor

/-
  Plain mathematics: the greatest divisor of two polynomials, and how it is made of both.
-/
import Derived.Test.YtecmclaockmgeaaDoorPolN
namespace Go.Proofs.YtecmclaockmgeaaDoor
/-- numbers that are valid, the last one not 0; of any length -/
def polW (p : Int) (f : List Int) : Prop := (∀ x ∈ f, numB p x = true) ∧ (f.length = 0 ∨ co f (f.length - 1) ≠ 0)
theorem polB_W {p : Int} {f : List Int} (h : polB p f = true) : polW p f := ⟨(serB_true (polB_ser h)).2.2, polB_last h⟩
theorem polW_B {p : Int} {f : List Int} (hp : primeB p = true) (h : polW p f) (hl : f.length ≤ 24) : polB p f = true := polB_of (serB_mk hp hl h.1) h.2
theorem addL_W {p : Int} (hp : primeB p = true) (f g : List Int) (t : Int) : polW p (addL p f g t) :=
  ⟨fun x hx => by obtain ⟨k, _, rfl⟩ := List.mem_map.1 (trim_mem hx); exact numB_emod hp _, trim_last _⟩
def comL (p : Int) : Nat → List Int → List Int → List Int → List Int → List Int → List Int → List Int × List Int × List Int
  | 0, a, _, s, _, t, _ => (a, s, t)
  | n + 1, a, b, s, u, t, v => if b.length = 0 then (a, s, t) else comL p n b (remL p a b) u (addL p s (tmsL p (quoL p a b) u) (p - 1)) v (addL p t (tmsL p (quoL p a b) v) (p - 1))
/-- both are multiples of two together -/
def Made (p : Int) (F A B : Nat → Int) : Prop := ∃ (X Y : Nat → Int) (N : Nat), (∀ k, N ≤ k → X k = 0) ∧ (∀ k, N ≤ k → Y k = 0) ∧ ∀ k, p ∣ F k - (cv X A k + cv Y B k)
theorem cv_zero (F : Nat → Int) (k : Nat) : cv F (fun _ => 0) k = 0 := sigN_zero fun _ _ => by simp
theorem cv_addr (F G H : Nat → Int) (k : Nat) : cv H (fun j => F j + G j) k = cv H F k + cv H G k := by rw [cv_comm, cv_addl, cv_comm F, cv_comm G]
theorem cv_mulr (c : Int) (F H : Nat → Int) (k : Nat) : cv H (fun j => c * F j) k = c * cv H F k := by rw [cv_comm, cv_mull, cv_comm]
theorem co_next {p : Int} (s q u : List Int) (k : Nat) : p ∣ co (addL p s (tmsL p q u) (p - 1)) k - (co s k - cv (co q) (co u) k) := by
  rw [co_addL, co_tmsL]
  have h1 := near_mod p (co s k + (p - 1) * (cv (co q) (co u) k % p))
  have h2 := near_mod p (cv (co q) (co u) k)
  generalize cv (co q) (co u) k = c at h1 h2 ⊢
  generalize c % p = d at h1 h2 ⊢
  generalize (co s k + (p - 1) * d) % p = e at h1 ⊢
  have h3 := Int.dvd_add (Int.dvd_sub h1 h2) (Int.dvd_mul_right p d)
  rwa [show e - (co s k + (p - 1) * d) - (d - c) + p * d = e - (co s k - c) by grind] at h3
theorem comL_law {p : Int} (hp : primeB p = true) {F G : Nat → Int} : ∀ (n : Nat) (a b s u t v : List Int), b.length ≤ n → polB p a = true → polB p b = true → polW p s → polW p u → polW p t → polW p v →
    (∀ k, p ∣ co a k - (cv (co s) F k + cv (co t) G k)) → (∀ k, p ∣ co b k - (cv (co u) F k + cv (co v) G k)) → Made p F (co a) (co b) → Made p G (co a) (co b) →
    polB p (comL p n a b s u t v).1 = true ∧ polW p (comL p n a b s u t v).2.1 ∧ polW p (comL p n a b s u t v).2.2 ∧
    (∀ k, p ∣ co (comL p n a b s u t v).1 k - (cv (co (comL p n a b s u t v).2.1) F k + cv (co (comL p n a b s u t v).2.2) G k)) ∧
    (∃ X N, (∀ k, N ≤ k → X k = 0) ∧ ∀ k, p ∣ F k - cv X (co (comL p n a b s u t v).1) k) ∧ (∃ X N, (∀ k, N ≤ k → X k = 0) ∧ ∀ k, p ∣ G k - cv X (co (comL p n a b s u t v).1) k) := by
  have fin : ∀ {H : Nat → Int} {a b : List Int}, b.length = 0 → Made p H (co a) (co b) → ∃ X N, (∀ k, N ≤ k → X k = 0) ∧ ∀ k, p ∣ H k - cv X (co a) k := by
    intro H a b hb ⟨X, Y, N, h1, _, h3⟩
    refine ⟨X, N, h1, fun k => ?_⟩
    have := h3 k
    rwa [show cv Y (co b) k = 0 from sigN_zero fun j _ => by rw [co_far (f := b) (by omega)]; simp, Int.add_zero] at this
  intro n
  induction n with
  | zero =>
    intro a b s u t v hb ha _ hs _ ht _ h1 _ h3 h4
    exact ⟨ha, hs, ht, h1, fin (by omega) h3, fin (by omega) h4⟩
  | succ n ih =>
    intro a b s u t v hb ha hbb hs hu ht hv h1 h2 h3 h4
    by_cases h0 : b.length = 0
    · have e : comL p (n + 1) a b s u t v = (a, s, t) := by show (if b.length = 0 then _ else _) = _; rw [if_pos h0]
      rw [e]
      exact ⟨ha, hs, ht, h1, fin h0 h3, fin h0 h4⟩
    · have e : comL p (n + 1) a b s u t v = comL p n b (remL p a b) u (addL p s (tmsL p (quoL p a b) u) (p - 1)) v (addL p t (tmsL p (quoL p a b) v) (p - 1)) := by show (if b.length = 0 then _ else _) = _; rw [if_neg h0]
      rw [e]
      obtain ⟨q1, r1, q2, r2, hd⟩ := div_law (polB_ser ha) hbb (by omega)
      have made : ∀ {H : Nat → Int}, Made p H (co a) (co b) → Made p H (co b) (co (remL p a b)) := by
        intro H ⟨X, Y, N, g1, g2, g3⟩
        refine ⟨fun k => cv X (co (quoL p a b)) k + Y k, X, N + (quoL p a b).length, fun k hk => ?_, fun k hk => g1 k (by omega), fun k => ?_⟩
        · show cv X (co (quoL p a b)) k + Y k = 0
          rw [cv_far g1 (fun j hj => co_far hj) (by omega), g2 k (by omega)]; rfl
        · rw [cv_addl, cv_assoc]
          have e1 : p ∣ cv X (co a) k - cv X (fun j => cv (co (quoL p a b)) (co b) j + co (remL p a b) j) k := cv_near k (fun j _ => by rw [Int.sub_self]; exact Int.dvd_zero p) (fun j _ => by
            have := hd j
            rwa [cv_comm (co b)] at this)
          rw [cv_addr] at e1
          have h5 := Int.dvd_add (g3 k) e1
          rwa [show H k - (cv X (co a) k + cv Y (co b) k) + (cv X (co a) k - (cv X (cv (co (quoL p a b)) (co b)) k + cv X (co (remL p a b)) k)) = H k - (cv X (cv (co (quoL p a b)) (co b)) k + cv Y (co b) k + cv X (co (remL p a b)) k) by omega] at h5
      refine ih b (remL p a b) u _ v _ (by omega) hbb r1 hu (addL_W hp _ _ _) hv (addL_W hp _ _ _) h2 (fun k => ?_) (made h3) (made h4)
      -- the rest is made of both
      have hx : p ∣ cv (co (addL p s (tmsL p (quoL p a b) u) (p - 1))) F k - (cv (co s) F k - cv (co (quoL p a b)) (cv (co u) F) k) := by
        rw [← cv_assoc, show cv (co s) F k - cv (cv (co (quoL p a b)) (co u)) F k = cv (fun j => co s j + -1 * cv (co (quoL p a b)) (co u) j) F k by rw [cv_addl, cv_mull]; omega]
        refine cv_near k (fun j _ => ?_) (fun j _ => by rw [Int.sub_self]; exact Int.dvd_zero p)
        have := co_next (p := p) s (quoL p a b) u j
        rwa [show co s j - cv (co (quoL p a b)) (co u) j = co s j + -1 * cv (co (quoL p a b)) (co u) j by omega] at this
      have hy : p ∣ cv (co (addL p t (tmsL p (quoL p a b) v) (p - 1))) G k - (cv (co t) G k - cv (co (quoL p a b)) (cv (co v) G) k) := by
        rw [← cv_assoc, show cv (co t) G k - cv (cv (co (quoL p a b)) (co v)) G k = cv (fun j => co t j + -1 * cv (co (quoL p a b)) (co v) j) G k by rw [cv_addl, cv_mull]; omega]
        refine cv_near k (fun j _ => ?_) (fun j _ => by rw [Int.sub_self]; exact Int.dvd_zero p)
        have := co_next (p := p) t (quoL p a b) v j
        rwa [show co t j - cv (co (quoL p a b)) (co v) j = co t j + -1 * cv (co (quoL p a b)) (co v) j by omega] at this
      have hb2 : p ∣ cv (co (quoL p a b)) (co b) k - (cv (co (quoL p a b)) (cv (co u) F) k + cv (co (quoL p a b)) (cv (co v) G) k) := by
        rw [← cv_addr]
        exact cv_near k (fun j _ => by rw [Int.sub_self]; exact Int.dvd_zero p) (fun j _ => h2 j)
      have hd2 := hd k
      rw [cv_comm (co b)] at hd2
      have h6 := Int.dvd_sub (Int.dvd_sub (Int.dvd_sub (Int.dvd_sub (h1 k) hd2) hb2) hx) hy
      generalize cv (co (addL p s (tmsL p (quoL p a b) u) (p - 1))) F k = z1 at h6 ⊢
      generalize cv (co (addL p t (tmsL p (quoL p a b) v) (p - 1))) G k = z2 at h6 ⊢
      generalize cv (co (quoL p a b)) (cv (co u) F) k = z3 at h6
      generalize cv (co (quoL p a b)) (cv (co v) G) k = z4 at h6
      generalize cv (co (quoL p a b)) (co b) k = z5 at h6
      rwa [show co a k - (cv (co s) F k + cv (co t) G k) - (co a k - (z5 + co (remL p a b) k)) - (z5 - (z3 + z4)) - (z1 - (cv (co s) F k - z3)) - (z2 - (cv (co t) G k - z4)) = co (remL p a b) k - (z1 + z2) by omega] at h6
def com0 (p : Int) (f g : List Int) : List Int × List Int × List Int := comL p g.length f g [1] [] [] [1]
def scaleL (p : Int) (c : Int) (f : List Int) : List Int := addL p [] f c
theorem co_scale (p c : Int) (f : List Int) (k : Nat) : co (scaleL p c f) k = c * co f k % p := by
  unfold scaleL; rw [co_addL, co_far (f := []) (by simp), Int.zero_add]
/-- the greatest divisor, and both polynomials -/
def comR (p : Int) (f g : List Int) : List Int × List Int × List Int :=
  if (com0 p f g).1.length = 0 then com0 p f g else
    (scaleL p (invM p (co (com0 p f g).1 ((com0 p f g).1.length - 1))) (com0 p f g).1, scaleL p (invM p (co (com0 p f g).1 ((com0 p f g).1.length - 1))) (com0 p f g).2.1, scaleL p (invM p (co (com0 p f g).1 ((com0 p f g).1.length - 1))) (com0 p f g).2.2)
theorem com0_law {p : Int} {f g : List Int} (hf : polB p f = true) (hg : polB p g = true) :
    polB p (com0 p f g).1 = true ∧ polW p (com0 p f g).2.1 ∧ polW p (com0 p f g).2.2 ∧
    (∀ k, p ∣ co (com0 p f g).1 k - (cv (co (com0 p f g).2.1) (co f) k + cv (co (com0 p f g).2.2) (co g) k)) ∧
    (∃ X N, (∀ k, N ≤ k → X k = 0) ∧ ∀ k, p ∣ co f k - cv X (co (com0 p f g).1) k) ∧ (∃ X N, (∀ k, N ≤ k → X k = 0) ∧ ∀ k, p ∣ co g k - cv X (co (com0 p f g).1) k) := by
  obtain ⟨hp, _, _⟩ := serB_true (polB_ser hf)
  have hpb := prime_ge hp
  have hone : polW p [1] := ⟨fun x hx => by rw [List.mem_singleton.1 hx]; exact numB_mk hp (by omega) (by omega), .inr (by simp [co])⟩
  have hnil : polW p [] := polB_W (polB_nil hp)
  have c1 : co [1] = unitF := by
    funext k
    match k with
    | 0 => rfl
    | k + 1 => simp [co, unitF]
  have c0 : co [] = fun _ => 0 := funext fun k => co_far (by simp)
  have cz : ∀ F : Nat → Int, ∀ k, cv (fun _ => (0 : Int)) F k = 0 := fun F k => by rw [cv_comm]; exact cv_zero F k
  have mk1 : ∀ A B : Nat → Int, Made p A A B := fun A B => ⟨unitF, fun _ => 0, 1, fun k hk => by unfold unitF; rw [if_neg (by omega)], fun _ _ => rfl, fun k => by rw [cv_unit, cz, Int.add_zero, Int.sub_self]; exact Int.dvd_zero p⟩
  have mk2 : ∀ A B : Nat → Int, Made p B A B := fun A B => ⟨fun _ => 0, unitF, 1, fun _ _ => rfl, fun k hk => by unfold unitF; rw [if_neg (by omega)], fun k => by rw [cv_unit, cz, Int.zero_add, Int.sub_self]; exact Int.dvd_zero p⟩
  exact comL_law hp g.length f g [1] [] [] [1] (Nat.le_refl _) hf hg hone hnil hnil hone (fun k => by rw [c1, c0, cv_unit, cz, Int.add_zero, Int.sub_self]; exact Int.dvd_zero p)
    (fun k => by rw [c1, c0, cv_unit, cz, Int.zero_add, Int.sub_self]; exact Int.dvd_zero p) (mk1 _ _) (mk2 _ _)
/-- nothing, if what it is a multiple of is nothing -/
theorem nil_of {p : Int} {f a : List Int} (hf : polB p f = true) (ha : a.length = 0) (h : ∃ X N, (∀ k, N ≤ k → X k = 0) ∧ ∀ k, p ∣ co f k - cv X (co a) k) : f = [] := by
  obtain ⟨hp, _, _⟩ := serB_true (polB_ser hf)
  obtain ⟨X, N, _, h2⟩ := h
  refine pol_ext' hf (polB_nil hp) fun k => co_near (polB_ser hf) (polB_ser (polB_nil hp)) ?_
  have := h2 k
  rw [show cv X (co a) k = 0 from sigN_zero fun j _ => by rw [co_far (f := a) (by omega)]; simp] at this
  rwa [co_far (f := []) (by simp)]
theorem com_law {p : Int} {f g : List Int} (hf : polB p f = true) (hg : polB p g = true) :
    polB p (comR p f g).1 = true ∧ polW p (comR p f g).2.1 ∧ polW p (comR p f g).2.2 ∧
    (∀ k, p ∣ co (comR p f g).1 k - (cv (co (comR p f g).2.1) (co f) k + cv (co (comR p f g).2.2) (co g) k)) ∧
    ((comR p f g).1.length = 0 → f = [] ∧ g = []) ∧
    (1 ≤ (comR p f g).1.length → co (comR p f g).1 ((comR p f g).1.length - 1) = 1 ∧ remL p f (comR p f g).1 = [] ∧ remL p g (comR p f g).1 = []) := by
  obtain ⟨hp, _, _⟩ := serB_true (polB_ser hf)
  have hpb := prime_ge hp
  obtain ⟨a1, a2, a3, a4, a5, a6⟩ := com0_law hf hg
  obtain ⟨a, ha⟩ : ∃ a, (com0 p f g).1 = a := ⟨_, rfl⟩
  obtain ⟨s, hs⟩ : ∃ s, (com0 p f g).2.1 = s := ⟨_, rfl⟩
  obtain ⟨t, ht⟩ : ∃ t, (com0 p f g).2.2 = t := ⟨_, rfl⟩
  rw [ha] at a1 a4 a5 a6
  rw [hs] at a2 a4
  rw [ht] at a3 a4
  by_cases h0 : a.length = 0
  · have e : comR p f g = com0 p f g := by unfold comR; rw [if_pos (by rw [ha]; exact h0)]
    rw [e, ha, hs, ht]
    exact ⟨a1, a2, a3, a4, fun _ => ⟨nil_of hf h0 a5, nil_of hg h0 a6⟩, fun h => absurd h (by omega)⟩
  · obtain ⟨c, hc⟩ : ∃ c, invM p (co a (a.length - 1)) = c := ⟨_, rfl⟩
    have e : comR p f g = (scaleL p c a, scaleL p c s, scaleL p c t) := by unfold comR; rw [if_neg (by rw [ha]; exact h0), ha, hs, ht, hc]
    have hinv := inv_near a1 (by omega)
    rw [hc] at hinv
    rw [e]
    show polB p (scaleL p c a) = true ∧ polW p (scaleL p c s) ∧ polW p (scaleL p c t) ∧ (∀ k, p ∣ co (scaleL p c a) k - (cv (co (scaleL p c s)) (co f) k + cv (co (scaleL p c t)) (co g) k)) ∧ ((scaleL p c a).length = 0 → f = [] ∧ g = []) ∧ (1 ≤ (scaleL p c a).length → co (scaleL p c a) ((scaleL p c a).length - 1) = 1 ∧ remL p f (scaleL p c a) = [] ∧ remL p g (scaleL p c a) = [])
    have hd : polB p (scaleL p c a) = true := addL_pol c (polB_ser (polB_nil hp)) (polB_ser a1)
    have hl1 : co (scaleL p c a) (a.length - 1) = 1 := by
      rw [co_scale]
      have h2 := near_mod p (c * co a (a.length - 1))
      have h3 := Int.dvd_add h2 hinv
      rw [Int.mul_comm c] at h3
      rw [Int.mul_comm c]
      generalize co a (a.length - 1) * c = y at h3 ⊢
      have hy : 0 ≤ y % p ∧ y % p < p := ⟨Int.emod_nonneg _ (by omega), Int.emod_lt_of_pos _ (by omega)⟩
      exact near_eq (by rwa [show y % p - y + (y - 1) = y % p - 1 by omega] at h3) hy.1 hy.2 (by omega) (by omega)
    have hlen : (scaleL p c a).length = a.length := by
      have h1 : (scaleL p c a).length ≤ a.length := by have := addL_len p [] a c; unfold scaleL; simpa using this
      refine Nat.le_antisymm h1 (Nat.le_of_not_lt fun hlt => ?_)
      rw [co_far (by omega)] at hl1
      omega
    have hdiv : ∀ {H : List Int}, polB p H = true → (∃ X N, (∀ k, N ≤ k → X k = 0) ∧ ∀ k, p ∣ co H k - cv X (co a) k) → remL p H (scaleL p c a) = [] := by
      intro H hH ⟨X, N, h1, h2⟩
      obtain ⟨_, r1, _, r2, _⟩ := div_law (polB_ser hH) hd (by omega)
      refine CG.same hd (by omega) r1 (polB_nil hp) r2 (by rw [hlen]; simp; omega) ((CG.rem (polB_ser hH) hd (by omega)).symm.trans ?_)
      refine ⟨fun k => co a (a.length - 1) * X k, N, fun k hk => by show _ * X k = 0; rw [h1 k hk, Int.mul_zero], fun k => ?_⟩
      rw [co_far (f := []) (by simp), Int.sub_zero, cv_mulr]
      have h3 : p ∣ cv (co (scaleL p c a)) X k - c * cv (co a) X k := by
        rw [← cv_mull]
        exact cv_near k (fun j _ => by rw [co_scale]; exact near_mod _ _) (fun j _ => by rw [Int.sub_self]; exact Int.dvd_zero p)
      have h4 := h2 k
      rw [cv_comm] at h4
      generalize cv (co (scaleL p c a)) X k = z1 at h3 ⊢
      generalize cv (co a) X k = z2 at h3 h4
      generalize co a (a.length - 1) = y at hinv ⊢
      have h5 := Int.dvd_sub (Int.dvd_sub h4 (dvd_mulL h3 y)) (dvd_mulR hinv z2)
      rwa [show co H k - z2 - y * (z1 - c * z2) - (y * c - 1) * z2 = co H k - y * z1 by grind] at h5
    refine ⟨hd, addL_W hp _ _ _, addL_W hp _ _ _, fun k => ?_, fun h => absurd h (by omega), fun _ => ⟨by rw [hlen]; exact hl1, hdiv hf a5, hdiv hg a6⟩⟩
    have hsx : ∀ (z H : List Int), p ∣ cv (co (scaleL p c z)) (co H) k - c * cv (co z) (co H) k := fun z H => by
      rw [← cv_mull]
      exact cv_near k (fun j _ => by rw [co_scale]; exact near_mod _ _) (fun j _ => by rw [Int.sub_self]; exact Int.dvd_zero p)
    have h1 := hsx s f
    have h2 := hsx t g
    rw [co_scale]
    have h3 := near_mod p (c * co a k)
    have h4 := Int.dvd_sub (Int.dvd_sub (Int.dvd_add h3 (dvd_mulL (a4 k) c)) h1) h2
    generalize cv (co (scaleL p c s)) (co f) k = z1 at h4 ⊢
    generalize cv (co (scaleL p c t)) (co g) k = z2 at h4 ⊢
    generalize c * co a k % p = z3 at h4 ⊢
    rwa [show z3 - c * co a k + c * (co a k - (cv (co s) (co f) k + cv (co t) (co g) k)) - (z1 - c * cv (co s) (co f) k) - (z2 - c * cv (co t) (co g) k) = z3 - (z1 + z2) by grind] at h4
end Go.Proofs.YtecmclaockmgeaaDoor

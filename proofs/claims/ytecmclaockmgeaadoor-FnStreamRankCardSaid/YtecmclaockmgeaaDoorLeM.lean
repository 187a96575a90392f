/-
  Plain mathematics: two polynomials in lowest terms.
-/
import Derived.Test.YtecmclaockmgeaaDoorComM
namespace Go.Proofs.YtecmclaockmgeaaDoor
theorem divS_lenF (p : Int) (g : List Int) (bk : Int) : ∀ (k : Nat) (q r : List Int), (divS p g bk k q r).1.length = q.length
  | 0, q, r => rfl
  | k + 1, q, r => by
    show (divS p g bk k (q.set k _) _).1.length = _
    rw [divS_lenF p g bk k, List.length_set]
theorem divP_lenF (p : Int) (f g : List Int) : (divP p f g).1.length = divN f g := by
  unfold divP; rw [divS_lenF, List.length_replicate]
theorem quo_fullF {p : Int} {f g : List Int} (hf : polB p f = true) (hg : polB p g = true) (h1 : 1 ≤ g.length) : (divP p f g).1 = quoL p f g := by
  obtain ⟨q1, q2, q3, q4, q5⟩ := div_law (polB_ser hf) hg h1
  have hlen := divP_lenF p f g
  symm
  unfold quoL
  refine trim_pol ?_
  by_cases hN : divN f g = 0
  · left; rw [hlen, hN]
  right
  intro h0
  have hNn : divN f g + g.length = f.length + 1 := by unfold divN at hN ⊢; split at hN <;> (split <;> omega)
  have hq0 : ∀ k, divN f g - 1 ≤ k → co (quoL p f g) k = 0 := fun k hk => by
    by_cases e : k = divN f g - 1
    · rw [e]; unfold quoL; rw [co_trim, ← hlen]; exact h0
    · exact co_far (by omega)
  have h5 := q5 (f.length - 1)
  have hcv : cv (co g) (co (quoL p f g)) (f.length - 1) = 0 := by
    rw [show f.length - 1 = (g.length - 1) + (divN f g - 1) by omega, cv_top (fun k hk => co_far (by omega)) (fun k hk => hq0 k (by omega)), hq0 _ (Nat.le_refl _), Int.mul_zero]
  rw [hcv, co_far (f := remL p f g) (by omega)] at h5
  simp only [Int.add_zero, Int.sub_zero] at h5
  have hb := co_bd (polB_ser hf) (f.length - 1)
  have hz := near_zero h5 hb.1 hb.2
  rcases polB_last hf with h | h
  · omega
  · exact h hz
/-- the greatest divisor, by rests -/
def gcdN (p : Int) : Nat → List Int → List Int → List Int
  | 0, a, _ => a
  | n + 1, a, b => if b.length = 0 then a else gcdN p n b (remL p a b)
def gcdL (p : Int) (f g : List Int) : List Int := gcdN p g.length f g
theorem gcdN_com (p : Int) : ∀ (n : Nat) (a b s u t v : List Int), (comL p n a b s u t v).1 = gcdN p n a b
  | 0, a, b, s, u, t, v => rfl
  | n + 1, a, b, s, u, t, v => by
    show (if b.length = 0 then (a, s, t) else _ : List Int × List Int × List Int).1 = if b.length = 0 then a else _
    by_cases h : b.length = 0
    · rw [if_pos h, if_pos h]
    · rw [if_neg h, if_neg h]; exact gcdN_com p n _ _ _ _ _ _
theorem gcdN_nil (p : Int) (n : Nat) (a b : List Int) (h : b.length = 0) : gcdN p n a b = a := by
  cases n with
  | zero => rfl
  | succ n => show (if b.length = 0 then a else _) = a; rw [if_pos h]
theorem gcdN_step (p : Int) (n : Nat) (a b : List Int) (h : b.length ≠ 0) (hn : b.length ≤ n) : ∃ m, n = m + 1 ∧ gcdN p n a b = gcdN p m b (remL p a b) := by
  cases n with
  | zero => omega
  | succ n => exact ⟨n, rfl, by show (if b.length = 0 then a else _) = _; rw [if_neg h]⟩
theorem gcd_law {p : Int} {f g : List Int} (hf : polB p f = true) (hg : polB p g = true) :
    polB p (gcdL p f g) = true ∧
    (∃ X N, (∀ k, N ≤ k → X k = 0) ∧ ∀ k, p ∣ co f k - cv X (co (gcdL p f g)) k) ∧ (∃ X N, (∀ k, N ≤ k → X k = 0) ∧ ∀ k, p ∣ co g k - cv X (co (gcdL p f g)) k) := by
  have e : (com0 p f g).1 = gcdL p f g := gcdN_com p _ _ _ _ _ _ _
  obtain ⟨a1, _, _, _, a5, a6⟩ := com0_law hf hg
  rw [e] at a1 a5 a6
  exact ⟨a1, a5, a6⟩
theorem rem_nil {p : Int} {H a : List Int} (hH : polB p H = true) (ha : polB p a = true) (h1 : 1 ≤ a.length) (h : ∃ X N, (∀ k, N ≤ k → X k = 0) ∧ ∀ k, p ∣ co H k - cv X (co a) k) : remL p H a = [] := by
  obtain ⟨hp, _, _⟩ := serB_true (polB_ser ha)
  obtain ⟨X, N, h2, h3⟩ := h
  obtain ⟨_, r1, _, r2, _⟩ := div_law (polB_ser hH) ha h1
  refine CG.same ha h1 r1 (polB_nil hp) r2 (by simp; omega) ((CG.rem (polB_ser hH) ha h1).symm.trans ⟨X, N, h2, fun k => ?_⟩)
  rw [co_far (f := []) (by simp), Int.sub_zero, cv_comm]
  exact h3 k
theorem gcd_pos {p : Int} {f g : List Int} (hf : polB p f = true) (hg : polB p g = true) (h : g.length ≠ 0) : 1 ≤ (gcdL p f g).length := by
  obtain ⟨_, _, h3⟩ := gcd_law hf hg
  rcases Nat.eq_zero_or_pos (gcdL p f g).length with e | e
  · have := nil_of hg e h3
    rw [this] at h; simp at h
  · exact e
/-- in lowest terms, the lower one begins with 1 -/
def leastL (p : Int) (up low : List Int) : List Int × List Int :=
  (scaleL p (invM p (co (quoL p low (gcdL p up low)) 0)) (quoL p up (gcdL p up low)), scaleL p (invM p (co (quoL p low (gcdL p up low)) 0)) (quoL p low (gcdL p up low)))
theorem cv_at0 (F G : Nat → Int) : cv F G 0 = F 0 * G 0 := by show sigN 1 _ = _; simp [sigN]
theorem scale_len (p c : Int) (f : List Int) : (scaleL p c f).length ≤ f.length := by
  have := addL_len p [] f c; unfold scaleL; simpa using this
theorem quo_pos {p : Int} {up low : List Int} (hu : polB p up = true) (hl : polB p low = true) (h0 : low.length ≠ 0) (hz : co low 0 ≠ 0) :
    polB p (quoL p low (gcdL p up low)) = true ∧ co (quoL p low (gcdL p up low)) 0 ≠ 0 ∧ 1 ≤ (quoL p low (gcdL p up low)).length ∧ (quoL p low (gcdL p up low)).length ≤ low.length ∧ polB p (quoL p up (gcdL p up low)) = true ∧ (quoL p up (gcdL p up low)).length ≤ up.length := by
  obtain ⟨g1, g2, g3⟩ := gcd_law hu hl
  have g4 := gcd_pos hu hl h0
  obtain ⟨q1, _, q3, _, q5⟩ := div_law (polB_ser hl) g1 g4
  obtain ⟨u1, _, u3, _, _⟩ := div_law (polB_ser hu) g1 g4
  have hr := rem_nil hl g1 g4 g3
  have h5 := q5 0
  rw [hr, co_far (f := []) (by simp), Int.add_zero, cv_at0] at h5
  have hne : co (quoL p low (gcdL p up low)) 0 ≠ 0 := by
    intro e
    rw [e, Int.mul_zero, Int.sub_zero] at h5
    have hb := co_bd (polB_ser hl) 0
    exact hz (near_zero h5 hb.1 hb.2)
  refine ⟨q1, hne, ?_, ?_, u1, ?_⟩
  · rcases Nat.eq_zero_or_pos (quoL p low (gcdL p up low)).length with e | e
    · exact absurd (co_far (by omega)) hne
    · exact e
  · unfold divN at q3; split at q3 <;> omega
  · unfold divN at u3; split at u3 <;> omega
theorem least_law {p : Int} {up low : List Int} (hu : polB p up = true) (hl : polB p low = true) (h0 : low.length ≠ 0) (hz : co low 0 ≠ 0) :
    polB p (leastL p up low).1 = true ∧ polB p (leastL p up low).2 = true ∧ co (leastL p up low).2 0 = 1 ∧ 1 ≤ (leastL p up low).2.length ∧ (leastL p up low).1.length ≤ up.length ∧ (leastL p up low).2.length ≤ low.length := by
  obtain ⟨q1, q2, q3, q4, q5, q6⟩ := quo_pos hu hl h0 hz
  obtain ⟨hp, _, _⟩ := serB_true (polB_ser hl)
  have hpb := prime_ge hp
  have hb := co_bd (polB_ser q1) 0
  have h1 : co (leastL p up low).2 0 = 1 := by
    show co (scaleL p _ _) 0 = 1
    rw [co_scale, Int.mul_comm, inv_ok hp hb.1 hb.2 q2]
  refine ⟨addL_pol _ (polB_ser (polB_nil hp)) (polB_ser q5), addL_pol _ (polB_ser (polB_nil hp)) (polB_ser q1), h1, ?_, Nat.le_trans (scale_len _ _ _) q6, Nat.le_trans (scale_len _ _ _) q4⟩
  rcases Nat.eq_zero_or_pos (leastL p up low).2.length with e | e
  · rw [co_far (by omega)] at h1; omega
  · exact e
/-- both in lowest terms, if this is valid -/
def leastO (p : Int) (up low : List Int) : Option (List Int × List Int) :=
  if low.length ≠ 0 ∧ co low 0 ≠ 0 ∧ (leastL p up low).1.length ≤ 12 ∧ (leastL p up low).2.length ≤ 12 then some (leastL p up low) else none
def fracB (p : Int) (up low : List Int) : Bool := polB p up && polB p low && decide (up.length ≤ 12) && decide (low.length ≤ 12) && decide (low.length ≠ 0) && decide (co low 0 ≠ 0)
theorem fracB_true {p : Int} {up low : List Int} (h : fracB p up low = true) : polB p up = true ∧ polB p low = true ∧ up.length ≤ 12 ∧ low.length ≤ 12 ∧ low.length ≠ 0 ∧ co low 0 ≠ 0 := by
  unfold fracB at h
  simp only [Bool.and_eq_true, decide_eq_true_eq] at h
  obtain ⟨⟨⟨⟨⟨a, b⟩, c⟩, d⟩, e⟩, f⟩ := h
  exact ⟨a, b, c, d, e, f⟩
end Go.Proofs.YtecmclaockmgeaaDoor

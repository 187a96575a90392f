/-
  Powers, square by square, from the first bit on.
-/
import Derived.Test.YtmmadmfpbancmabPolN
import Derived.Test.YtmmadmfpbancmabLen
namespace Go.Proofs.Ytmmadmfpbancmab
open Go.RowKit
theorem mulR_law' {p : Int} {g a b : List Int} (hg : polB p g = true) (h1 : 1 ≤ g.length) (hgl : g.length ≤ 12) (ha : polB p a = true) (hb : polB p b = true) (hal : a.length < g.length) (hbl : b.length ≤ g.length) :
    polB p (mulR p g a b) = true ∧ (mulR p g a b).length < g.length ∧ CG p (co g) (co (mulR p g a b)) (cv (co a) (co b)) ∧ trimL (tmsL p a b) = tmsL p a b ∧ polB p (tmsL p a b) = true := by
  have ht : polB p (tmsL p a b) = true := tmsL_pol ha hb (by unfold tmsN; split <;> omega)
  have e := trim_pol (polB_last ht)
  obtain ⟨_, r2, _, r4, _⟩ := div_law (polB_ser ht) hg h1
  unfold mulR
  rw [e]
  refine ⟨r2, r4, (CG.rem (polB_ser ht) hg h1).symm.trans (CG.near fun k => ?_), rfl, ht⟩
  rw [co_tmsL]; exact near_mod _ _
/-- a row is the rest of the power with this exponent -/
def PS (p : Int) (g R : List Int) (e : Nat) : Prop := polB p R = true ∧ R.length < g.length ∧ CG p (co g) (co R) (mono e)
theorem one_pol {p : Int} (hp : primeB p = true) : polB p [1] = true ∧ polB p [0, 1] = true := by
  obtain ⟨h1, h2⟩ := serB_one hp
  exact ⟨polB_of h1 (.inr (by decide)), polB_of h2 (.inr (by decide))⟩
theorem co_one : co [1] = mono 0 := by
  funext k
  match k with
  | 0 => rfl
  | k + 1 => unfold co mono; simp
theorem co_var : co [0, 1] = mono 1 := by
  funext k
  match k with
  | 0 => rfl
  | 1 => rfl
  | k + 2 => unfold co mono; simp
theorem mono_far (k : Nat) : ∀ j, k + 1 ≤ j → mono k j = 0 := fun j hj => by unfold mono; rw [if_neg (by omega)]
theorem ps_one {p : Int} {g : List Int} (hp : primeB p = true) (h2 : 2 ≤ g.length) : PS p g [1] 0 := ⟨(one_pol hp).1, (show 1 < g.length by omega), by rw [co_one]; exact CG.refl _ _ _⟩
theorem ps_sq {p : Int} {g R : List Int} {e : Nat} (hg : polB p g = true) (h1 : 2 ≤ g.length) (hgl : g.length ≤ 12) (h : PS p g R e) : PS p g (mulR p g R R) (e + e) := by
  obtain ⟨r1, r2, r3⟩ := h
  obtain ⟨s1, s2, s3, _⟩ := mulR_law' hg (by omega) hgl r1 r1 r2 (by omega)
  have := s3.trans (r3.mul2 r3 (fun k hk => co_far hk) (mono_far e))
  rw [show cv (mono e) (mono e) = mono (e + e) from funext (mono_cv e e)] at this
  exact ⟨s1, s2, this⟩
theorem ps_var {p : Int} {g R : List Int} {e : Nat} (hg : polB p g = true) (h1 : 2 ≤ g.length) (hgl : g.length ≤ 12) (h : PS p g R e) : PS p g (mulR p g R [0, 1]) (e + 1) := by
  obtain ⟨r1, r2, r3⟩ := h
  have hp := (serB_true (polB_ser hg)).1
  obtain ⟨s1, s2, s3, _⟩ := mulR_law' hg (by omega) hgl r1 (one_pol hp).2 r2 (by simpa using h1)
  have hv : CG p (co g) (co [0, 1]) (mono 1) := by rw [co_var]; exact CG.refl _ _ _
  have := s3.trans (r3.mul2 hv (fun k hk => co_far hk) (mono_far e))
  rw [show cv (mono e) (mono 1) = mono (e + 1) from funext (mono_cv e 1)] at this
  exact ⟨s1, s2, this⟩
theorem ps_end {p : Int} {g R : List Int} {n : Nat} (hg : polB p g = true) (h1 : 2 ≤ g.length) (hgl : g.length ≤ 12) (h : PS p g R n) : R = powR p g n := by
  obtain ⟨r1, r2, r3⟩ := h
  obtain ⟨s1, s2, s3⟩ := powR_law hg (by omega) hgl n
  exact CG.same hg (by omega) r1 s1 r2 s2 (r3.trans s3.symm)
theorem lt_aux : ∀ (f x : Nat), x < 2 ^ f → x < 2 ^ Lib.bitLenAux f x
  | 0, x, h => by simpa [Lib.bitLenAux] using h
  | f + 1, x, h => by
    unfold Lib.bitLenAux
    split
    · rename_i h0; subst h0; simp
    · have := lt_aux f (x / 2) (by rw [Nat.pow_succ] at h; omega)
      rw [Nat.add_comm, Nat.pow_succ]
      omega
theorem lt_bitLen {x : Nat} (h : x ≤ 1000000) : x < 2 ^ Lib.bitLen x := lt_aux 64 x (Nat.lt_of_le_of_lt h (by decide))
theorem bitLen_small {x : Nat} (h : x ≤ 1000000) : Lib.bitLen x ≤ 20 := Lib.bitLenAux_le 64 x 20 (Nat.lt_of_le_of_lt h (by decide))
theorem bit_step (n m : Nat) : n / 2 ^ m = n / 2 ^ (m + 1) + n / 2 ^ (m + 1) + n / 2 ^ m % 2 := by
  rw [Nat.pow_succ, ← Nat.div_div_eq_div_mul]; omega
def powO (p : Int) (g : List Int) (n : Int) : Option (List Int) := if polB p g = true ∧ 2 ≤ g.length ∧ g.length ≤ 12 ∧ 0 ≤ n ∧ n ≤ 1000000 then some (powR p g n.toNat) else none
theorem powO_bd (p : Int) (g : List Int) (n : Int) : ((powO p g n).getD []).length ≤ 1048576 := by
  unfold powO
  split
  · rename_i h
    have := (powR_law h.1 (by omega) h.2.2.1 n.toNat).2.1
    simp only [Option.getD_some]; omega
  · simp
end Go.Proofs.Ytmmadmfpbancmab

/-
  Plain mathematics: the answers of the functions of fractions.
-/
import Derived.Test.YtbpndmcejbiedaaDoorLeM
namespace Go.Proofs.YtbpndmcejbiedaaDoor
def leastR (p : Int) (up low : List Int) : Option (Int × List Int × List Int) := (leastO p up low).map fun x => (p, x.1, x.2)
theorem leastR_len (p : Int) (up low : List Int) : ((leastR p up low).getD (0, [], [])).2.1.length ≤ 1048576 ∧ ((leastR p up low).getD (0, [], [])).2.2.length ≤ 1048576 := by
  unfold leastR leastO
  split
  · rename_i h
    show (leastL p up low).1.length ≤ _ ∧ (leastL p up low).2.length ≤ _
    omega
  · simp
theorem leastR_yes {p : Int} {up low : List Int} (h0 : low.length ≠ 0) (hz : co low 0 ≠ 0) (h1 : (leastL p up low).1.length ≤ 12) (h2 : (leastL p up low).2.length ≤ 12) : leastR p up low = some (p, (leastL p up low).1, (leastL p up low).2) := by
  unfold leastR leastO; rw [if_pos ⟨h0, hz, h1, h2⟩]; rfl
theorem leastR_frac {p : Int} {U L : List Int} (h : fracB p U L = true) : leastR p U L = some (p, (leastL p U L).1, (leastL p U L).2) := by
  obtain ⟨hu, hl, h1, h2, h3, h4⟩ := fracB_true h
  obtain ⟨_, _, _, _, l1, l2⟩ := least_law hu hl h3 h4
  exact leastR_yes h3 h4 (by omega) (by omega)
/-- a product of two lower polynomials -/
theorem low_times {p : Int} {L L' : List Int} (hl : polB p L = true) (hl' : polB p L' = true) (h1 : L.length ≤ 12) (h1' : L'.length ≤ 12) (h3 : L.length ≠ 0) (h3' : L'.length ≠ 0) (h4 : co L 0 ≠ 0) (h4' : co L' 0 ≠ 0) :
    trimL (tmsL p L L') = tmsL p L L' ∧ polB p (tmsL p L L') = true ∧ (tmsL p L L').length ≠ 0 ∧ co (tmsL p L L') 0 ≠ 0 := by
  have hn : tmsN L L' = L.length + L'.length - 1 := by unfold tmsN; rw [if_neg (by omega)]
  refine ⟨trim_pol (tmsL_last hl hl'), tmsL_pol hl hl' (by omega), by rw [tmsL_len]; omega, fun hz => ?_⟩
  rw [co_tmsL, cv_at0] at hz
  obtain ⟨hp, _, _⟩ := serB_true (polB_ser hl)
  have b1 := co_bd (polB_ser hl) 0
  have b2 := co_bd (polB_ser hl') 0
  rcases times_zero (numB_mk hp b1.1 b1.2) (numB_mk hp b2.1 b2.2) hz with h | h
  · exact h4 h
  · exact h4' h
theorem tms_pol {p : Int} {f g : List Int} (hf : polB p f = true) (hg : polB p g = true) (h1 : f.length ≤ 12) (h2 : g.length ≤ 12) : trimL (tmsL p f g) = tmsL p f g ∧ polB p (tmsL p f g) = true ∧ (tmsL p f g).length ≤ 23 := by
  have hn : tmsN f g ≤ 23 := by unfold tmsN; split <;> omega
  exact ⟨trim_pol (tmsL_last hf hg), tmsL_pol hf hg (by omega), by rw [tmsL_len]; exact hn⟩
theorem add_pol {p : Int} {f g : List Int} (t : Int) (hf : polB p f = true) (hg : polB p g = true) : polB p (addL p f g t) = true := addL_pol t (polB_ser hf) (polB_ser hg)
def fracLeastR (p : Int) (U L : List Int) : Int × List Int × List Int := if fracB p U L = true then (p, (leastL p U L).1, (leastL p U L).2) else (0, [], [])
theorem fracLeastR_len (p : Int) (U L : List Int) : (fracLeastR p U L).2.1.length ≤ 1048576 ∧ (fracLeastR p U L).2.2.length ≤ 1048576 := by
  unfold fracLeastR
  split
  · rename_i h
    obtain ⟨hu, hl, h1, h2, h3, h4⟩ := fracB_true h
    obtain ⟨_, _, _, _, l1, l2⟩ := least_law hu hl h3 h4
    show (leastL p U L).1.length ≤ _ ∧ (leastL p U L).2.length ≤ _
    omega
  · simp
theorem fracLeastR_eq {p : Int} {U L : List Int} (h : fracB p U L = true) : leastR p U L = some (fracLeastR p U L) := by
  rw [leastR_frac h]; unfold fracLeastR; rw [if_pos h]
def bothB (p : Int) (U L : List Int) (p' : Int) (U' L' : List Int) : Bool := fracB p U L && (fracB p' U' L' && decide (p = p'))
theorem bothB_true {p p' : Int} {U L U' L' : List Int} (h : bothB p U L p' U' L' = true) : fracB p U L = true ∧ fracB p' U' L' = true ∧ p = p' := by
  unfold bothB at h
  simp only [Bool.and_eq_true, decide_eq_true_eq] at h
  exact ⟨h.1, h.2.1, h.2.2⟩
def fracAddR (p : Int) (U L : List Int) (p' : Int) (U' L' : List Int) : Option (Int × List Int × List Int) := if bothB p U L p' U' L' = true then leastR p (addL p (tmsL p U L') (tmsL p U' L) 1) (tmsL p L L') else none
def fracTimesR (p : Int) (U L : List Int) (p' : Int) (U' L' : List Int) : Option (Int × List Int × List Int) := if bothB p U L p' U' L' = true then leastR p (tmsL p U U') (tmsL p L L') else none
def fracBackR (p : Int) (U L : List Int) : Option (Int × List Int × List Int) := if fracB p U L = true then leastR p L U else none
def fracSameR (p : Int) (U L : List Int) (p' : Int) (U' L' : List Int) : Bool := bothB p U L p' U' L' && decide (tmsL p U L' = tmsL p U' L)
theorem ifR_len (b : Bool) (p : Int) (up low : List Int) : ((if b = true then leastR p up low else none).getD (0, [], [])).2.1.length ≤ 1048576 ∧ ((if b = true then leastR p up low else none).getD (0, [], [])).2.2.length ≤ 1048576 := by
  split
  · exact leastR_len p up low
  · simp
theorem fracAddR_len (p : Int) (U L : List Int) (p' : Int) (U' L' : List Int) : ((fracAddR p U L p' U' L').getD (0, [], [])).2.1.length ≤ 1048576 ∧ ((fracAddR p U L p' U' L').getD (0, [], [])).2.2.length ≤ 1048576 := ifR_len _ _ _ _
theorem fracTimesR_len (p : Int) (U L : List Int) (p' : Int) (U' L' : List Int) : ((fracTimesR p U L p' U' L').getD (0, [], [])).2.1.length ≤ 1048576 ∧ ((fracTimesR p U L p' U' L').getD (0, [], [])).2.2.length ≤ 1048576 := ifR_len _ _ _ _
theorem fracBackR_len (p : Int) (U L : List Int) : ((fracBackR p U L).getD (0, [], [])).2.1.length ≤ 1048576 ∧ ((fracBackR p U L).getD (0, [], [])).2.2.length ≤ 1048576 := ifR_len _ _ _ _
theorem sub_nil {p : Int} {X Y : List Int} (hX : polB p X = true) (hY : polB p Y = true) : decide ((addL p X Y (p - 1)).length = 0) = decide (X = Y) := by
  rw [Bool.eq_iff_iff, decide_eq_true_eq, decide_eq_true_eq]
  constructor
  · intro h0
    refine pol_ext' hX hY fun k => co_near (polB_ser hX) (polB_ser hY) ?_
    have h1 : co (addL p X Y (p - 1)) k = 0 := co_far (by omega)
    rw [co_addL] at h1
    have h2 := near_mod p (co X k + (p - 1) * co Y k)
    rw [h1] at h2
    have h3 := Int.dvd_add (near_symm h2) (Int.dvd_mul_right p (-(co Y k)))
    rwa [show co X k + (p - 1) * co Y k - 0 + p * -(co Y k) = co X k - co Y k by grind] at h3
  · rintro rfl
    have e : addL p X X (p - 1) = [] := pol_ext (trim_last _) (.inl rfl) fun k => by
      show co (addL p X X (p - 1)) k = _
      rw [co_addL, co_far (f := []) (by simp), show co X k + (p - 1) * co X k = p * co X k by grind]
      exact Int.mul_emod_right _ _
    rw [e]; rfl
end Go.Proofs.YtbpndmcejbiedaaDoor

/-
  Plain mathematics: polynomials as rows without zeros at their end; sums, products and values.
-/
import Derived.Test.YtecmclaockmgeaaDoorTrim
import Derived.Test.YtecmclaockmgeaaDoorCv
import Derived.Test.YtecmclaockmgeaaDoorMathB
namespace Go.Proofs.YtecmclaockmgeaaDoor
def co (f : List Int) (k : Nat) : Int := f.getD k 0
theorem co_far {f : List Int} {k : Nat} (h : f.length ≤ k) : co f k = 0 := getD_far h
theorem trimN_zero (f : List Int) : ∀ n k, trimN f n ≤ k → k < n → f.getD k 0 = 0
  | 0, k, _, h => absurd h (by omega)
  | n + 1, k, h1, h2 => by
    unfold trimN at h1
    split at h1
    · rename_i h0
      by_cases e : k = n
      · rw [e]; exact h0
      · exact trimN_zero f n k h1 (by omega)
    · omega
theorem co_trim (f : List Int) (k : Nat) : co (trimL f) k = co f k := by
  unfold co trimL
  rw [List.getD_eq_getElem?_getD, List.getElem?_take]
  split
  · rw [← List.getD_eq_getElem?_getD]
  · rename_i h
    by_cases e : k < f.length
    · rw [trimN_zero f f.length k (by omega) e]; rfl
    · rw [getD_far (by omega)]; rfl
theorem trim_last (f : List Int) : (trimL f).length = 0 ∨ co (trimL f) ((trimL f).length - 1) ≠ 0 := by
  rw [co_trim, trimL_len]
  exact trimN_last f f.length
theorem trim_mem {f : List Int} {x : Int} (h : x ∈ trimL f) : x ∈ f := List.mem_of_mem_take h
/-- rows with a last number that is not 0 are told by their numbers -/
theorem pol_ext {f g : List Int} (hf : f.length = 0 ∨ co f (f.length - 1) ≠ 0) (hg : g.length = 0 ∨ co g (g.length - 1) ≠ 0) (h : ∀ k, co f k = co g k) : f = g := by
  have hl : f.length = g.length := by
    rcases Nat.lt_trichotomy f.length g.length with e | e | e
    · rcases hg with hg | hg
      · omega
      · rw [← h, co_far (by omega)] at hg; exact absurd rfl hg
    · exact e
    · rcases hf with hf | hf
      · omega
      · rw [h, co_far (by omega)] at hf; exact absurd rfl hf
  refine List.ext_getElem hl fun i h1 h2 => ?_
  have := h i
  simpa [co, List.getD_eq_getElem?_getD, List.getElem?_eq_getElem h1, List.getElem?_eq_getElem h2] using this
theorem polB_of {p : Int} {f : List Int} (hs : serB p f = true) (hl : f.length = 0 ∨ co f (f.length - 1) ≠ 0) : polB p f = true := by
  simp only [polB, hs, Bool.true_and, Bool.or_eq_true, decide_eq_true_eq, bne_iff_ne]
  exact hl
theorem pol_ext' {p : Int} {f g : List Int} (hf : polB p f = true) (hg : polB p g = true) (h : ∀ k, co f k = co g k) : f = g := pol_ext (polB_last hf) (polB_last hg) h
theorem co_bd {p : Int} {f : List Int} (h : serB p f = true) (k : Nat) : 0 ≤ co f k ∧ co f k < p := by
  obtain ⟨h1, _, h3⟩ := serB_true h
  have hpb := prime_ge h1
  unfold co
  rw [List.getD_eq_getElem?_getD]
  rcases hx : f[k]? with _ | x
  · exact ⟨Int.le_refl _, by simp only [Option.getD_none]; omega⟩
  · have := numB_true (h3 x (List.mem_of_getElem? hx))
    simp only [Option.getD_some]; exact this.2
theorem co_near {p : Int} {f g : List Int} (hf : serB p f = true) (hg : serB p g = true) {k : Nat} (h : p ∣ co f k - co g k) : co f k = co g k :=
  near_eq h (co_bd hf k).1 (co_bd hf k).2 (co_bd hg k).1 (co_bd hg k).2
/-- sums -/
def addL (p : Int) (f g : List Int) (t : Int) : List Int := trimL (addR p f g t)
theorem co_map (h : Nat → Int) (n k : Nat) : ((List.range n).map h).getD k 0 = if k < n then h k else 0 := by
  rw [List.getD_eq_getElem?_getD, List.getElem?_map]
  split
  · rename_i hk; rw [List.getElem?_range hk]; rfl
  · rename_i hk; rw [List.getElem?_eq_none (by simp; omega)]; rfl
theorem co_addL (p : Int) (f g : List Int) (t : Int) (k : Nat) : co (addL p f g t) k = (co f k + t * co g k) % p := by
  unfold addL
  rw [co_trim]
  unfold co addR
  rw [co_map]
  split
  · rfl
  · rename_i h
    rw [getD_far (show f.length ≤ k by omega), getD_far (show g.length ≤ k by omega)]; simp
theorem addL_ser {p : Int} {f g : List Int} (t : Int) (hf : serB p f = true) (hg : serB p g = true) : serB p (addL p f g t) = true := by
  obtain ⟨h1, h2, _⟩ := serB_true hf
  obtain ⟨_, h4, _⟩ := serB_true hg
  refine serB_mk h1 ?_ fun x hx => ?_
  · have := trimN_le (addR p f g t) (addR p f g t).length
    unfold addL
    rw [trimL_len]
    rw [addR_len] at this ⊢
    omega
  · obtain ⟨k, _, rfl⟩ := List.mem_map.1 (trim_mem hx)
    exact numB_emod h1 _
theorem addL_pol {p : Int} {f g : List Int} (t : Int) (hf : serB p f = true) (hg : serB p g = true) : polB p (addL p f g t) = true := polB_of (addL_ser t hf hg) (trim_last _)
theorem addL_len (p : Int) (f g : List Int) (t : Int) : (addL p f g t).length ≤ max f.length g.length := by
  have := trimN_le (addR p f g t) (addR p f g t).length
  unfold addL
  rw [trimL_len]
  rw [addR_len] at this ⊢
  exact this
/-- products -/
def tmsL (p : Int) (f g : List Int) : List Int := convR p f g (tmsN f g)
theorem tmsL_len (p : Int) (f g : List Int) : (tmsL p f g).length = tmsN f g := convR_len _ _ _ _
theorem conv_eq (f g : List Int) (k : Nat) : conv f g k = cv (co f) (co g) k := rfl
theorem co_tmsL (p : Int) (f g : List Int) (k : Nat) : co (tmsL p f g) k = cv (co f) (co g) k % p := by
  unfold tmsL co convR
  rw [co_map]
  split
  · rfl
  · rename_i h
    have : cv (co f) (co g) k = 0 := by
      unfold tmsN at h
      split at h
      · rename_i h0
        rcases h0 with h0 | h0
        · exact sigN_zero fun j _ => by rw [co_far (by omega)]; simp
        · exact sigN_zero fun j _ => by rw [co_far (f := g) (by omega)]; simp
      · exact cv_far (n := f.length) (m := g.length) (fun j hj => co_far hj) (fun j hj => co_far hj) (by omega)
    rw [show cv (fun k => f.getD k 0) (fun k => g.getD k 0) k = 0 from this]; simp
theorem tmsL_last {p : Int} {f g : List Int} (hf : polB p f = true) (hg : polB p g = true) : (tmsL p f g).length = 0 ∨ co (tmsL p f g) ((tmsL p f g).length - 1) ≠ 0 := by
  rw [tmsL_len]
  unfold tmsN
  by_cases h0 : f.length = 0 ∨ g.length = 0
  · rw [if_pos h0]; exact .inl rfl
  · rw [if_neg h0]
    refine .inr fun hz => ?_
    have e : f.length + g.length - 1 - 1 = (f.length - 1) + (g.length - 1) := by omega
    rw [co_tmsL, e, cv_top (fun k hk => co_far (by omega)) (fun k hk => co_far (by omega))] at hz
    obtain ⟨hp, _, _⟩ := serB_true (polB_ser hf)
    have b1 := co_bd (polB_ser hf) (f.length - 1)
    have b2 := co_bd (polB_ser hg) (g.length - 1)
    rcases times_zero (numB_mk hp b1.1 b1.2) (numB_mk hp b2.1 b2.2) hz with h | h
    · rcases polB_last hf with h1 | h1
      · omega
      · exact h1 h
    · rcases polB_last hg with h1 | h1
      · omega
      · exact h1 h
theorem tmsL_pol {p : Int} {f g : List Int} (hf : polB p f = true) (hg : polB p g = true) (hl : tmsN f g ≤ 24) : polB p (tmsL p f g) = true := by
  obtain ⟨hp, _, _⟩ := serB_true (polB_ser hf)
  refine polB_of (serB_mk hp (by rw [tmsL_len]; exact hl) fun x hx => ?_) (tmsL_last hf hg)
  unfold tmsL convR at hx
  obtain ⟨k, _, rfl⟩ := List.mem_map.1 hx
  exact numB_emod hp _
/-- values -/
def atL (p : Int) (x : Int) : List Int → Int
  | [] => 0
  | a :: f => (atL p x f * x + a) % p
theorem atL_near (p x : Int) : ∀ f : List Int, p ∣ atL p x f - ev (co f) x f.length
  | [] => by simp [atL, ev, sigN]
  | a :: f => by
    have h := atL_near p x f
    have e : ev (co (a :: f)) x (f.length + 1) = a + x * ev (co f) x f.length := by
      unfold ev
      rw [sigN_shift]
      rw [← sigN_mul]
      congr 1
      · show a * x ^ 0 = a
        simp
      · refine sigN_congr fun k _ => ?_
        show co f k * x ^ (k + 1) = x * (co f k * x ^ k)
        rw [Int.pow_succ]; grind
    show p ∣ (atL p x f * x + a) % p - ev (co (a :: f)) x (f.length + 1)
    rw [e]
    refine near_trans (near_mod _ _) ?_
    rw [show atL p x f * x + a - (a + x * ev (co f) x f.length) = (atL p x f - ev (co f) x f.length) * x by grind]
    exact dvd_mulR h _
theorem atL_bd {p x : Int} (hp : primeB p = true) : ∀ f : List Int, numB p (atL p x f) = true
  | [] => numB_zero hp
  | _ :: _ => numB_emod hp _
theorem atL_eq {p x : Int} (hp : primeB p = true) {f : List Int} {n : Nat} (hn : f.length ≤ n) {y : Int} (hy : numB p y = true) (h : p ∣ ev (co f) x n - y) : atL p x f = y := by
  have h1 := atL_near p x f
  rw [← ev_trunc hn (fun k hk => co_far hk)] at h1
  have b1 := numB_true (atL_bd (x := x) hp f)
  have b2 := numB_true hy
  exact near_eq (near_trans h1 h) b1.2.1 b1.2.2 b2.2.1 b2.2.2
theorem atL_ev {p x : Int} {f : List Int} {n : Nat} (hn : f.length ≤ n) : p ∣ atL p x f - ev (co f) x n := by
  rw [ev_trunc hn (fun k hk => co_far hk)]; exact atL_near p x f
/-- the value of a sum, of a product -/
theorem at_add {p x : Int} {f g h : List Int} (hp : primeB p = true) (hh : ∀ k, p ∣ co h k - (co f k + co g k)) : atL p x h = numAdd p (atL p x f) (atL p x g) := by
  have hf := atL_bd (x := x) hp f
  have hg := atL_bd (x := x) hp g
  rw [numAdd_ok hf hg]
  refine atL_eq hp (n := f.length + g.length + h.length) (by omega) (numB_emod hp _) ?_
  have e1 := atL_ev (p := p) (x := x) (f := f) (n := f.length + g.length + h.length) (by omega)
  have e2 := atL_ev (p := p) (x := x) (f := g) (n := f.length + g.length + h.length) (by omega)
  have e3 := ev_near (x := x) (n := f.length + g.length + h.length) (fun k _ => hh k)
  rw [ev_add] at e3
  refine near_trans e3 (near_trans ?_ (near_symm (near_mod _ _)))
  have := Int.dvd_add e1 e2
  have := Int.dvd_neg.2 this
  generalize atL p x f = a at this ⊢
  generalize atL p x g = b at this ⊢
  generalize ev (co f) x _ = c at this ⊢
  generalize ev (co g) x _ = d at this ⊢
  rwa [show -(a - c + (b - d)) = c + d - (a + b) by omega] at this
theorem at_times {p x : Int} {f g h : List Int} (hp : primeB p = true) (hh : ∀ k, p ∣ co h k - cv (co f) (co g) k) : atL p x h = numTimes p (atL p x f) (atL p x g) := by
  have hf := atL_bd (x := x) hp f
  have hg := atL_bd (x := x) hp g
  rw [numTimes_ok hf hg]
  have hc : ∀ k, f.length + g.length ≤ k → cv (co f) (co g) k = 0 := fun k hk => cv_far (fun j hj => co_far hj) (fun j hj => co_far hj) (by omega)
  refine atL_eq hp (n := f.length + g.length + h.length) (by omega) (numB_emod hp _) ?_
  have e1 := atL_near p x f
  have e2 := atL_near p x g
  have e3 := ev_near (x := x) (n := f.length + g.length + h.length) (fun k _ => hh k)
  rw [ev_trunc (show f.length + g.length ≤ f.length + g.length + h.length by omega) hc, ev_cv (fun k hk => co_far hk) (fun k hk => co_far hk)] at e3
  refine near_trans e3 (near_trans ?_ (near_symm (near_mod _ _)))
  generalize atL p x f = a at e1 ⊢
  generalize atL p x g = b at e2 ⊢
  generalize ev (co f) x _ = c at e1 ⊢
  generalize ev (co g) x _ = d at e2 ⊢
  have := Int.dvd_add (dvd_mulR e1 d) (dvd_mulL e2 a)
  have := Int.dvd_neg.2 this
  rwa [show -((a - c) * d + a * (b - d)) = c * d - a * b by grind] at this
end Go.Proofs.YtecmclaockmgeaaDoor

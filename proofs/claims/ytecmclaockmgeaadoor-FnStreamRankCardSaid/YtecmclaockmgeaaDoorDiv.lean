/-
  Plain mathematics: division of polynomials, step by step; quotient and rest are the only ones.
-/
import Derived.Test.YtecmclaockmgeaaDoorPolM
namespace Go.Proofs.YtecmclaockmgeaaDoor
def subAt (p t : Int) (r g : List Int) (k : Nat) : List Int := (List.range r.length).map (fun i => if k ≤ i ∧ i < k + g.length then (r.getD i 0 - t * g.getD (i - k) 0) % p else r.getD i 0)
theorem subAt_len (p t : Int) (r g : List Int) (k : Nat) : (subAt p t r g k).length = r.length := by simp [subAt]
theorem co_subAt (p t : Int) (r g : List Int) (k : Nat) (hk : k + g.length ≤ r.length) (i : Nat) : co (subAt p t r g k) i = if k ≤ i ∧ i < k + g.length then (co r i - t * co g (i - k)) % p else co r i := by
  unfold co subAt
  rw [co_map]
  split
  · rfl
  · rename_i h
    rw [if_neg (by omega), getD_far (by omega)]
def divS (p : Int) (g : List Int) (back : Int) : Nat → List Int → List Int → List Int × List Int
  | 0, q, r => (q, r)
  | k + 1, q, r => divS p g back k (q.set k (r.getD (k + g.length - 1) 0 * back % p)) (subAt p (r.getD (k + g.length - 1) 0 * back % p) r g k)
theorem cv_at (G : Nat → Int) (k i : Nat) (t : Int) : cv G (fun j => if j = k then t else 0) i = if k ≤ i then G (i - k) * t else 0 := by
  unfold cv
  split
  · rename_i h
    rw [sigN_one (c := i - k) (by omega) (fun j hj hne => by
      show G j * (if i - j = k then t else 0) = 0
      rw [if_neg (by omega)]; simp)]
    show G (i - k) * (if i - (i - k) = k then t else 0) = _
    rw [if_pos (by omega)]
  · rename_i h
    exact sigN_zero fun j hj => by
      show G j * (if i - j = k then t else 0) = 0
      rw [if_neg (by omega)]; simp
theorem co_set {q : List Int} {k : Nat} {t : Int} (hk : k < q.length) (h0 : co q k = 0) (j : Nat) : co (q.set k t) j = co q j + (if j = k then t else 0) := by
  unfold co at *
  rw [List.getD_eq_getElem?_getD]
  by_cases e : j = k
  · subst e
    rw [List.getElem?_set_self hk, if_pos rfl, h0]; simp
  · rw [List.getElem?_set_ne (fun h => e h.symm), if_neg e, ← List.getD_eq_getElem?_getD]; simp
/-- what a step keeps -/
theorem divS_inv {p : Int} (hp : primeB p = true) {g : List Int} {back : Int} (hg : 1 ≤ g.length) (hb : p ∣ co g (g.length - 1) * back - 1) : ∀ (k : Nat) (q r : List Int), k + g.length ≤ r.length + 1 → k ≤ q.length → (∀ i, i < k → co q i = 0) → (∀ i, k + g.length ≤ i + 1 → co r i = 0) → (∀ x ∈ q, numB p x = true) → (∀ x ∈ r, numB p x = true) →
    (divS p g back k q r).1.length = q.length ∧ (divS p g back k q r).2.length = r.length ∧ (∀ x ∈ (divS p g back k q r).1, numB p x = true) ∧ (∀ x ∈ (divS p g back k q r).2, numB p x = true) ∧
    (∀ i, g.length ≤ i + 1 → co (divS p g back k q r).2 i = 0) ∧
    ∀ i, p ∣ (co r i + cv (co g) (co q) i) - (co (divS p g back k q r).2 i + cv (co g) (co (divS p g back k q r).1) i)
  | 0, q, r, _, _, _, hz, hq, hr => ⟨rfl, rfl, hq, hr, fun i hi => hz i (by omega), fun i => by
      show p ∣ (co r i + cv (co g) (co q) i) - (co r i + cv (co g) (co q) i)
      rw [Int.sub_self]; exact Int.dvd_zero p⟩
  | k + 1, q, r, hk, hkq, h0, hz, hq, hr => by
    obtain ⟨t, ht⟩ : ∃ t, r.getD (k + g.length - 1) 0 * back % p = t := ⟨_, rfl⟩
    have hkl : k + g.length ≤ r.length := by omega
    have hsub := co_subAt p t r g k hkl
    have hset : ∀ j, co (q.set k t) j = co q j + (if j = k then t else 0) := co_set (by omega) (h0 k (by omega))
    have hnt : numB p t = true := by rw [← ht]; exact numB_emod hp _
    have IH := divS_inv hp hg hb k (q.set k t) (subAt p t r g k) (by rw [subAt_len]; omega) (by rw [List.length_set]; omega)
      (fun i hi => by rw [hset, h0 i (by omega), if_neg (by omega)]; rfl)
      (fun i hi => by
        rw [hsub]
        by_cases e : i = k + g.length - 1
        · rw [if_pos (by omega)]
          refine Int.emod_eq_zero_of_dvd ?_
          rw [e, show k + g.length - 1 - k = g.length - 1 by omega]
          have h1 := near_mod p (r.getD (k + g.length - 1) 0 * back)
          rw [ht] at h1
          unfold co at hb ⊢
          generalize r.getD (k + g.length - 1) 0 = x at h1 ⊢
          generalize g.getD (g.length - 1) 0 = y at hb ⊢
          have h2 := Int.dvd_add (dvd_mulR h1 y) (dvd_mulL hb x)
          have h3 := Int.dvd_neg.2 h2
          rwa [show -((t - x * back) * y + x * (y * back - 1)) = x - t * y by grind] at h3
        · rw [if_neg (by omega)]; exact hz i (by omega))
      (fun x hx => by
        rcases List.mem_or_eq_of_mem_set hx with h | h
        · exact hq x h
        · rw [h]; exact hnt)
      (fun x hx => by
        unfold subAt at hx
        obtain ⟨i, hi, rfl⟩ := List.mem_map.1 hx
        split
        · exact numB_emod hp _
        · have hi := List.mem_range.1 hi
          rw [List.getD_eq_getElem?_getD, List.getElem?_eq_getElem hi]
          exact hr _ (List.getElem_mem hi))
    have e : divS p g back (k + 1) q r = divS p g back k (q.set k t) (subAt p t r g k) := by
      show divS p g back k _ _ = _
      rw [ht]
    rw [e]
    obtain ⟨i1, i2, i3, i4, i5, i6⟩ := IH
    refine ⟨by rw [i1, List.length_set], by rw [i2, subAt_len], i3, i4, i5, fun i => near_trans ?_ (i6 i)⟩
    have hcv : cv (co g) (co (q.set k t)) i = cv (co g) (co q) i + (if k ≤ i then co g (i - k) * t else 0) := by
      rw [← cv_at, cv_comm (co g) (co q), cv_comm (co g) (fun j => if j = k then t else 0), ← cv_addl, cv_comm]
      congr 1
      funext j
      exact hset j
    rw [hcv, hsub]
    by_cases e2 : k ≤ i
    · rw [if_pos e2]
      by_cases e3 : i < k + g.length
      · rw [if_pos ⟨e2, e3⟩]
        have h1 := near_symm (near_mod p (co r i - t * co g (i - k)))
        generalize (co r i - t * co g (i - k)) % p = y at h1 ⊢
        rwa [show co r i + cv (co g) (co q) i - (y + (cv (co g) (co q) i + co g (i - k) * t)) = co r i - t * co g (i - k) - y by grind]
      · rw [if_neg (by omega), co_far (f := g) (by omega), Int.zero_mul, Int.add_zero, Int.sub_self]
        exact Int.dvd_zero p
    · rw [if_neg e2, if_neg (by omega), Int.add_zero, Int.sub_self]
      exact Int.dvd_zero p
def divN (f g : List Int) : Nat := if g.length ≤ f.length then f.length - g.length + 1 else 0
def divP (p : Int) (f g : List Int) : List Int × List Int := divS p g (invM p (co g (g.length - 1))) (divN f g) (List.replicate (divN f g) 0) f
def quoL (p : Int) (f g : List Int) : List Int := trimL (divP p f g).1
def remL (p : Int) (f g : List Int) : List Int := trimL (divP p f g).2
theorem inv_near {p : Int} {g : List Int} (hg : polB p g = true) (h1 : 1 ≤ g.length) : p ∣ co g (g.length - 1) * invM p (co g (g.length - 1)) - 1 := by
  obtain ⟨hp, _, _⟩ := serB_true (polB_ser hg)
  have hb := co_bd (polB_ser hg) (g.length - 1)
  have hne : co g (g.length - 1) ≠ 0 := by
    rcases polB_last hg with h | h
    · omega
    · exact h
  have h2 := near_mod p (co g (g.length - 1) * invM p (co g (g.length - 1)))
  rw [inv_ok hp hb.1 hb.2 hne] at h2
  exact near_symm h2
/-- the quotient and the rest: both together are the first one; the rest is shorter -/
theorem div_law {p : Int} {f g : List Int} (hf : serB p f = true) (hg : polB p g = true) (h1 : 1 ≤ g.length) :
    polB p (quoL p f g) = true ∧ polB p (remL p f g) = true ∧ (quoL p f g).length ≤ divN f g ∧ (remL p f g).length < g.length ∧ ∀ i, p ∣ co f i - (cv (co g) (co (quoL p f g)) i + co (remL p f g) i) := by
  obtain ⟨hp, hfl, hfv⟩ := serB_true hf
  have hgl := (serB_true (polB_ser hg)).2.1
  have hdn : divN f g + g.length ≤ f.length + 1 ∨ divN f g = 0 := by
    unfold divN; split
    · left; omega
    · right; rfl
  have hz0 : ∀ i, co (List.replicate (divN f g) (0 : Int)) i = 0 := fun i => by
    unfold co; rw [List.getD_eq_getElem?_getD, List.getElem?_replicate]; split <;> rfl
  by_cases hd : divN f g = 0
  · have hlt : f.length < g.length := by
      unfold divN at hd
      split at hd
      · omega
      · omega
    have e : divP p f g = ([], f) := by unfold divP; rw [hd]; rfl
    have eq : quoL p f g = [] := by unfold quoL; rw [e]; rfl
    have er : ∀ k, co (remL p f g) k = co f k := fun k => by unfold remL; rw [e]; exact co_trim f k
    have hrl : (remL p f g).length ≤ f.length := by unfold remL; rw [e, trimL_len]; exact trimN_le _ _
    refine ⟨by rw [eq]; exact polB_of (serB_mk hp (by simp) (by simp)) (.inl rfl), polB_of (serB_mk hp (by omega) fun x hx => ?_) (by unfold remL; exact trim_last _), by rw [eq]; simp, by omega, fun i => ?_⟩
    · unfold remL at hx; rw [e] at hx; exact hfv x (trim_mem hx)
    · rw [eq, er, cv_comm]
      have : cv (co []) (co g) i = 0 := sigN_zero fun j _ => by rw [co_far (f := []) (by simp)]; simp
      rw [this, Int.zero_add, Int.sub_self]
      exact Int.dvd_zero p
  · obtain ⟨i1, i2, i3, i4, i5, i6⟩ := divS_inv hp h1 (inv_near hg h1) (divN f g) (List.replicate (divN f g) 0) f (by omega) (by simp) (fun i _ => hz0 i)
      (fun i hi => co_far (by unfold divN at hi hd; split at hi <;> omega)) (fun x hx => by rw [List.eq_of_mem_replicate hx]; exact numB_zero hp) hfv
    have ed : divS p g (invM p (co g (g.length - 1))) (divN f g) (List.replicate (divN f g) 0) f = divP p f g := rfl
    rw [ed] at i1 i2 i3 i4 i5 i6
    have hql : (quoL p f g).length ≤ divN f g := by
      unfold quoL; rw [trimL_len]; have := trimN_le (divP p f g).1 (divP p f g).1.length; rw [i1] at this ⊢; simpa using this
    have hrl : (remL p f g).length ≤ f.length := by
      unfold remL; rw [trimL_len]; have := trimN_le (divP p f g).2 (divP p f g).2.length; omega
    refine ⟨polB_of (serB_mk hp (by unfold divN at hql hd; split at hql <;> omega) fun x hx => i3 x (trim_mem (by unfold quoL at hx; exact hx))) (by unfold quoL; exact trim_last _),
      polB_of (serB_mk hp (by omega) fun x hx => i4 x (trim_mem (by unfold remL at hx; exact hx))) (by unfold remL; exact trim_last _), hql, ?_, fun i => ?_⟩
    · refine Classical.byContradiction fun hno => ?_
      rcases trim_last (divP p f g).2 with h | h
      · have : (remL p f g).length = 0 := h
        omega
      · rw [co_trim] at h
        refine h (i5 _ ?_)
        have : (remL p f g).length = (trimL (divP p f g).2).length := rfl
        omega
    · have h := i6 i
      have e0 : cv (co g) (co (List.replicate (divN f g) 0)) i = 0 := sigN_zero fun j _ => by rw [hz0]; simp
      rw [e0, Int.add_zero] at h
      have er : co (remL p f g) i = co (divP p f g).2 i := co_trim _ _
      have eq : cv (co g) (co (quoL p f g)) i = cv (co g) (co (divP p f g).1) i := sigN_congr fun j _ => by rw [show co (quoL p f g) (i - j) = co (divP p f g).1 (i - j) from co_trim _ _]
      rw [er, eq]
      rwa [Int.add_comm (cv _ _ _)]
/-- what is a multiple and shorter is 0 -/
theorem mult_zero {p : Int} {g : List Int} (hg : polB p g = true) (h1 : 1 ≤ g.length) {D S : Nat → Int} {N : Nat} (hD : ∀ k, N ≤ k → D k = 0) (hS : ∀ k, g.length ≤ k + 1 → p ∣ S k) (h : ∀ k, p ∣ S k - cv (co g) D k) : ∀ k, p ∣ D k := by
  have hb := inv_near hg h1
  have A : ∀ d, d ≤ N → ∀ k, N - d ≤ k → p ∣ D k := by
    intro d
    induction d with
    | zero => intro _ k hk; rw [hD k (by omega)]; exact Int.dvd_zero p
    | succ d ih =>
      intro hd k hk
      have IH := ih (by omega)
      by_cases e : N - d ≤ k
      · exact IH k e
      · have h2 := h (g.length - 1 + k)
        have h3 := hS (g.length - 1 + k) (by omega)
        have h4 : p ∣ cv (co g) D (g.length - 1 + k) := by
          have := Int.dvd_sub h3 h2
          rwa [show S (g.length - 1 + k) - (S (g.length - 1 + k) - cv (co g) D (g.length - 1 + k)) = cv (co g) D (g.length - 1 + k) by omega] at this
        have h5 : p ∣ cv (co g) D (g.length - 1 + k) - co g (g.length - 1) * D k := by
          have e1 : co g (g.length - 1) * D k = cv (co g) (fun j => if j ≤ k then D j else 0) (g.length - 1 + k) := by
            rw [cv_top (fun j hj => co_far (by omega)) (fun j hj => if_neg (by omega)), if_pos (Nat.le_refl _)]
          rw [e1]
          refine cv_near _ (fun j _ => by rw [Int.sub_self]; exact Int.dvd_zero p) (fun j _ => ?_)
          split
          · rw [Int.sub_self]; exact Int.dvd_zero p
          · rw [Int.sub_zero]; exact IH j (by omega)
        have h6 := (near_move h5).1 h4
        generalize co g (g.length - 1) = x at hb h6
        generalize invM p x = y at hb
        have h7 := Int.dvd_sub (dvd_mulR h6 y) (dvd_mulR hb (D k))
        rwa [show x * D k * y - (x * y - 1) * D k = D k by grind] at h7
  exact fun k => A N (Nat.le_refl _) k (by omega)
/-- the same up to multiples of the divisor -/
def CG (p : Int) (g F G : Nat → Int) : Prop := ∃ (H : Nat → Int) (N : Nat), (∀ k, N ≤ k → H k = 0) ∧ ∀ k, p ∣ F k - G k - cv g H k
theorem CG.refl (p : Int) (g F : Nat → Int) : CG p g F F := ⟨fun _ => 0, 0, fun _ _ => rfl, fun k => by
  rw [show cv g (fun _ => 0) k = 0 from sigN_zero fun j _ => by simp]; simp⟩
theorem CG.symm {p : Int} {g F G : Nat → Int} (h : CG p g F G) : CG p g G F := by
  obtain ⟨H, N, h1, h2⟩ := h
  refine ⟨fun k => -1 * H k, N, fun k hk => by show -1 * H k = 0; rw [h1 k hk]; rfl, fun k => ?_⟩
  rw [cv_comm, cv_mull, cv_comm]
  have := Int.dvd_neg.2 (h2 k)
  rwa [show -(F k - G k - cv g H k) = G k - F k - -1 * cv g H k by omega] at this
theorem CG.trans {p : Int} {g F G K : Nat → Int} (h : CG p g F G) (h' : CG p g G K) : CG p g F K := by
  obtain ⟨H, N, h1, h2⟩ := h
  obtain ⟨H', N', h1', h2'⟩ := h'
  refine ⟨fun k => H k + H' k, N + N', fun k hk => by show H k + H' k = 0; rw [h1 k (by omega), h1' k (by omega)]; rfl, fun k => ?_⟩
  rw [cv_comm, cv_addl, cv_comm H, cv_comm H']
  have := Int.dvd_add (h2 k) (h2' k)
  rwa [show F k - G k - cv g H k + (G k - K k - cv g H' k) = F k - K k - (cv g H k + cv g H' k) by omega] at this
theorem CG.near {p : Int} {g F G : Nat → Int} (h : ∀ k, p ∣ F k - G k) : CG p g F G := ⟨fun _ => 0, 0, fun _ _ => rfl, fun k => by
  rw [show cv g (fun _ => 0) k = 0 from sigN_zero fun j _ => by simp, Int.sub_zero]; exact h k⟩
theorem CG.mul {p : Int} {g F G K : Nat → Int} {M : Nat} (h : CG p g F G) (hK : ∀ k, M ≤ k → K k = 0) : CG p g (cv F K) (cv G K) := by
  obtain ⟨H, N, h1, h2⟩ := h
  refine ⟨cv H K, N + M, fun k hk => cv_far h1 hK (by omega), fun k => ?_⟩
  rw [← cv_assoc]
  have : p ∣ cv F K k - cv (fun j => G j + cv g H j) K k := cv_near k (fun j _ => by
    have := h2 j
    rwa [show F j - (G j + cv g H j) = F j - G j - cv g H j by omega]) (fun j _ => by rw [Int.sub_self]; exact Int.dvd_zero p)
  rw [cv_addl] at this
  rwa [show cv F K k - cv G K k - cv (cv g H) K k = cv F K k - (cv G K k + cv (cv g H) K k) by omega]
theorem CG.mul2 {p : Int} {g F G F' G' : Nat → Int} {M M' : Nat} (h : CG p g F G) (h' : CG p g F' G') (hF : ∀ k, M ≤ k → F' k = 0) (hG : ∀ k, M' ≤ k → G k = 0) : CG p g (cv F F') (cv G G') := by
  have h1 := h.mul hF
  have h2 := h'.mul hG
  rw [show cv F' G = cv G F' from funext fun k => cv_comm _ _ _, show cv G' G = cv G G' from funext fun k => cv_comm _ _ _] at h2
  exact h1.trans h2
theorem CG.rem {p : Int} {f g : List Int} (hf : serB p f = true) (hg : polB p g = true) (h1 : 1 ≤ g.length) : CG p (co g) (co f) (co (remL p f g)) := by
  obtain ⟨_, _, _, _, h⟩ := div_law hf hg h1
  refine ⟨co (quoL p f g), (quoL p f g).length, fun k hk => co_far hk, fun k => ?_⟩
  have := h k
  rwa [show co f k - (cv (co g) (co (quoL p f g)) k + co (remL p f g) k) = co f k - co (remL p f g) k - cv (co g) (co (quoL p f g)) k by omega] at this
/-- short ones that are the same up to multiples are the same -/
theorem CG.same {p : Int} {g r s : List Int} (hg : polB p g = true) (h1 : 1 ≤ g.length) (hr : polB p r = true) (hs : polB p s = true) (hrl : r.length < g.length) (hsl : s.length < g.length) (h : CG p (co g) (co r) (co s)) : r = s := by
  obtain ⟨H, N, h2, h3⟩ := h
  have hz := mult_zero hg h1 (D := H) (S := fun k => co r k - co s k) h2 (fun k hk => by
    show p ∣ co r k - co s k
    rw [co_far (f := r) (by omega), co_far (f := s) (by omega)]; exact Int.dvd_zero p) h3
  refine pol_ext' hr hs fun k => co_near (polB_ser hr) (polB_ser hs) ?_
  refine (near_move (h3 k)).2 ?_
  exact sigN_dvd fun j _ => dvd_mulL (hz _) _
end Go.Proofs.YtecmclaockmgeaaDoor

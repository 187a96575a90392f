/-
  Plain mathematics: the program's way to the next combination is the document's.
-/
import Derived.Test.YtecmclaockmgeaaDoorPolC
import Derived.Test.YtecmclaockmgeaaDoorNeg
namespace Go.Proofs.YtecmclaockmgeaaDoor
theorem coW_bd {p : Int} {f : List Int} (hp : primeB p = true) (h : polW p f) (k : Nat) : 0 ≤ co f k ∧ co f k < p := by
  have hpb := prime_ge hp
  unfold co
  rw [List.getD_eq_getElem?_getD]
  cases hk : f[k]? with
  | none => exact ⟨by simp, by simp; omega⟩
  | some x =>
    have hx := numB_true (h.1 x (List.mem_of_getElem? hk))
    exact ⟨hx.2.1, hx.2.2⟩
theorem polW_ext {p : Int} {f g : List Int} (hp : primeB p = true) (hf : polW p f) (hg : polW p g) (h : ∀ k, p ∣ co f k - co g k) : f = g :=
  pol_ext hf.2 hg.2 (fun k => by
    have b1 := coW_bd hp hf k
    have b2 := coW_bd hp hg k
    exact near_eq (h k) b1.1 b1.2 b2.1 b2.2)
theorem co_neg {p : Int} (f : List Int) (k : Nat) : p ∣ co (negL p f) k - -1 * co f k := by
  unfold co negL
  rw [List.getD_eq_getElem?_getD, List.getD_eq_getElem?_getD, List.getElem?_map]
  cases f[k]? with
  | none => exact ⟨0, by simp⟩
  | some x =>
    show p ∣ (p - x) % p - -1 * x
    have h1 := near_mod p (p - x)
    have h2 := Int.dvd_add h1 (Int.dvd_refl p)
    rwa [show (p - x) % p - (p - x) + p = (p - x) % p - -1 * x by omega] at h2
theorem cv_neg {p : Int} (u q : List Int) (k : Nat) : p ∣ cv (co u) (co (negL p q)) k - -1 * cv (co q) (co u) k := by
  have h1 : p ∣ cv (co u) (co (negL p q)) k - cv (co u) (fun j => -1 * co q j) k := cv_near k (fun j _ => by rw [Int.sub_self]; exact Int.dvd_zero p) (fun j _ => co_neg q j)
  rwa [cv_mulr, cv_comm (co u) (co q)] at h1
theorem trimW {p : Int} (hp : primeB p = true) (f g : List Int) : polW p (trimL (tmsL p f g)) :=
  ⟨fun x hx => by obtain ⟨k, _, rfl⟩ := List.mem_map.1 (trim_mem hx); exact numB_emod hp _, trim_last _⟩
/-- the next row of factors -/
theorem next_eq {p : Int} (hp : primeB p = true) (s q u : List Int) : addL p s (trimL (tmsL p u (negL p q))) 1 = addL p s (tmsL p q u) (p - 1) := by
  refine polW_ext hp (addL_W hp _ _ _) (addL_W hp _ _ _) (fun k => ?_)
  have h1 := co_next (p := p) s q u k
  rw [co_addL p s (trimL _), co_trim, co_tmsL p u, Int.one_mul]
  have h2 := near_mod p (co s k + cv (co u) (co (negL p q)) k % p)
  have h3 := near_mod p (cv (co u) (co (negL p q)) k)
  have h4 := cv_neg (p := p) u q k
  generalize co (addL p s (tmsL p q u) (p - 1)) k = z1 at h1 ⊢
  generalize cv (co u) (co (negL p q)) k = z2 at h2 h3 h4 ⊢
  generalize cv (co q) (co u) k = z3 at h1 h4
  generalize z2 % p = z4 at h2 h3 ⊢
  generalize (co s k + z4) % p = z5 at h2 ⊢
  have h5 := Int.dvd_sub (Int.dvd_add (Int.dvd_add h2 h3) h4) h1
  rwa [show z5 - (co s k + z4) + (z4 - z2) + (z2 - -1 * z3) - (z1 - (co s k - z3)) = z5 - z1 by omega] at h5
/-- the next rest -/
theorem rest_eq {p : Int} {a b : List Int} (ha : polB p a = true) (hb : polB p b = true) (h1 : 1 ≤ b.length) : addL p a (trimL (tmsL p b (negL p (quoL p a b)))) 1 = remL p a b := by
  have hp := (serB_true (polB_ser ha)).1
  obtain ⟨_, r1, _, _, hd⟩ := div_law (polB_ser ha) hb h1
  rw [next_eq hp]
  refine polW_ext hp (addL_W hp _ _ _) (polB_W r1) (fun k => ?_)
  have h2 := co_next (p := p) a (quoL p a b) b k
  have h3 := hd k
  rw [cv_comm (co b)] at h3
  generalize co (addL p a (tmsL p (quoL p a b) b) (p - 1)) k = z1 at h2 ⊢
  generalize cv (co (quoL p a b)) (co b) k = z2 at h2 h3
  have h4 := Int.dvd_add h2 h3
  rwa [show z1 - (co a k - z2) + (co a k - (z2 + co (remL p a b) k)) = z1 - co (remL p a b) k by omega] at h4
/-- the product with one number -/
theorem scale_eq {p : Int} (hp : primeB p = true) (c : Int) (f : List Int) : trimL (tmsL p f [c]) = scaleL p c f := by
  refine polW_ext hp (trimW hp _ _) (addL_W hp _ _ _) (fun k => ?_)
  rw [co_trim, co_tmsL, co_scale]
  have e : cv (co f) (co [c]) k = c * co f k := by
    have hm : co [c] = fun j => c * mono 0 j := by
      funext j
      match j with
      | 0 => unfold co mono; simp
      | j + 1 => unfold co mono; simp
    rw [hm, cv_mulr]
    have h0 := cv_at (co f) 0 k 1
    have h1 : cv (co f) (mono 0) k = co f k := by
      have : cv (co f) (mono 0) k = if 0 ≤ k then co f (k - 0) * 1 else 0 := cv_at (co f) 0 k 1
      rw [this, if_pos (Nat.zero_le _)]; simp
    rw [h1]
  rw [e, Int.sub_self]
  exact Int.dvd_zero p
end Go.Proofs.YtecmclaockmgeaaDoor

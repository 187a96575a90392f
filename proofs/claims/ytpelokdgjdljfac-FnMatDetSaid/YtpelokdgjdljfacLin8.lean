/-
  Plain mathematics: what the elimination computes is the determinant; products, rows as columns, rank.
-/
import Derived.Test.YtpelokdgjdljfacLin7
import Derived.Test.YtpelokdgjdljfacDet
namespace Go.Proofs.Ytpelokdgjdljfac
theorem down_at {p : Int} {l : Nat} {N : List (List Int)} (h : VM p l N) {c : Nat} {back : Int} (hc : c < N.length) {i : Nat} (hi : i < N.length) (j : Nat) : at2 (downM p N c back) i j = if i ≤ c then at2 N i j else (at2 N i j - (at2 N i c * back % p) * at2 N c j) % p := by
  show ((downM p N c back).getD i []).getD j 0 = _
  rw [getD_row (downM_get p N c back i hi)]
  unfold downRow
  by_cases e : i ≤ c
  · rw [if_pos e, if_pos e]; rfl
  · rw [if_neg e, if_neg e, subRow_at _ _ _ _ (by rw [(h.getD hi).1, (h.getD hc).1])]; rfl
theorem down_alt {p : Int} {n : Nat} {g : (Nat → Nat → Int) → Int} (hg : Alt p n g) {N : List (List Int)} (h : VM p n N) (hn : N.length = n) {c : Nat} (hc : c < n) (back : Int) : p ∣ g (at2 (downM p N c back)) - g (at2 N) := by
  have A : ∀ m, m ≤ n → p ∣ g (fun i j => if c < i ∧ i < m then -(at2 N i c * back % p) * at2 N c j + at2 N i j else at2 N i j) - g (at2 N) := by
    intro m
    induction m with
    | zero =>
      intro _
      have e : (fun i j => if c < i ∧ i < 0 then -(at2 N i c * back % p) * at2 N c j + at2 N i j else at2 N i j) = at2 N := by funext i j; rw [if_neg (by omega)]
      rw [e, Int.sub_self]; exact Int.dvd_zero p
    | succ m ih =>
      intro hm
      have h1 := ih (by omega)
      by_cases e : c < m
      · have h2 := hg.rowop (i := m) (j := c) (by omega) (by omega) hc (-(at2 N m c * back % p)) (fun i j => if c < i ∧ i < m then -(at2 N i c * back % p) * at2 N c j + at2 N i j else at2 N i j)
        have e2 : upd (fun i j => if c < i ∧ i < m then -(at2 N i c * back % p) * at2 N c j + at2 N i j else at2 N i j) m (fun b => -(at2 N m c * back % p) * (fun i j => if c < i ∧ i < m then -(at2 N i c * back % p) * at2 N c j + at2 N i j else at2 N i j) c b + (fun i j => if c < i ∧ i < m then -(at2 N i c * back % p) * at2 N c j + at2 N i j else at2 N i j) m b) = fun i j => if c < i ∧ i < m + 1 then -(at2 N i c * back % p) * at2 N c j + at2 N i j else at2 N i j := by
          funext i j
          unfold upd
          by_cases e3 : i = m
          · subst e3
            rw [if_pos rfl]
            show -(at2 N i c * back % p) * (if c < c ∧ c < i then _ else _) + (if c < i ∧ i < i then _ else _) = _
            rw [if_neg (by omega), if_neg (by omega), if_pos (by omega)]
          · rw [if_neg e3]
            show (if c < i ∧ i < m then _ else _) = _
            by_cases e4 : c < i ∧ i < m
            · rw [if_pos e4, if_pos (by omega)]
            · rw [if_neg e4, if_neg (by omega)]
        rw [e2] at h2
        exact near_trans h2 h1
      · have e2 : (fun i j => if c < i ∧ i < m + 1 then -(at2 N i c * back % p) * at2 N c j + at2 N i j else at2 N i j) = fun i j => if c < i ∧ i < m then -(at2 N i c * back % p) * at2 N c j + at2 N i j else at2 N i j := by
          funext i j
          rw [if_neg (by omega), if_neg (by omega)]
        rw [e2]; exact h1
  refine near_trans (hg.near _ _ fun i hi j hj => ?_) (A n (Nat.le_refl _))
  rw [down_at h (by omega) (by omega)]
  by_cases e : i ≤ c
  · rw [if_pos e, if_neg (by omega), Int.sub_self]; exact Int.dvd_zero p
  · rw [if_neg e, if_pos (by omega)]
    obtain ⟨t, ht⟩ : ∃ t, at2 N i c * back % p = t := ⟨_, rfl⟩
    rw [ht, show -t * at2 N c j + at2 N i j = at2 N i j - t * at2 N c j by grind]
    exact near_mod _ _
theorem swap_F {N : List (List Int)} {r c : Nat} (hr : r < N.length) (hc : c < N.length) : at2 (swapM N r c) = swF (at2 N) r c := by
  funext a b
  rw [at2_swap hr hc]
  unfold swF upd
  by_cases h1 : a = c
  · rw [if_pos h1]
  · rw [if_neg h1]
/-- the product of the numbers on the diagonal -/
def diag (f : Nat → Nat → Int) : Nat → Int
  | 0 => 1
  | c + 1 => diag f c * f c c
theorem diag_congr {f g : Nat → Nat → Int} : ∀ c, (∀ q, q < c → f q q = g q q) → diag f c = diag g c
  | 0, _ => rfl
  | c + 1, h => by show diag f c * f c c = diag g c * g c c; rw [diag_congr c (fun q hq => h q (by omega)), h c (by omega)]
/-- below the diagonal there is 0, on it there is not, in the first columns -/
structure Tri (n c : Nat) (f : Nat → Nat → Int) : Prop where
  low : ∀ j, j < c → ∀ i, j < i → i < n → f i j = 0
  on : ∀ j, j < c → f j j ≠ 0
theorem detE_tri {p : Int} (hp : primeB p = true) {n : Nat} {M : List (List Int)} (h : VM p n M) (hn : M.length = n) {g : (Nat → Nat → Int) → Int} (hg : Alt p n g) : ∀ c, c ≤ n → ∀ N d, detE p M c = some (N, d) →
    N.length = n ∧ VM p n N ∧ Tri n c (at2 N) ∧ ∃ s : Int, (s = 1 ∨ s = -1) ∧ p ∣ g (at2 M) - s * g (at2 N) ∧ p ∣ d - s * diag (at2 N) c
  | 0, _, N, d, hd => by
    obtain ⟨rfl, rfl⟩ : M = N ∧ (1 : Int) = d := by simpa [detE] using hd
    exact ⟨hn, h, ⟨fun j hj => absurd hj (by omega), fun j hj => absurd hj (by omega)⟩, 1, .inl rfl, by rw [Int.one_mul, Int.sub_self]; exact Int.dvd_zero p, by simp [diag]⟩
  | c + 1, hc, N, d, hd => by
    cases he : detE p M c with
    | none => rw [detE_none he 1] at hd; simp at hd
    | some x =>
      obtain ⟨N0, d0⟩ := x
      obtain ⟨h1, h2, h3, s, hs, h4, h5⟩ := detE_tri hp h hn hg c (by omega) N0 d0 he
      rw [detE_step he] at hd
      cases hf : firstW N0 c (N0.length - c) c with
      | none => rw [detStep_none hf] at hd; simp at hd
      | some r =>
        rw [detStep_some hf] at hd
        obtain ⟨g1, g2, g3, g4⟩ := firstW_some hf
        simp only [Option.some.injEq, Prod.mk.injEq] at hd
        obtain ⟨rfl, rfl⟩ := hd
        have hVS := h2.swap (i := r) (j := c) (by omega) (by omega)
        have hSl := swapM_len N0 r c
        have hsa := fun a b => at2_swap (M := N0) (i := r) (j := c) (by omega) (by omega) a b
        obtain ⟨S, hS⟩ : ∃ S, swapM N0 r c = S := ⟨_, rfl⟩
        rw [hS] at hVS hSl hsa ⊢
        have hpiv : at2 S c c = at2 N0 r c := by rw [hsa, if_pos rfl]
        have hpv : numB p (at2 S c c) = true := hVS.at2 (by omega) (by omega)
        have hpv := numB_true hpv
        have hne : at2 S c c ≠ 0 := by rw [hpiv]; exact g3
        have hinv := inv_ok hp hpv.2.1 hpv.2.2 hne
        obtain ⟨bk, hbk⟩ : ∃ bk, invM p (at2 S c c) = bk := ⟨_, rfl⟩
        rw [hbk] at hinv ⊢
        have hda := fun {i : Nat} (hi : i < S.length) (j : Nat) => down_at hVS (c := c) (back := bk) (by omega) hi j
        have hSr : ∀ i, i < c → ∀ b, at2 S i b = at2 N0 i b := fun i hi b => by rw [hsa, if_neg (by omega), if_neg (by omega)]
        have hSlow : ∀ i, c ≤ i → i < n → ∀ j, j < c → at2 S i j = 0 := fun i hi1 hi j hj => by
          rw [hsa]
          split
          · exact h3.low j hj r (by omega) (by omega)
          · split
            · exact h3.low j hj c (by omega) (by omega)
            · exact h3.low j hj i (by omega) hi
        have hdS : p ∣ g (at2 (downM p S c bk)) - g (at2 S) := down_alt hg hVS (by omega) (by omega) bk
        refine ⟨by rw [downM_len, hSl, h1], hVS.down hp (by omega), ⟨fun j hj i hji hi => ?_, fun j hj => ?_⟩, ?_⟩
        · rw [hda (by omega)]
          by_cases e : i ≤ c
          · rw [if_pos e]
            by_cases e2 : i = c
            · exact hSlow i (by omega) hi j (by omega)
            · rw [hSr i (by omega)]; exact h3.low j (by omega) i hji hi
          · rw [if_neg e]
            by_cases e2 : j = c
            · subst e2
              refine Int.emod_eq_zero_of_dvd ?_
              obtain ⟨x, hx⟩ : ∃ x, at2 S i j = x := ⟨_, rfl⟩
              obtain ⟨y, hy⟩ : ∃ y, at2 S j j = y := ⟨_, rfl⟩
              rw [hx, hy]
              rw [hy] at hinv
              have k1 := near_mod p (x * bk)
              have k2 := near_mod p (y * bk)
              rw [hinv] at k2
              have k3 := Int.dvd_sub (dvd_mulL k2 x) (dvd_mulR k1 y)
              rwa [show x * (1 - y * bk) - (x * bk % p - x * bk) * y = x - x * bk % p * y by grind] at k3
            · rw [hSlow i (by omega) hi j (by omega), hSlow c (by omega) (by omega) j (by omega)]; simp
        · rw [hda (by omega), if_pos (by omega)]
          by_cases e2 : j = c
          · rw [e2]; exact hne
          · rw [hSr j (by omega)]; exact h3.on j (by omega)
        · have hdg : diag (at2 (downM p S c bk)) (c + 1) = diag (at2 N0) c * at2 S c c := by
            show diag _ c * at2 (downM p S c bk) c c = _
            rw [hda (by omega), if_pos (Nat.le_refl _), diag_congr c (g := at2 N0) (fun q hq => by rw [hda (by omega), if_pos (by omega), hSr q hq])]
          rw [hdg]
          generalize diag (at2 N0) c = D at h5 ⊢
          generalize at2 S c c = pv
          generalize g (at2 M) = G at h4 ⊢
          by_cases hrc : r = c
          · refine ⟨s, hs, ?_, ?_⟩
            · have e : S = N0 := by rw [← hS, hrc]; exact swapM_self _ _ (by omega)
              rw [e] at hdS ⊢
              generalize g (at2 (downM p N0 c bk)) = y at hdS ⊢
              generalize g (at2 N0) = x at hdS h4 ⊢
              have := Int.dvd_sub h4 (dvd_mulL hdS s)
              rwa [show G - s * x - s * (y - x) = G - s * y by grind] at this
            · rw [if_pos hrc]
              have k1 := near_mod p (d0 * pv)
              have k2 := Int.dvd_add k1 (dvd_mulR h5 pv)
              rwa [show d0 * pv % p - d0 * pv + (d0 - s * D) * pv = d0 * pv % p - s * (D * pv) by grind] at k2
          · refine ⟨-s, by omega, ?_, ?_⟩
            · have k1 := hg.swap (i := r) (j := c) hrc (by omega) (by omega) (at2 N0)
              rw [← swap_F (by omega) (by omega), hS] at k1
              generalize g (at2 (downM p S c bk)) = y at hdS ⊢
              generalize g (at2 S) = x at hdS k1 ⊢
              generalize g (at2 N0) = z at h4 k1 ⊢
              have := Int.dvd_add (Int.dvd_add h4 (dvd_mulL hdS s)) (dvd_mulL k1 s)
              rwa [show G - s * z + s * (y - x) + s * (z + x) = G - -s * y by grind] at this
            · rw [if_neg hrc]
              have k1 := near_mod p (-d0 % p * pv)
              have k0 := near_mod p (-d0)
              have k2 := Int.dvd_sub (Int.dvd_add k1 (dvd_mulR k0 pv)) (dvd_mulR h5 pv)
              generalize -d0 % p = e0 at k2 ⊢
              rwa [show e0 * pv % p - e0 * pv + (e0 - -d0) * pv - (d0 - s * D) * pv = e0 * pv % p - -s * (D * pv) by grind] at k2
/-- a row that is the diagonal's number alone, when the rows behind are -/
theorem Alt.row {p : Int} {n : Nat} {g : (Nat → Nat → Int) → Int} (hg : Alt p n g) {q : Nat} (hq : q < n) (f : Nat → Nat → Int) (hlow : ∀ j, j < q → f q j = 0) (hun : ∀ i, q < i → i < n → ∀ j, f i j = idF i j) : p ∣ g f - f q q * g (upd f q (idF q)) := by
  have A : ∀ m, q + 1 + m ≤ n → p ∣ g (upd f q (fun j => if q < j ∧ j < q + 1 + m then 0 else f q j)) - g f := by
    intro m
    induction m with
    | zero =>
      intro _
      have e : (fun j => if q < j ∧ j < q + 1 + 0 then 0 else f q j) = f q := by funext j; rw [if_neg (by omega)]
      rw [e, upd_id, Int.sub_self]; exact Int.dvd_zero p
    | succ m ih =>
      intro hm
      have h1 := ih (by omega)
      have h2 := hg.rowop (i := q) (j := q + 1 + m) (by omega) hq (by omega) (-(f q (q + 1 + m))) (upd f q (fun j => if q < j ∧ j < q + 1 + m then 0 else f q j))
      rw [upd_upd, upd_self, upd_ne _ _ (show q + 1 + m ≠ q by omega)] at h2
      have e : (fun b => -(f q (q + 1 + m)) * f (q + 1 + m) b + (fun j => if q < j ∧ j < q + 1 + m then 0 else f q j) b) = fun j => if q < j ∧ j < q + 1 + (m + 1) then 0 else f q j := by
        funext b
        rw [hun (q + 1 + m) (by omega) (by omega)]
        unfold idF
        show _ + (if q < b ∧ b < q + 1 + m then _ else _) = _
        by_cases e : q + 1 + m = b
        · subst e; rw [if_pos rfl, if_neg (by omega), if_pos (by omega)]; omega
        · rw [if_neg e]
          by_cases e2 : q < b ∧ b < q + 1 + m
          · rw [if_pos e2, if_pos (by omega)]; omega
          · rw [if_neg e2, if_neg (by omega)]; omega
      rw [e] at h2
      exact near_trans h2 h1
  have h1 := A (n - (q + 1)) (by omega)
  have h2 := hg.near (upd f q (fun j => if q < j ∧ j < q + 1 + (n - (q + 1)) then 0 else f q j)) (upd f q (fun b => f q q * idF q b + (fun _ => (0 : Int)) b)) (fun i hi j hj => by
    by_cases e : i = q
    · subst e
      rw [upd_self, upd_self]
      show p ∣ (if i < j ∧ j < i + 1 + (n - (i + 1)) then 0 else f i j) - (f i i * idF i j + 0)
      unfold idF
      by_cases e2 : i = j
      · subst e2; rw [if_neg (by omega), if_pos rfl, Int.mul_one, Int.add_zero, Int.sub_self]; exact Int.dvd_zero p
      · rw [if_neg e2]
        by_cases e3 : i < j ∧ j < i + 1 + (n - (i + 1))
        · rw [if_pos e3]; simp
        · rw [if_neg e3, hlow j (by omega)]; simp
    · rw [upd_ne _ _ e, upd_ne _ _ e, Int.sub_self]; exact Int.dvd_zero p)
  have h3 := hg.lin f q (f q q) (idF q) (fun _ => 0) hq
  have h4 := hg.zero (i := q) hq (upd f q (fun _ => 0)) (fun b _ => by rw [upd_self]; exact Int.dvd_zero p)
  have h5 := near_trans (near_trans (near_symm h1) h2) h3
  have h6 := Int.dvd_add h5 h4
  generalize g (upd f q (idF q)) = a at h6 ⊢
  generalize g (upd f q (fun _ => 0)) = b at h6
  rwa [show g f - (f q q * a + b) + b = g f - f q q * a by omega] at h6
theorem Alt.tri {p : Int} {n : Nat} {g : (Nat → Nat → Int) → Int} (hg : Alt p n g) : ∀ (m : Nat), m ≤ n → ∀ f, (∀ i, m ≤ i → i < n → ∀ j, f i j = idF i j) → (∀ j, j < n → ∀ i, j < i → i < n → f i j = 0) → p ∣ g f - diag f m * g idF
  | 0, _, f, hun, _ => by
    show p ∣ g f - 1 * g idF
    rw [Int.one_mul]
    exact hg.near _ _ fun i hi j hj => by rw [hun i (by omega) hi, Int.sub_self]; exact Int.dvd_zero p
  | m + 1, hm, f, hun, hlow => by
    have h1 := hg.row (q := m) (by omega) f (fun j hj => hlow j (by omega) m hj (by omega)) (fun i hi1 hi j => hun i (by omega) hi j)
    have h2 := Alt.tri hg m (by omega) (upd f m (idF m)) (fun i hi1 hi j => by
      by_cases e : i = m
      · subst e; rw [upd_self]
      · rw [upd_ne _ _ e]; exact hun i (by omega) hi j) (fun j hj i hji hi => by
      by_cases e : i = m
      · subst e; rw [upd_self]; unfold idF; rw [if_neg (by omega)]
      · rw [upd_ne _ _ e]; exact hlow j hj i hji hi)
    rw [diag_congr m (g := f) (fun q hq => by rw [upd_ne _ _ (by omega)])] at h2
    have h3 := Int.dvd_add h1 (dvd_mulL h2 (f m m))
    generalize g (upd f m (idF m)) = a at h3
    show p ∣ g f - diag f m * f m m * g idF
    generalize diag f m = D at h3 ⊢
    generalize f m m = x at h3 ⊢
    generalize g idF = y at h3 ⊢
    rwa [show g f - x * a + x * (a - D * y) = g f - D * x * y by grind] at h3
/-- what the elimination computes, for each such function -/
theorem detV_alt {p : Int} (hp : primeB p = true) {n : Nat} {M : List (List Int)} (h : VM p n M) (hn : M.length = n) {g : (Nat → Nat → Int) → Int} (hg : Alt p n g) : p ∣ g (at2 M) - detV p M * g idF := by
  have hpb := prime_ge hp
  have step : ∀ c, c ≤ n → detE p M c = none → p ∣ g (at2 M) ∧ detV p M = 0 := by
    intro c
    induction c with
    | zero => intro _ he; simp [detE] at he
    | succ c ih =>
      intro hc he
      cases he0 : detE p M c with
      | none => exact ih (by omega) he0
      | some x =>
        obtain ⟨N0, d0⟩ := x
        refine ⟨?_, detV_none he (by omega)⟩
        obtain ⟨h1, h2, h3, s, hs, h4, h5⟩ := detE_tri hp h hn hg c (by omega) N0 d0 he0
        rw [detE_step he0] at he
        cases hf : firstW N0 c (N0.length - c) c with
        | some r => rw [detStep_some hf] at he; simp at he
        | none =>
          have hz := firstW_none hf
          obtain ⟨v, ⟨q, hq, hv1⟩, hv⟩ := pigeon hp (r := c) (s := c + 1) (by omega) (at2 N0)
          have hk : Ker p n n (at2 N0) (fun j => if j < c + 1 then v j else 0) := fun i hi => by
            have e : sigN n (fun j => at2 N0 i j * (if j < c + 1 then v j else 0)) = sigN (c + 1) (fun j => at2 N0 i j * v j) := by
              rw [sigN_heads (fun k => k) (m := c + 1) (fun k hk => by omega) (fun k k' h1 _ => h1) (fun j hj hne => by
                by_cases e : j < c + 1
                · exact absurd rfl (hne j e)
                · simp [if_neg e])]
              exact sigN_congr fun k hk => by rw [if_pos hk]
            rw [e]
            by_cases hi2 : i < c
            · exact hv i hi2
            · rw [sigN_zero (fun j hj => by
                by_cases e2 : j = c
                · rw [e2, hz i (by omega) (by omega)]; simp
                · rw [h3.low j (by omega) i (by omega) hi]; simp)]
              exact Int.dvd_zero p
          have h6 := hg.dependc hp (c := q) (by omega) (at2 N0) _ (by show (if q < c + 1 then v q else 0) = 1; rw [if_pos hq]; exact hv1) hk
          exact (near_move h4).2 (dvd_mulL h6 s)
  cases he : detE p M n with
  | none =>
    obtain ⟨h1, h2⟩ := step n (Nat.le_refl _) he
    rw [h2]
    simpa using h1
  | some x =>
    obtain ⟨N, d⟩ := x
    obtain ⟨h1, h2, h3, s, hs, h4, h5⟩ := detE_tri hp h hn hg n (Nat.le_refl _) N d he
    rw [detV_some (by rw [hn]; exact he)]
    have h6 := hg.tri n (Nat.le_refl _) (at2 N) (fun i hi1 hi => absurd hi (by omega)) h3.low
    have h7 := Int.dvd_sub (Int.dvd_add h4 (dvd_mulL h6 s)) (dvd_mulR h5 (g idF))
    generalize g (at2 M) = a at h7 ⊢
    generalize g (at2 N) = b at h7
    generalize g idF = y at h7 ⊢
    generalize diag (at2 N) n = D at h7
    rwa [show a - s * b + s * (b - D * y) - (d - s * D) * y = a - d * y by grind] at h7
theorem detV_dt {p : Int} (hp : primeB p = true) {n : Nat} {M : List (List Int)} (h : VM p n M) (hn : M.length = n) : p ∣ dt n (at2 M) - detV p M := by
  have := detV_alt hp h hn (alt_dt p n)
  rwa [dt_one, Int.mul_one] at this
theorem detV_num {p : Int} (hp : primeB p = true) {n : Nat} {M : List (List Int)} (h : VM p n M) (hn : M.length = n) : numB p (detV p M) = true := by
  have hpb := prime_ge hp
  cases he : detE p M n with
  | none => rw [detV_none he (by omega)]; exact numB_mk hp (by omega) (by omega)
  | some x =>
    obtain ⟨N, d⟩ := x
    rw [detV_some (by rw [hn]; exact he)]
    exact (detE_inv hp h n (by omega) N d he).2.2
/-- a product's: the product of both -/
theorem alt_times (p : Int) (n : Nat) (B : Nat → Nat → Int) : Alt p n (fun f => dt n (fun i j => sigN n (fun k => f i k * B k j))) := by
  have hg := alt_dt p n
  have e : ∀ f i (x : Nat → Int), (fun a j => sigN n (fun k => upd f i x a k * B k j)) = upd (fun a j => sigN n (fun k => f a k * B k j)) i (fun j => sigN n (fun k => x k * B k j)) := by
    intro f i x
    funext a j
    by_cases h : a = i
    · subst h; rw [upd_self, upd_self]
    · rw [upd_ne _ _ h, upd_ne _ _ h]
  refine ⟨fun f f' h => hg.near _ _ fun i hi j hj => sigN_near fun k hk => ?_, fun f i c x y hi => ?_, fun f k hk he => ?_⟩
  · rw [← Int.sub_mul]; exact dvd_mulR (h i hi k hk) _
  · show p ∣ dt n (fun a j => sigN n (fun k => upd f i _ a k * B k j)) - (c * dt n (fun a j => sigN n (fun k => upd f i x a k * B k j)) + dt n (fun a j => sigN n (fun k => upd f i y a k * B k j)))
    rw [e, e, e]
    have := hg.lin (fun a j => sigN n (fun k => f a k * B k j)) i c (fun j => sigN n (fun k => x k * B k j)) (fun j => sigN n (fun k => y k * B k j)) hi
    rwa [show (fun b => c * (fun j => sigN n (fun k => x k * B k j)) b + (fun j => sigN n (fun k => y k * B k j)) b) = fun j => sigN n (fun k => (c * x k + y k) * B k j) by
      funext b
      show c * sigN n _ + sigN n _ = _
      rw [← sigN_mul, ← sigN_add]
      exact sigN_congr fun k _ => by grind] at this
  · refine hg.adj _ k hk fun b hb => ?_
    exact sigN_congr fun q hq => by rw [he q hq]
theorem alt_turn {p : Int} (hp : primeB p = true) (n : Nat) : Alt p n (fun f => dt n (fun i j => f j i)) := by
  have hg := alt_dt p n
  refine ⟨fun f f' h => hg.near _ _ fun i hi j hj => h j hj i hi, fun f i c x y hi => ?_, fun f k hk he => ?_⟩
  · have e : ∀ z : Nat → Int, (fun a b => upd f i z b a) = updc (fun a b => f b a) i z := fun z => by funext a b; rfl
    show p ∣ dt n (fun a b => upd f i _ b a) - (c * dt n (fun a b => upd f i x b a) + dt n (fun a b => upd f i y b a))
    rw [e, e, e, dt_linc n _ i c x y hi, Int.sub_self]
    exact Int.dvd_zero p
  · refine hg.dependc hp (c := k) (by omega) (fun i j => f j i) (fun j => if j = k then 1 else if j = k + 1 then -1 else 0) (by rw [if_pos rfl]) fun i hi => ?_
    rw [sigN_two (c := k) (d := k + 1) (by omega) (by omega) hk (fun j _ h1 h2 => by
      show f j i * (if j = k then 1 else if j = k + 1 then -1 else 0) = 0
      rw [if_neg h1, if_neg h2]; simp)]
    show p ∣ f k i * (if k = k then 1 else if k = k + 1 then -1 else 0) + f (k + 1) i * (if k + 1 = k then 1 else if k + 1 = k + 1 then -1 else 0)
    rw [if_pos rfl, if_neg (by omega), if_pos rfl, he i hi]
    rw [show f (k + 1) i * 1 + f (k + 1) i * -1 = 0 by omega]
    exact Int.dvd_zero p
theorem det_sq {p : Int} {M : List (List Int)} (h : matB p M = true) (hsq : M.length = (M.headD []).length) : VM p M.length M := by have := VM_of_mat h; rwa [← hsq] at this
theorem detV_times {p : Int} {A B : List (List Int)} (hA : matB p A = true) (hB : matB p B = true) (sA : A.length = (A.headD []).length) (sB : B.length = (B.headD []).length) (hl : B.length = A.length) : detV p (timesM p A B) = detV p A * detV p B % p := by
  have hp := prime_of_mat hA
  have VA := det_sq hA sA
  have VB := det_sq hB sB
  rw [hl] at VB
  have hVT := VM.times hp A B
  rw [← sB, hl] at hVT
  have h1 := detV_dt hp hVT (timesM_len p A B)
  have h2 := detV_alt hp VA rfl (alt_times p A.length (at2 B))
  have h3 := detV_dt hp VB hl
  have h4 : p ∣ dt A.length (at2 (timesM p A B)) - dt A.length (fun i j => sigN A.length (fun k => at2 A i k * at2 B k j)) := dt_near _ _ _ fun i hi j hj => by
    rw [times_at VA hi (by omega)]; exact near_mod _ _
  have h5 : dt A.length (fun i j => sigN A.length (fun k => idF i k * at2 B k j)) = dt A.length (at2 B) := dt_congr _ _ _ fun i hi j hj => by
    rw [sigN_one hi (fun k hk hne => by unfold idF; rw [if_neg (fun e => hne e.symm)]; simp)]
    unfold idF; rw [if_pos rfl, Int.one_mul]
  have h2' : p ∣ dt A.length (fun i j => sigN A.length (fun k => at2 A i k * at2 B k j)) - detV p A * dt A.length (fun i j => sigN A.length (fun k => idF i k * at2 B k j)) := h2
  rw [h5] at h2'
  have hn := numB_true (detV_num hp hVT (timesM_len p A B))
  rw [← Int.emod_eq_of_lt hn.2.1 hn.2.2]
  refine mod_of_near (near_trans (near_trans (near_symm h1) h4) ?_)
  refine near_trans h2' ?_
  rw [← Int.mul_sub]
  exact dvd_mulL h3 _
theorem detV_turn {p : Int} {M : List (List Int)} (h : matB p M = true) (hsq : M.length = (M.headD []).length) : detV p (turnM M) = detV p M := by
  have hp := prime_of_mat h
  have hV := det_sq h hsq
  have hVT := VM.turn h
  have hl : (turnM M).length = M.length := by rw [turnM_len, hsq]
  have h1 := detV_dt hp hVT hl
  have h2 : p ∣ dt M.length (fun i j => at2 M j i) - detV p M * dt M.length (fun i j => idF j i) := detV_alt hp hV rfl (alt_turn hp M.length)
  have h3 : dt M.length (fun i j => idF j i) = 1 := by
    rw [← dt_one M.length]
    exact dt_congr _ _ _ fun i _ j _ => by unfold idF; by_cases e : i = j <;> simp [e, eq_comm]
  rw [h3, Int.mul_one] at h2
  rw [dt_congr M.length (at2 (turnM M)) (fun i j => at2 M j i) fun i hi j hj => turn_at (by omega)] at h1
  have hn := numB_true (detV_num hp hVT hl)
  have hn2 := numB_true (detV_num hp hV rfl)
  exact near_eq (near_trans (near_symm h1) h2) hn.2.1 hn.2.2 hn2.2.1 hn2.2.2
theorem detV_rank {p : Int} {M : List (List Int)} (h : matB p M = true) (hsq : M.length = (M.headD []).length) : detV p M = 0 ↔ (elim p M (M.headD []).length).2.length < M.length := by
  have hp := prime_of_mat h
  have hpb := prime_ge hp
  have hV := det_sq h hsq
  have h1 := detV_dt hp hV rfl
  have hn := numB_true (detV_num hp hV rfl)
  constructor
  · intro hz
    refine Classical.byContradiction fun hno => ?_
    have hle := (rank_bd h).1
    have hfull : (elim p M (M.headD []).length).2.length = M.length := by omega
    have hex : ∀ j, j < M.length → ∃ x : Nat → Int, ∀ i, i < M.length → p ∣ sigN M.length (fun k => at2 M i k * x k) - idF i j := by
      intro j hj
      obtain ⟨want, hw⟩ : ∃ want : List Int, want = (List.range M.length).map (fun i => idF i j) := ⟨_, rfl⟩
      have hwl : want.length = M.length := by rw [hw]; simp
      have hwv : rowB p want = true := List.all_eq_true.2 fun x hx => by
        rw [hw] at hx
        obtain ⟨i, _, rfl⟩ := List.mem_map.1 hx
        unfold idF
        split
        · exact numB_mk hp (by omega) (by omega)
        · exact numB_mk hp (by omega) (by omega)
      obtain ⟨s1, s2⟩ := solve_law h hwl hwv
      have hVW := VM.widen (VM_of_mat h) (rowB_mem hwv)
      have hWl := widenM_len hwl
      have i1 := (elim_inv hp hVW ((M.headD []).length + 1)).2.2.1
      have hsame : (elim p M (M.headD []).length).2.length ≤ (elim p (widenM M want) ((M.headD []).length + 1)).2.length := by
        have hRW := elim_red hp hVW ((M.headD []).length + 1) (Nat.le_refl _)
        have hF := Fac.elim hp hVW
        rw [hWl] at hF
        refine rank_le hp (VM_of_mat h) ?_
        obtain ⟨X, Y, hF⟩ := hF
        exact ⟨X, Y, fun i hi q hq => by rw [← (widen_at (VM_of_mat h) hwl hi).1 q hq]; exact hF i hi q (by omega)⟩
      have hd : (elim p (widenM M want) ((M.headD []).length + 1)).2.length = (elim p M (M.headD []).length).2.length := by omega
      rw [hd, decide_eq_true rfl] at s1
      obtain ⟨x, hx⟩ := Option.isSome_iff_exists.1 s1
      obtain ⟨_, s3⟩ := s2 x hx
      refine ⟨fun k => x.getD k 0, fun i hi => ?_⟩
      have s4 := s3 i hi
      rw [← hsq] at s4
      have s5 : want.getD i 0 = idF i j := by rw [hw, List.getD_eq_getElem?_getD, List.getElem?_map, List.getElem?_range hi]; rfl
      rw [s5] at s4
      have s6 := near_symm (near_mod p (sigN M.length (fun k => at2 M i k * x.getD k 0)))
      rwa [s4] at s6
    have hB : ∃ B : Nat → Nat → Int, ∀ j, j < M.length → ∀ i, i < M.length → p ∣ sigN M.length (fun k => at2 M i k * B k j) - idF i j := by
      refine ⟨fun k j => if hj : j < M.length then Classical.choose (hex j hj) k else 0, fun j hj i hi => ?_⟩
      simp only [dif_pos hj]
      exact Classical.choose_spec (hex j hj) i hi
    obtain ⟨B, hB⟩ := hB
    have h2 := detV_alt hp hV rfl (alt_times p M.length B)
    rw [hz, Int.zero_mul, Int.sub_zero] at h2
    have h3 : p ∣ dt M.length (fun i j => sigN M.length (fun k => at2 M i k * B k j)) - dt M.length idF := dt_near _ _ _ fun i hi j hj => hB j hj i hi
    rw [dt_one] at h3
    have h4 := (near_move h3).1 h2
    have := Int.le_of_dvd (by omega) h4
    omega
  · intro hlt
    obtain ⟨X, Y, hf⟩ := Fac.elim hp (VM_of_mat h)
    rw [← hsq] at hf
    rw [← hsq] at hlt
    obtain ⟨u, ⟨d, hd, hu1⟩, hu⟩ := pigeon hp hlt (fun k i => X i k)
    have h2 : p ∣ dt M.length (at2 M) := (alt_dt p M.length).depend hd _ u hu1 fun j hj => by
      refine (near_move (sigN_near (f := fun i => u i * at2 M i j) (g := fun i => u i * sigN (elim p M M.length).2.length (fun k => X i k * Y k j)) fun i hi => by rw [← Int.mul_sub]; exact dvd_mulL (hf i hi j hj) _)).2 ?_
      rw [sigN_congr (g := fun i => sigN (elim p M M.length).2.length (fun k => X i k * u i * Y k j)) (fun i _ => by rw [← sigN_mul]; exact sigN_congr fun k _ => by grind), sigN_swap]
      refine sigN_dvd fun k hk => ?_
      rw [sigN_mulr]
      exact dvd_mulR (hu k hk) _
    exact near_zero ((near_move h1).1 h2) hn.2.1 hn.2.2
end Go.Proofs.Ytpelokdgjdljfac

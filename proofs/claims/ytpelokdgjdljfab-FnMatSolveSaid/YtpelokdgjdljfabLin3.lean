/-
  Plain mathematics: the form is told by what is taken to 0; the rank is the least inner length of a product; rows as columns have the same rank.
-/
import Derived.Test.YtpelokdgjdljfabLin2
import Derived.Test.YtpelokdgjdljfabKern
namespace Go.Proofs.Ytpelokdgjdljfab
theorem elim_some {p : Int} {M : List (List Int)} {c r : Nat} (h : firstW (elim p M c).1 c ((elim p M c).1.length - (elim p M c).2.length) (elim p M c).2.length = some r) :
    elim p M (c + 1) = (stepM p (elim p M c).1 r (elim p M c).2.length c, (elim p M c).2 ++ [c]) := by
  show stepE p (elim p M c).1 (elim p M c).2 c = _
  unfold stepE
  rw [h]; rfl
theorem elim_none {p : Int} {M : List (List Int)} {c : Nat} (h : firstW (elim p M c).1 c ((elim p M c).1.length - (elim p M c).2.length) (elim p M c).2.length = none) : elim p M (c + 1) = elim p M c := by
  show stepE p (elim p M c).1 (elim p M c).2 c = _
  unfold stepE
  rw [h]
theorem elim_red {p : Int} (hp : primeB p = true) {l : Nat} {M : List (List Int)} (h : VM p l M) : ∀ c, c ≤ l → Red M.length c (at2 (elim p M c).1) (elim p M c).2
  | 0, _ => ⟨fun k hk => by simp [elim] at hk, fun k k' _ hk' => by simp [elim] at hk', by simp [elim], fun k hk => by simp [elim] at hk, fun i _ _ j hj => absurd hj (by omega), fun k hk => by simp [elim] at hk⟩
  | c + 1, hc => by
    have hR := elim_red hp h c (by omega)
    obtain ⟨h1, h2, h3, _⟩ := elim_inv hp h c
    rcases hf : firstW (elim p M c).1 c ((elim p M c).1.length - (elim p M c).2.length) (elim p M c).2.length with _ | r
    · rw [elim_none hf]
      refine ⟨fun k hk => by have := hR.lt k hk; omega, hR.inc, hR.le, hR.one, fun i hi1 hi j hj => ?_, hR.pre⟩
      by_cases e : j = c
      · subst e; exact firstW_none hf i hi1 (by omega)
      · exact hR.low i hi1 hi j (by omega)
    · obtain ⟨g1, g2, g3, _⟩ := firstW_some hf
      rw [elim_some hf]
      have hn := numB_true (h2.at2 (i := r) (j := c) (by omega) (by omega))
      rw [← h1] at hR ⊢
      exact hR.step hp h2 g1 (by omega) (inv_ok hp hn.2.1 hn.2.2 g3)
theorem elim_ker {p : Int} (hp : primeB p = true) {l : Nat} {M : List (List Int)} (h : VM p l M) (v : Nat → Int) : ∀ c, c ≤ l → (Ker p M.length l (at2 (elim p M c).1) v ↔ Ker p M.length l (at2 M) v)
  | 0, _ => Iff.rfl
  | c + 1, hc => by
    have hi := elim_ker hp h v c (by omega)
    obtain ⟨h1, h2, h3, _⟩ := elim_inv hp h c
    rcases hf : firstW (elim p M c).1 c ((elim p M c).1.length - (elim p M c).2.length) (elim p M c).2.length with _ | r
    · rw [elim_none hf]; exact hi
    · obtain ⟨g1, g2, g3, _⟩ := firstW_some hf
      rw [elim_some hf]
      have hn := numB_true (h2.at2 (i := r) (j := c) (by omega) (by omega))
      have hx := inv_ok hp hn.2.1 hn.2.2 g3
      rw [← h1] at hi ⊢
      refine (stepM_ker hp h2 (by omega) (by omega) ?_ v).trans hi
      have := near_mod p (at2 (elim p M c).1 r c * invM p (at2 (elim p M c).1 r c))
      rw [hx] at this
      have h5 := Int.dvd_neg.2 this
      rwa [show -(1 - at2 (elim p M c).1 r c * invM p (at2 (elim p M c).1 r c)) = at2 (elim p M c).1 r c * invM p (at2 (elim p M c).1 r c) - 1 by omega] at h5
theorem sigN_two {f : Nat → Int} {c d n : Nat} (hcd : c ≠ d) (hc : c < n) (hd : d < n) (hz : ∀ k, k < n → k ≠ c → k ≠ d → f k = 0) : sigN n f = f c + f d := by
  have e : sigN n f = sigN n (fun k => (if k = c then f k else 0) + (if k = c then 0 else f k)) := sigN_congr (fun k _ => by split <;> omega)
  rw [e, sigN_add, sigN_one hc (fun k _ hne => if_neg hne), if_pos rfl, sigN_one hd (fun k hk hne => by
    by_cases h : k = c
    · rw [if_pos h]
    · rw [if_neg h]; exact hz k hk h hne), if_neg (fun h => hcd h.symm)]
/-- a sum whose terms are 0 but at certain places, that grow -/
theorem sigN_heads {l : Nat} (h : Nat → Nat) : ∀ {m : Nat} {g : Nat → Int}, (∀ k, k < m → h k < l) → (∀ k k', k < k' → k' < m → h k < h k') → (∀ j, j < l → (∀ k, k < m → h k ≠ j) → g j = 0) → sigN l g = sigN m (fun k => g (h k))
  | 0, g, _, _, hz => by rw [sigN_zero (fun k hk => hz k hk (fun _ h => absurd h (by omega)))]; rfl
  | m + 1, g, hl, hi, hz => by
    have e : sigN l g = sigN l (fun k => (if k = h m then g k else 0) + (if k = h m then 0 else g k)) := sigN_congr (fun k _ => by split <;> omega)
    rw [e, sigN_add, sigN_one (hl m (by omega)) (fun k _ hne => if_neg hne), if_pos rfl]
    rw [sigN_heads h (m := m) (g := fun k => if k = h m then 0 else g k) (fun k hk => hl k (by omega)) (fun k k' h1 h2 => hi k k' h1 (by omega)) (fun j hj hne => by
      show (if j = h m then 0 else g j) = 0
      by_cases e : j = h m
      · rw [if_pos e]
      · rw [if_neg e]
        refine hz j hj (fun k hk => ?_)
        by_cases e2 : k = m
        · subst e2; exact fun h => e h.symm
        · exact hne k (by omega))]
    show _ = sigN m (fun k => g (h k)) + g (h m)
    rw [sigN_congr (n := m) (f := fun k => if h k = h m then 0 else g (h k)) (g := fun k => g (h k)) (fun k hk => by
      have := hi k m hk (by omega)
      show (if h k = h m then 0 else g (h k)) = g (h k)
      rw [if_neg (by omega)])]
    omega
/-- the vector of a column that begins no row -/
def freeV (p : Int) (F : List (List Int)) (hs : List Nat) (c l : Nat) (j : Nat) : Int := (kerFill p F hs c l hs.length).getD j 0
theorem kerFill_col {p : Int} {F : List (List Int)} {hs : List Nat} {c l : Nat} (hc : c < l) : ∀ k, k ≤ hs.length → (∀ q, q < k → hs.getD q 0 ≠ c) → (kerFill p F hs c l k).getD c 0 = 1
  | 0, _, _ => by
    show ((List.replicate l (0 : Int)).set c 1).getD c 0 = 1
    rw [List.getD_eq_getElem?_getD, List.getElem?_set_self (by simpa using hc)]; rfl
  | k + 1, hk, h => by
    show ((kerFill p F hs c l k).set (hs.getD k 0) (-(at2 F k c) % p)).getD c 0 = 1
    rw [List.getD_eq_getElem?_getD, List.getElem?_set_ne (h k (by omega)), ← List.getD_eq_getElem?_getD]
    exact kerFill_col hc k (by omega) (fun q hq => h q (by omega))
theorem kerFill_head {p : Int} {F : List (List Int)} {hs : List Nat} {c l : Nat} (hl : ∀ q, q < hs.length → hs.getD q 0 < l) (hd : ∀ q q', q < q' → q' < hs.length → hs.getD q 0 < hs.getD q' 0) : ∀ k, k ≤ hs.length → ∀ q, q < k → (kerFill p F hs c l k).getD (hs.getD q 0) 0 = -(at2 F q c) % p
  | 0, _, _, hq => absurd hq (by omega)
  | k + 1, hk, q, hq => by
    show ((kerFill p F hs c l k).set (hs.getD k 0) (-(at2 F k c) % p)).getD (hs.getD q 0) 0 = _
    rw [List.getD_eq_getElem?_getD]
    by_cases e : q = k
    · subst e
      rw [List.getElem?_set_self (by rw [kerFill_len]; exact hl q (by omega))]; rfl
    · have := hd q k (by omega) (by omega)
      rw [List.getElem?_set_ne (by omega), ← List.getD_eq_getElem?_getD]
      exact kerFill_head hl hd k (by omega) q (by omega)
theorem kerFill_off {p : Int} {F : List (List Int)} {hs : List Nat} {c l j : Nat} (hj : j ≠ c) : ∀ k, (∀ q, q < k → hs.getD q 0 ≠ j) → (kerFill p F hs c l k).getD j 0 = 0
  | 0, _ => by
    show ((List.replicate l (0 : Int)).set c 1).getD j 0 = 0
    rw [List.getD_eq_getElem?_getD, List.getElem?_set_ne (fun e => hj e.symm), List.getElem?_replicate]
    split <;> rfl
  | k + 1, h => by
    show ((kerFill p F hs c l k).set (hs.getD k 0) (-(at2 F k c) % p)).getD j 0 = 0
    rw [List.getD_eq_getElem?_getD, List.getElem?_set_ne (h k (by omega)), ← List.getD_eq_getElem?_getD]
    exact kerFill_off hj k (fun q hq => h q (by omega))
theorem notin_getD {hs : List Nat} {c : Nat} (h : c ∉ hs) : ∀ q, q < hs.length → hs.getD q 0 ≠ c := fun _ hq e => h (e ▸ getD_mem_nat hq)
theorem mem_getD {hs : List Nat} {c : Nat} (h : c ∈ hs) : ∃ q, q < hs.length ∧ hs.getD q 0 = c := by
  obtain ⟨q, hq, he⟩ := List.getElem_of_mem h
  exact ⟨q, hq, by rw [List.getD_eq_getElem?_getD, List.getElem?_eq_getElem hq, he]; rfl⟩
/-- what is taken to 0: the vector of a free column -/
theorem free_ker {p : Int} {n l c : Nat} {F : List (List Int)} {hs : List Nat} (hR : Red n l (at2 F) hs) (hc : c < l) (hf : c ∉ hs) : Ker p n l (at2 F) (freeV p F hs c l) := by
  intro i hi
  have hn := notin_getD hf
  have hcol : freeV p F hs c l c = 1 := kerFill_col hc _ (Nat.le_refl _) hn
  by_cases hk : i < hs.length
  · have hh : freeV p F hs c l (hs.getD i 0) = -(at2 F i c) % p := kerFill_head hR.lt hR.inc _ (Nat.le_refl _) i hk
    rw [sigN_two (c := c) (d := hs.getD i 0) (fun e => hn i hk e.symm) hc (hR.lt i hk) (fun j hj h1 h2 => ?_)]
    · rw [hcol, hh, hR.one i hk i hi, if_pos rfl]
      have := near_mod p (-(at2 F i c))
      rwa [show at2 F i c * 1 + 1 * (-at2 F i c % p) = -at2 F i c % p - -at2 F i c by omega]
    · by_cases hm : j ∈ hs
      · obtain ⟨q, hq, rfl⟩ := mem_getD hm
        rw [hR.one q hq i hi, if_neg (fun e => h2 (by rw [e]))]; simp
      · have : freeV p F hs c l j = 0 := kerFill_off h1 _ (notin_getD hm)
        rw [this]; simp
  · rw [sigN_zero (fun j hj => by rw [hR.low i (by omega) hi j hj]; simp)]
    exact Int.dvd_zero p
theorem free_after {p : Int} {n l c : Nat} {F : List (List Int)} {hs : List Nat} (hR : Red n l (at2 F) hs) (j : Nat) (hj : c < j) : freeV p F hs c l j = 0 := by
  by_cases hm : j ∈ hs
  · obtain ⟨q, hq, rfl⟩ := mem_getD hm
    have hh : freeV p F hs c l (hs.getD q 0) = -(at2 F q c) % p := kerFill_head hR.lt hR.inc _ (Nat.le_refl _) q hq
    rw [hh, hR.pre q hq c hj]; simp
  · exact kerFill_off (by omega) _ (notin_getD hm)
theorem head_zero {p : Int} {n l : Nat} {f : Nat → Nat → Int} {hs : List Nat} (hR : Red n l f hs) {v : Nat → Int} (hv : Ker p n l f v) {k : Nat} (hk : k < hs.length) (hz : ∀ j, hs.getD k 0 < j → v j = 0) : p ∣ v (hs.getD k 0) := by
  have h := hv k (by have := hR.le; omega)
  rw [sigN_one (hR.lt k hk) (fun j hj hne => ?_), hR.one k hk k (by have := hR.le; omega), if_pos rfl, Int.one_mul] at h
  · exact h
  · by_cases h2 : j < hs.getD k 0
    · rw [hR.pre k hk j h2]; simp
    · rw [hz j (by omega)]; simp
theorem sorted_ext : ∀ (a b : List Nat), a.Pairwise (· < ·) → b.Pairwise (· < ·) → (∀ x, x ∈ a ↔ x ∈ b) → a = b
  | [], [], _, _, _ => rfl
  | [], y :: b, _, _, h => absurd ((h y).2 (by simp)) (by simp)
  | x :: a, [], _, _, h => absurd ((h x).1 (by simp)) (by simp)
  | x :: a, y :: b, ha, hb, h => by
    obtain ⟨ha1, ha2⟩ := List.pairwise_cons.1 ha
    obtain ⟨hb1, hb2⟩ := List.pairwise_cons.1 hb
    have hxy : x = y := by
      have h1 := (h x).1 (by simp)
      have h2 := (h y).2 (by simp)
      rcases List.mem_cons.1 h1 with h1 | h1
      · exact h1
      · rcases List.mem_cons.1 h2 with h2 | h2
        · exact h2.symm
        · have := ha1 y h2; have := hb1 x h1; omega
    subst hxy
    rw [sorted_ext a b ha2 hb2 (fun z => ⟨fun hz => by
      rcases List.mem_cons.1 ((h z).1 (List.mem_cons_of_mem _ hz)) with e | e
      · have := ha1 z hz; omega
      · exact e, fun hz => by
      rcases List.mem_cons.1 ((h z).2 (List.mem_cons_of_mem _ hz)) with e | e
      · have := hb1 z hz; omega
      · exact e⟩)]
theorem Red.sorted {n c : Nat} {f : Nat → Nat → Int} {hs : List Nat} (hR : Red n c f hs) : hs.Pairwise (· < ·) := by
  rw [List.pairwise_iff_getElem]
  intro i j hi hj hij
  have := hR.inc i j hij hj
  simpa [List.getD_eq_getElem?_getD, List.getElem?_eq_getElem hi, List.getElem?_eq_getElem hj] using this
theorem Red.bound {n c : Nat} {f : Nat → Nat → Int} {hs : List Nat} (hR : Red n c f hs) : ∀ x ∈ hs, x < c := fun x hx => by
  obtain ⟨q, hq, rfl⟩ := mem_getD hx; exact hR.lt q hq
/-- if the rows are fewer than the columns, some column begins no row -/
theorem free_exists {n l : Nat} {f : Nat → Nat → Int} {hs : List Nat} (hR : Red n l f hs) (h : hs.length < l) : ∃ c, c < l ∧ c ∉ hs := by
  refine Classical.byContradiction fun hno => ?_
  have hall : ∀ c, c < l → c ∈ hs := fun c hc => Classical.byContradiction fun hm => hno ⟨c, hc, hm⟩
  have := sorted_ext hs (List.range l) hR.sorted List.pairwise_lt_range (fun x => ⟨fun hx => List.mem_range.2 (hR.bound x hx), fun hx => hall x (List.mem_range.1 hx)⟩)
  rw [this] at h
  simp at h
theorem mat_ext {l : Nat} {F F' : List (List Int)} (hl : F.length = F'.length) (h1 : ∀ row ∈ F, row.length = l) (h2 : ∀ row ∈ F', row.length = l) (h : ∀ i, i < F.length → ∀ j, j < l → at2 F i j = at2 F' i j) : F = F' := by
  refine List.ext_getElem hl fun i hi hi' => ?_
  have e1 := h1 _ (List.getElem_mem hi)
  have e2 := h2 _ (List.getElem_mem hi')
  refine List.ext_getElem (by rw [e1, e2]) fun j hj hj' => ?_
  have := h i hi j (by omega)
  simpa [at2, List.getD_eq_getElem?_getD, List.getElem?_eq_getElem hi, List.getElem?_eq_getElem hi', List.getElem?_eq_getElem hj, List.getElem?_eq_getElem hj'] using this
/-- the form is told by what is taken to 0 -/
theorem form_unique {p : Int} (hp : primeB p = true) {l : Nat} {M M' : List (List Int)} (h : VM p l M) (h' : VM p l M') (hn : M.length = M'.length) (hk : ∀ v, Ker p M.length l (at2 M) v ↔ Ker p M.length l (at2 M') v) : elim p M l = elim p M' l := by
  have hpb := prime_ge hp
  have hR := elim_red hp h l (Nat.le_refl _)
  have hR' := elim_red hp h' l (Nat.le_refl _)
  have hE := fun v => elim_ker hp h v l (Nat.le_refl _)
  have hE' := fun v => elim_ker hp h' v l (Nat.le_refl _)
  rw [← hn] at hR' hE'
  obtain ⟨i1, i2, _, _⟩ := elim_inv hp h l
  obtain ⟨j1, j2, _, _⟩ := elim_inv hp h' l
  have hkk : ∀ v, Ker p M.length l (at2 (elim p M l).1) v ↔ Ker p M.length l (at2 (elim p M' l).1) v := fun v => (hE v).trans ((hk v).trans (hE' v).symm)
  have hsub : ∀ {F F' : List (List Int)} {hs hs' : List Nat}, Red M.length l (at2 F) hs → Red M.length l (at2 F') hs' → (∀ v, Ker p M.length l (at2 F) v → Ker p M.length l (at2 F') v) → ∀ x, x ∈ hs' → x ∈ hs := by
    intro F F' hs hs' hR hR' hkk x hx
    refine Classical.byContradiction fun hno => ?_
    obtain ⟨q, hq, rfl⟩ := mem_getD hx
    have hlt := hR'.lt q hq
    have h1 := head_zero hR' (hkk _ (free_ker hR hlt hno)) hq (fun j hj => free_after hR j hj)
    have h2 : freeV p F hs (hs'.getD q 0) l (hs'.getD q 0) = 1 := kerFill_col hlt _ (Nat.le_refl _) (notin_getD hno)
    rw [h2] at h1
    have := Int.le_of_dvd (by omega) h1
    omega
  have hhs : (elim p M l).2 = (elim p M' l).2 := sorted_ext _ _ hR.sorted hR'.sorted (fun x => ⟨hsub hR' hR (fun v hv => (hkk v).2 hv) x, hsub hR hR' (fun v hv => (hkk v).1 hv) x⟩)
  refine Prod.ext (mat_ext (l := l) (by rw [i1, j1, hn]) (fun row hr => (i2 row hr).1) (fun row hr => (j2 row hr).1) fun i hi j hj => ?_) hhs
  rw [i1] at hi
  rw [← hhs] at hR'
  obtain ⟨hs, hHS⟩ : ∃ hs, (elim p M l).2 = hs := ⟨_, rfl⟩
  rw [hHS] at hR hR'
  by_cases hi2 : i < hs.length
  · by_cases hm : j ∈ hs
    · obtain ⟨q, hq, rfl⟩ := mem_getD hm
      rw [hR.one q hq i hi, hR'.one q hq i hi]
    · have hv := (hkk _).1 (free_ker hR hj hm)
      have h1 := hv i hi
      have hn' := notin_getD hm
      have hcol : freeV p (elim p M l).1 hs j l j = 1 := kerFill_col hj _ (Nat.le_refl _) hn'
      have hh : freeV p (elim p M l).1 hs j l (hs.getD i 0) = -(at2 (elim p M l).1 i j) % p := kerFill_head hR.lt hR.inc _ (Nat.le_refl _) i hi2
      rw [sigN_two (c := j) (d := hs.getD i 0) (fun e => hn' i hi2 e.symm) hj (hR.lt i hi2) (fun k hk' g1 g2 => ?_), hcol, hh, hR'.one i hi2 i hi, if_pos rfl] at h1
      · have h2 := near_mod p (-(at2 (elim p M l).1 i j))
        have h3 := Int.dvd_sub h1 h2
        rw [show at2 (elim p M' l).1 i j * 1 + 1 * (-at2 (elim p M l).1 i j % p) - (-at2 (elim p M l).1 i j % p - -at2 (elim p M l).1 i j) = at2 (elim p M' l).1 i j - at2 (elim p M l).1 i j by omega] at h3
        have a1 := numB_true (i2.at2 (i := i) (j := j) (by omega) hj)
        have a2 := numB_true (j2.at2 (i := i) (j := j) (by omega) hj)
        exact (near_eq h3 a2.2.1 a2.2.2 a1.2.1 a1.2.2).symm
      · by_cases hm2 : k ∈ hs
        · obtain ⟨q, hq, rfl⟩ := mem_getD hm2
          rw [hR'.one q hq i hi, if_neg (fun e => g2 (by rw [e]))]; simp
        · have : freeV p (elim p M l).1 hs j l k = 0 := kerFill_off g1 _ (notin_getD hm2)
          rw [this]; simp
  · rw [hR.low i (by omega) hi j hj, hR'.low i (by omega) hi j hj]
end Go.Proofs.Ytpelokdgjdljfab

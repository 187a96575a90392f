/-
  Plain mathematics: the form of the form; rows added to another one; equations.
-/
import Derived.Test.YtpelokdgjdljfabLin5
import Derived.Test.YtpelokdgjdljfabSolve
namespace Go.Proofs.Ytpelokdgjdljfab
theorem form_mat {p : Int} {M : List (List Int)} (h : matB p M = true) : matB p (formR p M) = true ∧ ((formR p M).headD []).length = (M.headD []).length ∧ (formR p M).length = M.length := by
  have hp := prime_of_mat h
  obtain ⟨a1, a2, a3, a4, _⟩ := matB_true h
  obtain ⟨i1, i2, _, _⟩ := elim_inv hp (VM_of_mat h) (M.headD []).length
  rw [formR_yes h]
  exact ⟨matB_mk i2 (by omega) (by omega) a3 a4, headD_len i2 (by omega), i1⟩
theorem elim_form {p : Int} {M : List (List Int)} (h : matB p M = true) : elim p (formR p M) (M.headD []).length = elim p M (M.headD []).length := by
  have hp := prime_of_mat h
  obtain ⟨i1, i2, _, _⟩ := elim_inv hp (VM_of_mat h) (M.headD []).length
  rw [formR_yes h]
  refine form_unique hp i2 (VM_of_mat h) i1 fun v => ?_
  rw [i1]
  exact elim_ker hp (VM_of_mat h) v _ (Nat.le_refl _)
theorem form_form {p : Int} {M : List (List Int)} (h : matB p M = true) : formR p (formR p M) = formR p M := by
  obtain ⟨m1, m2, _⟩ := form_mat h
  rw [formR_yes m1, m2, elim_form h, ← formR_yes h]
theorem kernel_form {p : Int} {M : List (List Int)} (h : matB p M = true) : kernelR p (formR p M) = kernelR p M := by
  obtain ⟨m1, m2, _⟩ := form_mat h
  rw [kernelR_yes m1, kernelR_yes h, m2, elim_form h]
/-- with the first row added to each other one -/
def moreRow (p : Int) (M : List (List Int)) (k : Nat) : List Int := if k = 0 then M.getD 0 [] else List.zipWith (fun x y => (x + y) % p) (M.getD k []) (M.getD 0 [])
def moreM (p : Int) (M : List (List Int)) : List (List Int) := (List.range M.length).map (moreRow p M)
theorem moreM_len (p : Int) (M : List (List Int)) : (moreM p M).length = M.length := by simp [moreM]
theorem moreM_get (p : Int) (M : List (List Int)) {k : Nat} (h : k < M.length) : (moreM p M)[k]? = some (moreRow p M k) := by unfold moreM; rw [List.getElem?_map, List.getElem?_range h]; rfl
theorem moreRow_len {p : Int} {l : Nat} {M : List (List Int)} (h : VM p l M) {k : Nat} (hk : k < M.length) : (moreRow p M k).length = l := by
  unfold moreRow
  have h0 := (h.getD (i := 0) (by omega)).1
  have h1 := (h.getD hk).1
  split
  · exact h0
  · rw [List.length_zipWith, h0, h1]; exact Nat.min_self _
theorem VM.more {p : Int} (hp : primeB p = true) {l : Nat} {M : List (List Int)} (h : VM p l M) : VM p l (moreM p M) := by
  intro row hr
  unfold moreM at hr
  obtain ⟨k, hk, rfl⟩ := List.mem_map.1 hr
  have hk := List.mem_range.1 hk
  refine ⟨moreRow_len h hk, ?_⟩
  unfold moreRow
  split
  · exact (h.getD (by omega)).2
  · intro x hx
    obtain ⟨a, b, rfl⟩ := zipWith_mem _ hx
    exact numB_emod hp _
theorem more_at {p : Int} {l : Nat} {M : List (List Int)} (h : VM p l M) {k j : Nat} (hk : k < M.length) (hj : j < l) : at2 (moreM p M) k j = if k = 0 then at2 M k j else (at2 M k j + at2 M 0 j) % p := by
  show ((moreM p M).getD k []).getD j 0 = _
  rw [getD_row (moreM_get p M hk)]
  unfold moreRow
  by_cases e : k = 0
  · rw [if_pos e, if_pos e, e]; rfl
  · rw [if_neg e, if_neg e]
    have h0 := (h.getD (i := 0) (by omega)).1
    have h1 := (h.getD hk).1
    rw [List.getD_eq_getElem?_getD, List.getElem?_zipWith, List.getElem?_eq_getElem (show j < (M.getD k []).length by omega), List.getElem?_eq_getElem (show j < (M.getD 0 []).length by omega)]
    unfold at2
    rw [List.getD_eq_getElem?_getD (l := M.getD k []), List.getD_eq_getElem?_getD (l := M.getD 0 []), List.getElem?_eq_getElem (show j < (M.getD k []).length by omega), List.getElem?_eq_getElem (show j < (M.getD 0 []).length by omega)]
    rfl
theorem more_mat {p : Int} {M : List (List Int)} (h : matB p M = true) : matB p (moreM p M) = true ∧ ((moreM p M).headD []).length = (M.headD []).length := by
  have hp := prime_of_mat h
  obtain ⟨a1, a2, a3, a4, _⟩ := matB_true h
  have hV := VM.more hp (VM_of_mat h)
  have hl := moreM_len p M
  exact ⟨matB_mk hV (by omega) (by omega) a3 a4, headD_len hV (by omega)⟩
theorem more_ker {p : Int} {l : Nat} {M : List (List Int)} (h : VM p l M) (v : Nat → Int) : Ker p M.length l (at2 (moreM p M)) v ↔ Ker p M.length l (at2 M) v := by
  have h0 : ∀ i, i < M.length → i = 0 → sigN l (fun j => at2 (moreM p M) i j * v j) = sigN l (fun j => at2 M i j * v j) := fun i hi e => sigN_congr fun j hj => by rw [more_at h hi hj, if_pos e]
  have h1 : ∀ i, i < M.length → i ≠ 0 → p ∣ sigN l (fun j => at2 (moreM p M) i j * v j) - (sigN l (fun j => at2 M i j * v j) + sigN l (fun j => at2 M 0 j * v j)) := fun i hi e => by
    rw [← sigN_add]
    refine sigN_near fun j hj => ?_
    rw [more_at h hi hj, if_neg e, ← Int.add_mul, ← Int.sub_mul]
    exact dvd_mulR (near_mod _ _) _
  constructor
  · intro hk i hi
    have hz := hk 0 (by omega)
    rw [h0 0 (by omega) rfl] at hz
    by_cases e : i = 0
    · rw [e]; exact hz
    · have := (near_move (h1 i hi e)).1 (hk i hi)
      have h3 := Int.dvd_sub this hz
      rwa [Int.add_sub_cancel] at h3
  · intro hk i hi
    by_cases e : i = 0
    · rw [h0 i hi e]; exact hk i hi
    · exact (near_move (h1 i hi e)).2 (Int.dvd_add (hk i hi) (hk 0 (by omega)))
theorem form_more {p : Int} {M : List (List Int)} (h : matB p M = true) : formR p (moreM p M) = formR p M := by
  have hp := prime_of_mat h
  obtain ⟨m1, m2⟩ := more_mat h
  rw [formR_yes m1, formR_yes h, m2]
  rw [form_unique hp (VM.more hp (VM_of_mat h)) (VM_of_mat h) (moreM_len p M) fun v => by rw [moreM_len]; exact more_ker (VM_of_mat h) v]
/-- the heads are told by what is taken to 0 -/
theorem heads_sub {p : Int} (hp : primeB p = true) {n n' l : Nat} {F F' : List (List Int)} {hs hs' : List Nat} (hR : Red n l (at2 F) hs) (hR' : Red n' l (at2 F') hs') (hkk : ∀ v, Ker p n l (at2 F) v → Ker p n' l (at2 F') v) : ∀ x, x ∈ hs' → x ∈ hs := by
  intro x hx
  have hpb := prime_ge hp
  refine Classical.byContradiction fun hno => ?_
  obtain ⟨q, hq, rfl⟩ := mem_getD hx
  have hlt := hR'.lt q hq
  have h1 := head_zero hR' (hkk _ (free_ker hR hlt hno)) hq (fun j hj => free_after hR j hj)
  have h2 : freeV p F hs (hs'.getD q 0) l (hs'.getD q 0) = 1 := kerFill_col hlt _ (Nat.le_refl _) (notin_getD hno)
  rw [h2] at h1
  have := Int.le_of_dvd (by omega) h1
  omega
theorem heads_same {p : Int} (hp : primeB p = true) {n n' l : Nat} {F F' : List (List Int)} {hs hs' : List Nat} (hR : Red n l (at2 F) hs) (hR' : Red n' l (at2 F') hs') (hkk : ∀ v, Ker p n l (at2 F) v ↔ Ker p n' l (at2 F') v) : hs = hs' :=
  sorted_ext _ _ hR.sorted hR'.sorted (fun x => ⟨heads_sub hp hR' hR (fun v hv => (hkk v).2 hv) x, heads_sub hp hR hR' (fun v hv => (hkk v).1 hv) x⟩)
theorem widen_at {p : Int} {l : Nat} {M : List (List Int)} {want : List Int} (h : VM p l M) (hw : want.length = M.length) {i : Nat} (hi : i < M.length) : (∀ j, j < l → at2 (widenM M want) i j = at2 M i j) ∧ at2 (widenM M want) i l = want.getD i 0 := by
  have h1 : M[i]? = some (M.getD i []) := by rw [getQ, List.getElem?_eq_getElem hi]; rfl
  have h2 : want[i]? = some (want.getD i 0) := by rw [List.getD_eq_getElem?_getD, List.getElem?_eq_getElem (show i < want.length by omega)]; rfl
  have h3 := getD_row (widenM_get h1 h2)
  have h4 := (h.getD hi).1
  refine ⟨fun j hj => ?_, ?_⟩
  · show ((widenM M want).getD i []).getD j 0 = _
    rw [h3, List.getD_eq_getElem?_getD, List.getElem?_append_left (by omega), ← List.getD_eq_getElem?_getD]; rfl
  · show ((widenM M want).getD i []).getD l 0 = _
    rw [h3, List.getD_eq_getElem?_getD, List.getElem?_append_right (by omega), h4]; simp
/-- the numbers so far, 0 behind -/
def cut0 (l : Nat) (v : Nat → Int) (j : Nat) : Int := if j < l then v j else 0
theorem ker_cut {p : Int} {n l : Nat} {f g : Nat → Nat → Int} {v : Nat → Int} (h : ∀ i, i < n → ∀ j, j < l → f i j = g i j) : Ker p n (l + 1) f (cut0 l v) ↔ Ker p n l g v := by
  have e : ∀ i, i < n → sigN (l + 1) (fun j => f i j * cut0 l v j) = sigN l (fun j => g i j * v j) := fun i hi => by
    show sigN l (fun j => f i j * cut0 l v j) + f i l * cut0 l v l = _
    rw [show cut0 l v l = 0 by unfold cut0; rw [if_neg (by omega)], Int.mul_zero, Int.add_zero]
    exact sigN_congr fun j hj => by rw [h i hi j hj]; unfold cut0; rw [if_pos hj]
  exact ⟨fun hk i hi => by rw [← e i hi]; exact hk i hi, fun hk i hi => by rw [e i hi]; exact hk i hi⟩
theorem solFill_head {F : List (List Int)} {hs : List Nat} {l : Nat} (hl : ∀ q, q < hs.length → hs.getD q 0 < l) (hd : ∀ q q', q < q' → q' < hs.length → hs.getD q 0 < hs.getD q' 0) : ∀ k, k ≤ hs.length → ∀ q, q < k → (solFill F hs l k).getD (hs.getD q 0) 0 = at2 F q l
  | 0, _, _, hq => absurd hq (by omega)
  | k + 1, hk, q, hq => by
    show ((solFill F hs l k).set (hs.getD k 0) (at2 F k l)).getD (hs.getD q 0) 0 = _
    rw [List.getD_eq_getElem?_getD]
    by_cases e : q = k
    · subst e
      rw [List.getElem?_set_self (by rw [solFill_len]; exact hl q (by omega))]; rfl
    · have := hd q k (by omega) (by omega)
      rw [List.getElem?_set_ne (by omega), ← List.getD_eq_getElem?_getD]
      exact solFill_head hl hd k (by omega) q (by omega)
theorem solFill_off {F : List (List Int)} {hs : List Nat} {l j : Nat} : ∀ k, (∀ q, q < k → hs.getD q 0 ≠ j) → (solFill F hs l k).getD j 0 = 0
  | 0, _ => by
    show (List.replicate l (0 : Int)).getD j 0 = 0
    rw [List.getD_eq_getElem?_getD, List.getElem?_replicate]
    split <;> rfl
  | k + 1, h => by
    show ((solFill F hs l k).set (hs.getD k 0) (at2 F k l)).getD j 0 = 0
    rw [List.getD_eq_getElem?_getD, List.getElem?_set_ne (h k (by omega)), ← List.getD_eq_getElem?_getD]
    exact solFill_off k (fun q hq => h q (by omega))
/-- equations: the sums are the numbers; a further column makes the rank no greater exactly if there is a solution -/
theorem solve_law {p : Int} {M : List (List Int)} {want : List Int} (h : matB p M = true) (hw : want.length = M.length) (hv : rowB p want = true) :
    ((solveR p M want).isSome = decide ((elim p (widenM M want) ((M.headD []).length + 1)).2.length = (elim p M (M.headD []).length).2.length)) ∧
    (∀ x, solveR p M want = some x → x.length = (M.headD []).length ∧ ∀ i, i < M.length → sigN (M.headD []).length (fun j => at2 M i j * x.getD j 0) % p = want.getD i 0) := by
  have hp := prime_of_mat h
  have hpb := prime_ge hp
  have hV := VM_of_mat h
  rw [solveR_yes (by unfold okS; rw [h, hv]; simp [hw])]
  obtain ⟨l, hl⟩ : ∃ l, (M.headD []).length = l := ⟨_, rfl⟩
  rw [hl] at hV ⊢
  have hVW := VM.widen hV (rowB_mem hv)
  have hWl := widenM_len hw
  obtain ⟨W, hW⟩ : ∃ W, widenM M want = W := ⟨_, rfl⟩
  have hwa := fun {i : Nat} (hi : i < M.length) => widen_at hV hw hi
  rw [hW] at hVW hWl hwa ⊢
  have hR := elim_red hp hV l (Nat.le_refl _)
  have hRW := elim_red hp hVW l (by omega)
  have hE := fun v => elim_ker hp hV v l (Nat.le_refl _)
  have hEW := fun v => elim_ker hp hVW v l (by omega)
  rw [hWl] at hRW hEW
  have hsame : (elim p W l).2 = (elim p M l).2 := heads_same hp hRW hR fun v => by
    rw [← ker_cut (f := at2 (elim p W l).1) (g := at2 (elim p W l).1) (fun _ _ _ _ => rfl), hEW, hE]
    exact ker_cut fun i hi j hj => (hwa hi).1 j hj
  rcases hf : firstW (elim p W l).1 l ((elim p W l).1.length - (elim p W l).2.length) (elim p W l).2.length with _ | r
  · rw [elim_none hf, solveW_yes hf]
    refine ⟨by rw [hsame]; simp, fun x hx => ?_⟩
    obtain rfl := (Option.some.inj hx).symm
    refine ⟨solFill_len _ _ _ _, fun i hi => ?_⟩
    obtain ⟨i1, i2, i3, _⟩ := elim_inv hp hVW l
    obtain ⟨F, hF⟩ : ∃ F, (elim p W l).1 = F := ⟨_, rfl⟩
    obtain ⟨hs, hHS⟩ : ∃ hs, (elim p W l).2 = hs := ⟨_, rfl⟩
    rw [hF, hHS] at hRW hf
    rw [hF] at hEW i1
    rw [hHS] at i3
    rw [hF, hHS]
    obtain ⟨x, hx⟩ : ∃ x : Nat → Int, x = fun j => (solFill F hs l hs.length).getD j 0 := ⟨_, rfl⟩
    have hxh : ∀ q, q < hs.length → x (hs.getD q 0) = at2 F q l := fun q hq => by rw [hx]; exact solFill_head hRW.lt hRW.inc _ (Nat.le_refl _) q hq
    have hx0 : ∀ j, (∀ q, q < hs.length → hs.getD q 0 ≠ j) → x j = 0 := fun j hj => by rw [hx]; exact solFill_off _ hj
    have hk := (hEW (fun j => if j < l then x j else -1)).1 (fun i hi => by
      show p ∣ sigN l (fun j => at2 F i j * (if j < l then x j else -1)) + at2 F i l * (if l < l then x l else -1)
      rw [if_neg (by omega), sigN_congr (g := fun j => at2 F i j * x j) (fun j hj => by rw [if_pos hj])]
      rw [sigN_heads (fun k => hs.getD k 0) (m := hs.length) hRW.lt hRW.inc (fun j _ hne => by rw [hx0 j hne]; simp)]
      by_cases hi2 : i < hs.length
      · rw [sigN_one hi2 (fun k hk hne => by rw [hRW.one k hk i hi, if_neg (fun e => hne e.symm)]; simp), hRW.one i hi2 i hi, if_pos rfl, hxh i hi2]
        rw [show 1 * at2 F i l + at2 F i l * -1 = 0 by omega]
        exact Int.dvd_zero p
      · rw [sigN_zero (fun k hk => by rw [hRW.one k hk i hi, if_neg (by omega)]; simp), firstW_none hf i (by omega) (by rw [i1]; omega)]
        simp) i hi
    have hk2 : p ∣ sigN l (fun j => at2 W i j * (if j < l then x j else -1)) + at2 W i l * (if l < l then x l else -1) := hk
    rw [if_neg (by omega), sigN_congr (g := fun j => at2 M i j * x j) (fun j hj => by rw [if_pos hj, (hwa hi).1 j hj]), (hwa hi).2] at hk2
    have hb : numB p (want.getD i 0) = true := by
      rw [List.getD_eq_getElem?_getD, List.getElem?_eq_getElem (show i < want.length by omega)]
      exact rowB_mem hv _ (List.getElem_mem _)
    have hb := numB_true hb
    rw [show (fun j => at2 M i j * (solFill F hs l hs.length).getD j 0) = fun j => at2 M i j * x j by rw [hx]]
    have h4 := mod_of_near (p := p) (x := sigN l (fun j => at2 M i j * x j)) (y := want.getD i 0) (by rwa [show sigN l (fun j => at2 M i j * x j) - want.getD i 0 = sigN l (fun j => at2 M i j * x j) + want.getD i 0 * -1 by omega])
    rw [h4]
    exact Int.emod_eq_of_lt hb.2.1 hb.2.2
  · rw [elim_some hf, solveW_no hf]
    refine ⟨?_, fun x hx => by cases hx⟩
    rw [hsame]
    simp
end Go.Proofs.Ytpelokdgjdljfab

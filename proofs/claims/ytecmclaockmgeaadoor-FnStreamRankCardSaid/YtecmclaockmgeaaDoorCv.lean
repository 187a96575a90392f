/-
  Plain mathematics: products of rows of numbers (sums of products with the same sum of places).
-/
import Derived.Test.YtecmclaockmgeaaDoorSig
namespace Go.Proofs.YtecmclaockmgeaaDoor
def cv (F G : Nat → Int) (k : Nat) : Int := sigN (k + 1) (fun j => F j * G (k - j))
theorem sigN_trunc {f : Nat → Int} {n : Nat} : ∀ {m : Nat}, n ≤ m → (∀ k, n ≤ k → k < m → f k = 0) → sigN m f = sigN n f
  | 0, h, _ => by obtain rfl : n = 0 := by omega
                  rfl
  | m + 1, h, hz => by
    by_cases e : n = m + 1
    · rw [e]
    · show sigN m f + f m = _
      rw [sigN_trunc (by omega) (fun k h1 h2 => hz k h1 (by omega)), hz m (by omega) (by omega)]; omega
theorem cv_big (F G : Nat → Int) {k N : Nat} (h : k < N) : cv F G k = sigN N (fun a => sigN N (fun b => if a + b = k then F a * G b else 0)) := by
  rw [sigN_trunc (n := k + 1) (m := N) (by omega) (fun a h1 h2 => sigN_zero fun b hb => if_neg (by omega))]
  refine sigN_congr fun a ha => ?_
  rw [sigN_one (c := k - a) (by omega) (fun b hb hne => if_neg (by omega)), if_pos (by omega)]
theorem cv_comm (F G : Nat → Int) (k : Nat) : cv F G k = cv G F k := by
  rw [cv_big F G (Nat.lt_succ_self k), cv_big G F (Nat.lt_succ_self k), sigN_swap]
  refine sigN_congr fun a _ => sigN_congr fun b _ => ?_
  by_cases e : a + b = k
  · rw [if_pos (show b + a = k by omega), if_pos e, Int.mul_comm]
  · rw [if_neg (show ¬ b + a = k by omega), if_neg e]
theorem cv_assoc (F G H : Nat → Int) (k : Nat) : cv (cv F G) H k = cv F (cv G H) k := by
  have hN : k < k + 1 := Nat.lt_succ_self k
  have L : cv (cv F G) H k = sigN (k + 1) (fun a => sigN (k + 1) (fun b => sigN (k + 1) (fun c => if a + b + c = k then F a * G b * H c else 0))) := by
    rw [cv_big _ _ hN]
    rw [sigN_congr (g := fun s => sigN (k + 1) (fun c => sigN (k + 1) (fun a => sigN (k + 1) (fun b => if a + b = s ∧ s + c = k then F a * G b * H c else 0)))) (fun s hs => sigN_congr fun c _ => by
      by_cases e : s + c = k
      · rw [if_pos e, cv_big F G hs, ← sigN_mulr]
        refine sigN_congr fun a _ => ?_
        rw [← sigN_mulr]
        refine sigN_congr fun b _ => ?_
        by_cases e2 : a + b = s
        · rw [if_pos e2, if_pos ⟨e2, e⟩]
        · rw [if_neg e2, if_neg (fun h => e2 h.1), Int.zero_mul]
      · rw [if_neg e]
        exact (sigN_zero fun a _ => sigN_zero fun b _ => if_neg fun h => e h.2).symm)]
    rw [sigN_congr (g := fun s => sigN (k + 1) (fun a => sigN (k + 1) (fun c => sigN (k + 1) (fun b => if a + b = s ∧ s + c = k then F a * G b * H c else 0)))) (fun s _ => sigN_swap _ _ _), sigN_swap]
    refine sigN_congr fun a ha => ?_
    rw [sigN_congr (g := fun s => sigN (k + 1) (fun b => sigN (k + 1) (fun c => if a + b = s ∧ s + c = k then F a * G b * H c else 0))) (fun s _ => sigN_swap _ _ _), sigN_swap]
    refine sigN_congr fun b hb => ?_
    rw [sigN_swap]
    refine sigN_congr fun c _ => ?_
    by_cases e : a + b + c = k
    · rw [if_pos e, sigN_one (c := a + b) (by omega) (fun s _ hne => if_neg fun h => hne h.1.symm), if_pos ⟨rfl, e⟩]
    · rw [if_neg e]
      exact sigN_zero fun s _ => if_neg fun h => e (by omega)
  have R : cv F (cv G H) k = sigN (k + 1) (fun a => sigN (k + 1) (fun b => sigN (k + 1) (fun c => if a + b + c = k then F a * G b * H c else 0))) := by
    rw [cv_big _ _ hN]
    refine sigN_congr fun a ha => ?_
    rw [sigN_congr (g := fun s => sigN (k + 1) (fun b => sigN (k + 1) (fun c => if b + c = s ∧ a + s = k then F a * G b * H c else 0))) (fun s hs => by
      by_cases e : a + s = k
      · rw [if_pos e, cv_big G H hs, ← sigN_mul]
        refine sigN_congr fun b _ => ?_
        rw [← sigN_mul]
        refine sigN_congr fun c _ => ?_
        by_cases e2 : b + c = s
        · rw [if_pos e2, if_pos ⟨e2, e⟩, Int.mul_assoc]
        · rw [if_neg e2, if_neg (fun h => e2 h.1), Int.mul_zero]
      · rw [if_neg e]
        exact (sigN_zero fun b _ => sigN_zero fun c _ => if_neg fun h => e h.2).symm), sigN_swap]
    refine sigN_congr fun b hb => ?_
    rw [sigN_swap]
    refine sigN_congr fun c _ => ?_
    by_cases e : a + b + c = k
    · rw [if_pos e, sigN_one (c := b + c) (by omega) (fun s _ hne => if_neg fun h => hne h.1.symm), if_pos ⟨rfl, by omega⟩]
    · rw [if_neg e]
      exact sigN_zero fun s _ => if_neg fun h => e (by omega)
  rw [L, R]
theorem cv_addl (F G H : Nat → Int) (k : Nat) : cv (fun j => F j + G j) H k = cv F H k + cv G H k := by
  unfold cv; rw [← sigN_add]; exact sigN_congr fun j _ => Int.add_mul _ _ _
theorem cv_mull (c : Int) (F H : Nat → Int) (k : Nat) : cv (fun j => c * F j) H k = c * cv F H k := by
  unfold cv; rw [← sigN_mul]; exact sigN_congr fun j _ => Int.mul_assoc _ _ _
theorem cv_near {p : Int} {F F' G G' : Nat → Int} (k : Nat) (h : ∀ j, j ≤ k → p ∣ F j - F' j) (h' : ∀ j, j ≤ k → p ∣ G j - G' j) : p ∣ cv F G k - cv F' G' k := by
  refine sigN_near fun j hj => ?_
  have h1 := h j (by omega)
  have h2 := h' (k - j) (by omega)
  rw [show F j * G (k - j) - F' j * G' (k - j) = (F j - F' j) * G (k - j) + F' j * (G (k - j) - G' (k - j)) by grind]
  exact Int.dvd_add (dvd_mulR h1 _) (dvd_mulL h2 _)
def unitF : Nat → Int := fun k => if k = 0 then 1 else 0
theorem cv_unit (F : Nat → Int) (k : Nat) : cv unitF F k = F k := by
  unfold cv
  rw [sigN_one (c := 0) (by omega) (fun j _ hne => by unfold unitF; rw [if_neg hne]; simp)]
  unfold unitF; rw [if_pos rfl]; simp
/-- products of short rows are short -/
theorem cv_far {F G : Nat → Int} {n m : Nat} (hF : ∀ k, n ≤ k → F k = 0) (hG : ∀ k, m ≤ k → G k = 0) {k : Nat} (h : n + m ≤ k + 1) : cv F G k = 0 :=
  sigN_zero fun j hj => by
    by_cases e : n ≤ j
    · rw [hF j e]; simp
    · rw [hG (k - j) (by omega)]; simp
theorem cv_top {F G : Nat → Int} {n m : Nat} (hF : ∀ k, n < k → F k = 0) (hG : ∀ k, m < k → G k = 0) : cv F G (n + m) = F n * G m := by
  unfold cv
  rw [sigN_one (c := n) (by omega) (fun j _ hne => by
    by_cases e : n < j
    · rw [hF j e]; simp
    · rw [hG (n + m - j) (by omega)]; simp)]
  rw [show n + m - n = m by omega]
/-- values -/
def ev (F : Nat → Int) (x : Int) (n : Nat) : Int := sigN n (fun k => F k * x ^ k)
theorem ev_trunc {F : Nat → Int} {x : Int} {n m : Nat} (h : n ≤ m) (hF : ∀ k, n ≤ k → F k = 0) : ev F x m = ev F x n := sigN_trunc h fun k h1 _ => by rw [hF k h1]; simp
theorem ev_cv {F G : Nat → Int} {n m : Nat} (hF : ∀ k, n ≤ k → F k = 0) (hG : ∀ k, m ≤ k → G k = 0) (x : Int) : ev (cv F G) x (n + m) = ev F x n * ev G x m := by
  have e0 : ev F x n = ev F x (n + m) := (ev_trunc (by omega) hF).symm
  have e1 : ev G x m = ev G x (n + m) := (ev_trunc (by omega) hG).symm
  rw [e0, e1]
  unfold ev
  rw [sigN_congr (g := fun k => sigN (n + m) (fun a => sigN (n + m) (fun b => if a + b = k then F a * G b * x ^ k else 0))) (fun k hk => by
    rw [cv_big F G hk, ← sigN_mulr]
    refine sigN_congr fun a _ => ?_
    rw [← sigN_mulr]
    refine sigN_congr fun b _ => ?_
    split
    · rfl
    · rw [Int.zero_mul]), sigN_swap, ← sigN_mulr]
  refine sigN_congr fun a ha => ?_
  rw [sigN_swap, ← sigN_mul]
  refine sigN_congr fun b hb => ?_
  by_cases e : a + b < n + m
  · rw [sigN_one (c := a + b) e (fun k _ hne => if_neg fun h => hne h.symm), if_pos rfl, Int.pow_add]
    grind
  · rw [sigN_zero fun k hk => if_neg (by omega)]
    by_cases e2 : n ≤ a
    · rw [hF a e2]; simp
    · rw [hG b (by omega)]; simp
theorem ev_add (F G : Nat → Int) (x : Int) (n : Nat) : ev (fun k => F k + G k) x n = ev F x n + ev G x n := by
  unfold ev; rw [← sigN_add]; exact sigN_congr fun k _ => Int.add_mul _ _ _
theorem ev_near {p : Int} {F G : Nat → Int} {x : Int} {n : Nat} (h : ∀ k, k < n → p ∣ F k - G k) : p ∣ ev F x n - ev G x n := sigN_near fun k hk => by rw [← Int.sub_mul]; exact dvd_mulR (h k hk) _
end Go.Proofs.YtecmclaockmgeaaDoor

/-
  Plain mathematics: the determinant by its first column; what each function of its kind does.
-/
import Derived.Test.YtpelokdgjdljfacLin6
namespace Go.Proofs.Ytpelokdgjdljfac
def sgn (i : Nat) : Int := if i % 2 = 0 then 1 else -1
theorem sgn_succ (i : Nat) : sgn (i + 1) = -sgn i := by
  unfold sgn
  by_cases h : i % 2 = 0
  · rw [if_pos h, if_neg (by omega)]
  · rw [if_neg h, if_pos (by omega)]; rfl
def up (i a : Nat) : Nat := if a < i then a else a + 1
def minor (f : Nat → Nat → Int) (i : Nat) : Nat → Nat → Int := fun a b => f (up i a) (b + 1)
def dt : Nat → (Nat → Nat → Int) → Int
  | 0, _ => 1
  | n + 1, f => sigN (n + 1) (fun i => sgn i * f i 0 * dt n (minor f i))
def upd (f : Nat → Nat → Int) (i : Nat) (x : Nat → Int) : Nat → Nat → Int := fun a b => if a = i then x b else f a b
theorem upd_self (f : Nat → Nat → Int) (i : Nat) (x : Nat → Int) : upd f i x i = x := by funext b; unfold upd; rw [if_pos rfl]
theorem upd_ne (f : Nat → Nat → Int) {i a : Nat} (x : Nat → Int) (h : a ≠ i) : upd f i x a = f a := by funext b; unfold upd; rw [if_neg h]
theorem upd_id (f : Nat → Nat → Int) (i : Nat) : upd f i (f i) = f := by
  funext a b; unfold upd; split
  · rename_i h; rw [h]
  · rfl
theorem upd_upd (f : Nat → Nat → Int) (i : Nat) (x y : Nat → Int) : upd (upd f i x) i y = upd f i y := by
  funext a b; unfold upd; split
  · rfl
  · rfl
theorem upd_comm (f : Nat → Nat → Int) {i j : Nat} (x y : Nat → Int) (h : i ≠ j) : upd (upd f i x) j y = upd (upd f j y) i x := by
  funext a b; unfold upd
  by_cases h1 : a = j
  · rw [if_pos h1, if_neg (by omega), if_pos h1]
  · rw [if_neg h1]
    by_cases h2 : a = i
    · rw [if_pos h2, if_pos h2]
    · rw [if_neg h2, if_neg h2, if_neg h1]
theorem up_lt {i a n : Nat} (ha : a < n) : up i a < n + 1 := by unfold up; split <;> omega
theorem up_ne (i a : Nat) : up i a ≠ i := by unfold up; split <;> omega
theorem dt_near {p : Int} : ∀ (n : Nat) (f g : Nat → Nat → Int), (∀ i, i < n → ∀ j, j < n → p ∣ f i j - g i j) → p ∣ dt n f - dt n g
  | 0, _, _, _ => by simp [dt]
  | n + 1, f, g, h => by
    refine sigN_near fun k hk => ?_
    have h1 := h k hk 0 (by omega)
    have h2 := dt_near n (minor f k) (minor g k) (fun i hi j hj => h _ (up_lt hi) _ (by omega))
    obtain ⟨x, hx⟩ : ∃ x, dt n (minor f k) = x := ⟨_, rfl⟩
    obtain ⟨y, hy⟩ : ∃ y, dt n (minor g k) = y := ⟨_, rfl⟩
    rw [hx, hy] at h2 ⊢
    rw [show sgn k * f k 0 * x - sgn k * g k 0 * y = sgn k * x * (f k 0 - g k 0) + sgn k * g k 0 * (x - y) by grind]
    exact Int.dvd_add (dvd_mulL h1 _) (dvd_mulL h2 _)
theorem dt_congr : ∀ (n : Nat) (f g : Nat → Nat → Int), (∀ i, i < n → ∀ j, j < n → f i j = g i j) → dt n f = dt n g
  | 0, _, _, _ => rfl
  | n + 1, f, g, h => sigN_congr fun k hk => by rw [h k hk 0 (by omega), dt_congr n (minor f k) (minor g k) (fun i hi j hj => h _ (up_lt hi) _ (by omega))]
theorem minor_upd_eq (f : Nat → Nat → Int) (i : Nat) (x : Nat → Int) : minor (upd f i x) i = minor f i := by
  funext a b; show (if up i a = i then x (b + 1) else f (up i a) (b + 1)) = _
  rw [if_neg (up_ne i a)]; rfl
theorem minor_upd_ne (f : Nat → Nat → Int) {i k : Nat} (x : Nat → Int) (h : k ≠ i) : minor (upd f i x) k = upd (minor f k) (if k < i then i - 1 else i) (fun b => x (b + 1)) := by
  funext a b
  show (if up k a = i then x (b + 1) else f (up k a) (b + 1)) = if a = (if k < i then i - 1 else i) then x (b + 1) else f (up k a) (b + 1)
  have e : up k a = i ↔ a = (if k < i then i - 1 else i) := by
    unfold up
    split <;> split <;> omega
  by_cases h1 : up k a = i
  · rw [if_pos h1, if_pos (e.1 h1)]
  · rw [if_neg h1, if_neg (fun h2 => h1 (e.2 h2))]
theorem dt_lin : ∀ (n : Nat) (f : Nat → Nat → Int) (i : Nat) (c : Int) (x y : Nat → Int), i < n → dt n (upd f i (fun b => c * x b + y b)) = c * dt n (upd f i x) + dt n (upd f i y)
  | 0, _, _, _, _, _, h => absurd h (by omega)
  | n + 1, f, i, c, x, y, h => by
    show sigN (n + 1) _ = c * sigN (n + 1) _ + sigN (n + 1) _
    rw [← sigN_mul, ← sigN_add]
    refine sigN_congr fun k hk => ?_
    by_cases e : k = i
    · subst e
      rw [minor_upd_eq, minor_upd_eq, minor_upd_eq, upd_self, upd_self, upd_self]
      grind
    · rw [minor_upd_ne f _ e, minor_upd_ne f _ e, minor_upd_ne f _ e, upd_ne f _ e, upd_ne f _ e, upd_ne f _ e]
      have := dt_lin n (minor f k) (if k < i then i - 1 else i) c (fun b => x (b + 1)) (fun b => y (b + 1)) (by split <;> omega)
      rw [this]
      grind
theorem dt_adj : ∀ (n : Nat) (f : Nat → Nat → Int) (k : Nat), k + 1 < n → (∀ b, b < n → f k b = f (k + 1) b) → dt n f = 0
  | 0, _, _, h, _ => absurd h (by omega)
  | n + 1, f, k, h, he => by
    show sigN (n + 1) _ = 0
    rw [sigN_two (c := k) (d := k + 1) (by omega) (by omega) h (fun i hi h1 h2 => ?_)]
    · rw [sgn_succ, he 0 (by omega), dt_congr n (minor f k) (minor f (k + 1)) (fun a ha b hb => ?_)]
      · grind
      · show f (up k a) (b + 1) = f (up (k + 1) a) (b + 1)
        unfold up
        by_cases h1 : a < k
        · rw [if_pos h1, if_pos (by omega)]
        · rw [if_neg h1]
          by_cases h2 : a = k
          · subst h2; rw [if_pos (by omega)]; exact (he (b + 1) (by omega)).symm
          · rw [if_neg (by omega)]
    · rw [dt_adj n (minor f i) (if i < k then k - 1 else k) (by split <;> omega) (fun b hb => ?_)]
      · simp
      · show f (up i _) (b + 1) = f (up i _) (b + 1)
        have e1 : up i (if i < k then k - 1 else k) = k := by unfold up; split <;> split <;> omega
        have e2 : up i ((if i < k then k - 1 else k) + 1) = k + 1 := by unfold up; split <;> split <;> omega
        rw [e1, e2]
        exact he (b + 1) (by omega)
def idF : Nat → Nat → Int := fun i j => if i = j then 1 else 0
theorem dt_one : ∀ n, dt n idF = 1
  | 0 => rfl
  | n + 1 => by
    show sigN (n + 1) _ = 1
    rw [sigN_one (c := 0) (by omega) (fun k hk hne => by unfold idF; rw [if_neg hne]; simp)]
    have e : ∀ a b, minor idF 0 a b = idF a b := fun a b => by
      show idF (up 0 a) (b + 1) = idF a b
      rw [show up 0 a = a + 1 by unfold up; rw [if_neg (by omega)]]
      unfold idF
      by_cases e : a = b
      · rw [if_pos e, if_pos (by omega)]
      · rw [if_neg e, if_neg (by omega)]
    rw [dt_congr n (minor idF 0) idF (fun a _ b _ => e a b), dt_one n]
    rfl
def updc (f : Nat → Nat → Int) (j : Nat) (x : Nat → Int) : Nat → Nat → Int := fun a b => if b = j then x a else f a b
theorem minor_updc_zero (f : Nat → Nat → Int) (x : Nat → Int) (i : Nat) : minor (updc f 0 x) i = minor f i := by
  funext a b; show (if b + 1 = 0 then x (up i a) else f (up i a) (b + 1)) = f (up i a) (b + 1); rw [if_neg (by omega)]
theorem minor_updc_succ (f : Nat → Nat → Int) (x : Nat → Int) (i j : Nat) : minor (updc f (j + 1) x) i = updc (minor f i) j (fun a => x (up i a)) := by
  funext a b
  show (if b + 1 = j + 1 then x (up i a) else f (up i a) (b + 1)) = if b = j then x (up i a) else f (up i a) (b + 1)
  by_cases e : b = j
  · rw [if_pos e, if_pos (by omega)]
  · rw [if_neg e, if_neg (by omega)]
theorem dt_linc : ∀ (n : Nat) (f : Nat → Nat → Int) (j : Nat) (c : Int) (x y : Nat → Int), j < n → dt n (updc f j (fun a => c * x a + y a)) = c * dt n (updc f j x) + dt n (updc f j y)
  | 0, _, _, _, _, _, h => absurd h (by omega)
  | n + 1, f, 0, c, x, y, h => by
    show sigN (n + 1) _ = c * sigN (n + 1) _ + sigN (n + 1) _
    rw [← sigN_mul, ← sigN_add]
    refine sigN_congr fun k hk => ?_
    rw [minor_updc_zero, minor_updc_zero, minor_updc_zero]
    have e : ∀ z : Nat → Int, updc f 0 z k 0 = z k := fun z => by unfold updc; rw [if_pos rfl]
    rw [e, e, e]
    grind
  | n + 1, f, j + 1, c, x, y, h => by
    show sigN (n + 1) _ = c * sigN (n + 1) _ + sigN (n + 1) _
    rw [← sigN_mul, ← sigN_add]
    refine sigN_congr fun k hk => ?_
    have e : ∀ z : Nat → Int, updc f (j + 1) z k 0 = f k 0 := fun z => by unfold updc; rw [if_neg (by omega)]
    rw [e, e, e, minor_updc_succ, minor_updc_succ, minor_updc_succ]
    have := dt_linc n (minor f k) j c (fun a => x (up k a)) (fun a => y (up k a)) (by omega)
    rw [this]
    grind
/-- a function of matrices that is a sum in each row, and 0 if two rows behind each other are the same -/
structure Alt (p : Int) (n : Nat) (g : (Nat → Nat → Int) → Int) : Prop where
  near : ∀ f f', (∀ i, i < n → ∀ j, j < n → p ∣ f i j - f' i j) → p ∣ g f - g f'
  lin : ∀ f i (c : Int) (x y : Nat → Int), i < n → p ∣ g (upd f i (fun b => c * x b + y b)) - (c * g (upd f i x) + g (upd f i y))
  adj : ∀ f k, k + 1 < n → (∀ b, b < n → f k b = f (k + 1) b) → p ∣ g f
theorem alt_dt (p : Int) (n : Nat) : Alt p n (dt n) := ⟨dt_near n, fun f i c x y h => by rw [dt_lin n f i c x y h, Int.sub_self]; exact Int.dvd_zero p, fun f k h he => by rw [dt_adj n f k h he]; exact Int.dvd_zero p⟩
def swF (f : Nat → Nat → Int) (i j : Nat) : Nat → Nat → Int := upd (upd f i (f j)) j (f i)
theorem Alt.swap_of {p : Int} {n : Nat} {g : (Nat → Nat → Int) → Int} (hg : Alt p n g) {i j : Nat} (hij : i ≠ j) (hi : i < n) (hj : j < n) (ha : ∀ f, (∀ b, b < n → f i b = f j b) → p ∣ g f) (f : Nat → Nat → Int) : p ∣ g f + g (swF f i j) := by
  have A : ∀ x y, p ∣ g (upd (upd f i x) j y) + g (upd (upd f i y) j x) := by
    intro x y
    have h0 := ha (upd (upd f i (fun b => 1 * x b + y b)) j (fun b => 1 * x b + y b)) (fun b _ => by rw [upd_self, upd_ne _ _ hij, upd_self])
    have h1 := hg.lin (upd f i (fun b => 1 * x b + y b)) j 1 x y hj
    have h2 := hg.lin (upd f j x) i 1 x y hi
    have h3 := hg.lin (upd f j y) i 1 x y hi
    rw [upd_comm f x _ (fun e => hij e.symm), upd_comm f x _ (fun e => hij e.symm), upd_comm f x _ (fun e => hij e.symm)] at h2
    rw [upd_comm f y _ (fun e => hij e.symm), upd_comm f y _ (fun e => hij e.symm), upd_comm f y _ (fun e => hij e.symm)] at h3
    have h4 := ha (upd (upd f i x) j x) (fun b _ => by rw [upd_self, upd_ne _ _ hij, upd_self])
    have h5 := ha (upd (upd f i y) j y) (fun b _ => by rw [upd_self, upd_ne _ _ hij, upd_self])
    have h6 := (near_move h1).1 h0
    have h7 := Int.dvd_sub (Int.dvd_sub (Int.dvd_sub (Int.dvd_sub h6 h2) h3) h4) h5
    generalize g (upd (upd f i (fun b => 1 * x b + y b)) j x) = a at h7
    generalize g (upd (upd f i (fun b => 1 * x b + y b)) j y) = b at h7
    generalize g (upd (upd f i x) j x) = c at h7
    generalize g (upd (upd f i y) j y) = d at h7
    generalize g (upd (upd f i x) j y) = u at h7 ⊢
    generalize g (upd (upd f i y) j x) = v at h7 ⊢
    rwa [show 1 * a + b - (a - (1 * c + v)) - (b - (1 * u + d)) - c - d = u + v by omega] at h7
  have := A (f i) (f j)
  rw [upd_id, upd_id] at this
  exact this
theorem Alt.alt {p : Int} {n : Nat} {g : (Nat → Nat → Int) → Int} (hg : Alt p n g) : ∀ (d a : Nat), a + d + 1 < n → ∀ f, (∀ b, b < n → f a b = f (a + d + 1) b) → p ∣ g f
  | 0, a, h, f, he => hg.adj f a h he
  | d + 1, a, h, f, he => by
    have h1 := hg.swap_of (i := a + d + 1) (j := a + d + 2) (by omega) (by omega) h (fun f' h' => hg.adj f' (a + d + 1) (by omega) h') f
    have h2 := Alt.alt hg d a (by omega) (swF f (a + d + 1) (a + d + 2)) (fun b hb => by
      unfold swF
      rw [upd_ne _ _ (by omega), upd_ne _ _ (by omega), upd_ne _ _ (by omega), upd_self]
      exact he b hb)
    have h3 := Int.dvd_sub h1 h2
    rwa [Int.add_sub_cancel] at h3
theorem Alt.same {p : Int} {n : Nat} {g : (Nat → Nat → Int) → Int} (hg : Alt p n g) {i j : Nat} (hij : i ≠ j) (hi : i < n) (hj : j < n) (f : Nat → Nat → Int) (he : ∀ b, b < n → f i b = f j b) : p ∣ g f := by
  rcases Nat.lt_or_gt_of_ne hij with h | h
  · refine hg.alt (j - i - 1) i (by omega) f (fun b hb => ?_)
    rw [he b hb, show i + (j - i - 1) + 1 = j by omega]
  · refine hg.alt (i - j - 1) j (by omega) f (fun b hb => ?_)
    rw [← he b hb, show j + (i - j - 1) + 1 = i by omega]
theorem Alt.swap {p : Int} {n : Nat} {g : (Nat → Nat → Int) → Int} (hg : Alt p n g) {i j : Nat} (hij : i ≠ j) (hi : i < n) (hj : j < n) (f : Nat → Nat → Int) : p ∣ g f + g (swF f i j) := hg.swap_of hij hi hj (fun f' h' => hg.same hij hi hj f' h') f
theorem Alt.rowop {p : Int} {n : Nat} {g : (Nat → Nat → Int) → Int} (hg : Alt p n g) {i j : Nat} (hij : i ≠ j) (hi : i < n) (hj : j < n) (t : Int) (f : Nat → Nat → Int) : p ∣ g (upd f i (fun b => t * f j b + f i b)) - g f := by
  have h1 := hg.lin f i t (f j) (f i) hi
  have h2 := hg.same hij hi hj (upd f i (f j)) (fun b _ => by rw [upd_self, upd_ne _ _ (fun e => hij e.symm)])
  rw [upd_id] at h1
  have h3 := Int.dvd_add h1 (dvd_mulL h2 t)
  rwa [show g (upd f i fun b => t * f j b + f i b) - (t * g (upd f i (f j)) + g f) + t * g (upd f i (f j)) = g (upd f i fun b => t * f j b + f i b) - g f by omega] at h3
theorem Alt.zero {p : Int} {n : Nat} {g : (Nat → Nat → Int) → Int} (hg : Alt p n g) {i : Nat} (hi : i < n) (f : Nat → Nat → Int) (h : ∀ b, b < n → p ∣ f i b) : p ∣ g f := by
  have h1 := hg.lin f i 1 (fun _ => 0) (fun _ => 0) hi
  have h2 := hg.near f (upd f i (fun _ => 0)) (fun a ha b hb => by
    by_cases e : a = i
    · subst e; rw [upd_self]; simpa using h b hb
    · rw [upd_ne _ _ e, Int.sub_self]; exact Int.dvd_zero p)
  have e : (fun b : Nat => (1 : Int) * (fun _ => (0 : Int)) b + (fun _ => (0 : Int)) b) = fun _ => 0 := by funext b; rfl
  rw [e] at h1
  have h3 : p ∣ g (upd f i (fun _ => 0)) := by
    have := Int.dvd_neg.2 h1
    rwa [show -(g (upd f i fun _ => 0) - (1 * g (upd f i fun _ => 0) + g (upd f i fun _ => 0))) = g (upd f i fun _ => 0) by omega] at this
  exact (near_move h2).2 h3
/-- rows, one of them once, whose sum is 0 -/
theorem Alt.depend {p : Int} {n : Nat} {g : (Nat → Nat → Int) → Int} (hg : Alt p n g) {c : Nat} (hc : c < n) (f : Nat → Nat → Int) (v : Nat → Int) (hv : v c = 1) (h : ∀ j, j < n → p ∣ sigN n (fun i => v i * f i j)) : p ∣ g f := by
  have A : ∀ m, m ≤ n → p ∣ g (upd f c (fun b => f c b + sigN m (fun i => if i = c then 0 else v i * f i b))) - g f := by
    intro m
    induction m with
    | zero =>
      intro _
      have e : (fun b => f c b + sigN 0 (fun i => if i = c then 0 else v i * f i b)) = f c := by funext b; show f c b + 0 = _; omega
      rw [e, upd_id, Int.sub_self]
      exact Int.dvd_zero p
    | succ m ih =>
      intro hm
      have h1 := ih (by omega)
      by_cases e : m = c
      · have e2 : (fun b => f c b + sigN (m + 1) (fun i => if i = c then 0 else v i * f i b)) = fun b => f c b + sigN m (fun i => if i = c then 0 else v i * f i b) := by
          funext b; show f c b + (sigN m _ + (if m = c then 0 else v m * f m b)) = _
          rw [if_pos e]; omega
        rw [e2]; exact h1
      · have h2 := hg.rowop (i := c) (j := m) (fun e' => e e'.symm) hc (by omega) (v m) (upd f c (fun b => f c b + sigN m (fun i => if i = c then 0 else v i * f i b)))
        rw [upd_upd, upd_self, upd_ne _ _ e] at h2
        have e2 : (fun b => f c b + sigN (m + 1) (fun i => if i = c then 0 else v i * f i b)) = fun b => v m * f m b + (f c b + sigN m (fun i => if i = c then 0 else v i * f i b)) := by
          funext b; show f c b + (sigN m _ + (if m = c then 0 else v m * f m b)) = _
          rw [if_neg e]; omega
        rw [e2]
        exact near_trans h2 h1
  have h1 := A n (Nat.le_refl _)
  refine (near_move h1).1 (hg.zero hc _ fun b hb => ?_)
  rw [upd_self]
  have h2 := h b hb
  rw [sigN_plus hc, hv, Int.one_mul] at h2
  exact h2
/-- columns, one of them once, whose sum is 0 -/
theorem Alt.dependc {p : Int} (hp : primeB p = true) {n : Nat} {g : (Nat → Nat → Int) → Int} (hg : Alt p n g) {c : Nat} (hc : c < n) (f : Nat → Nat → Int) (v : Nat → Int) (hv : v c = 1) (h : Ker p n n f v) : p ∣ g f := by
  have hpb := prime_ge hp
  have hV := mk2_VM hp n n f
  have hl := mk2_len p n n f
  have hR := elim_red hp hV n (Nat.le_refl _)
  rw [hl] at hR
  have hlt : (elim p (mk2 p n n f) n).2.length < n := by
    refine Classical.byContradiction fun hno => ?_
    have hle := hR.le
    have hk : Ker p n n (at2 (elim p (mk2 p n n f) n).1) v := by
      have := elim_ker hp hV v n (Nat.le_refl _)
      rw [hl] at this
      refine this.2 fun i hi => ?_
      refine (near_move (sigN_near (f := fun j => at2 (mk2 p n n f) i j * v j) (g := fun j => f i j * v j) fun j hj => ?_)).2 (h i hi)
      rw [mk2_at hi hj, ← Int.sub_mul]
      exact dvd_mulR (near_mod _ _) _
    have hall : ∀ x, x < n → x ∈ (elim p (mk2 p n n f) n).2 := fun x hx => by
      refine Classical.byContradiction fun hm => ?_
      have h1 : ∀ y ∈ (elim p (mk2 p n n f) n).2, y < n := hR.bound
      have h2 := frees_len hR
      have h3 : x ∈ frees (elim p (mk2 p n n f) n).2 n := by
        unfold frees; rw [List.mem_filter]; exact ⟨List.mem_range.2 hx, by simpa using hm⟩
      have := List.length_pos_of_mem h3
      omega
    obtain ⟨q, hq, hqc⟩ := mem_getD (hall c hc)
    have h1 := hk q (by omega)
    rw [sigN_one hc (fun j hj hne => ?_), ← hqc, hR.one q hq q (by omega), if_pos rfl, hqc, hv] at h1
    · have := Int.le_of_dvd (by omega) h1
      omega
    · obtain ⟨q', hq', hqj⟩ := mem_getD (hall j hj)
      have hne' : q ≠ q' := fun e => hne (by rw [← hqj, ← e, hqc])
      rw [← hqj, hR.one q' hq' q (by omega), if_neg hne']; simp
  obtain ⟨X, Y, hf⟩ := Fac.elim hp hV
  rw [hl] at hf
  obtain ⟨u, ⟨d, hd, hu1⟩, hu⟩ := pigeon hp hlt (fun k i => X i k)
  refine (near_move (hg.near f (at2 (mk2 p n n f)) fun i hi j hj => by rw [mk2_at hi hj]; exact near_symm (near_mod _ _))).2 ?_
  refine hg.depend hd _ u hu1 fun j hj => ?_
  refine (near_move (sigN_near (f := fun i => u i * at2 (mk2 p n n f) i j) (g := fun i => u i * sigN (elim p (mk2 p n n f) n).2.length (fun k => X i k * Y k j)) fun i hi => by rw [← Int.mul_sub]; exact dvd_mulL (hf i hi j hj) _)).2 ?_
  rw [sigN_congr (g := fun i => sigN (elim p (mk2 p n n f) n).2.length (fun k => X i k * u i * Y k j)) (fun i _ => by rw [← sigN_mul]; exact sigN_congr fun k _ => by grind), sigN_swap]
  refine sigN_dvd fun k hk => ?_
  rw [sigN_mulr]
  exact dvd_mulR (hu k hk) _
end Go.Proofs.Ytpelokdgjdljfac

/-
  The contract of the program's MatTurn.
  Products of matrices: what they are, and the contracts of sumOfProducts and of l1Times.
  The contract of the program's MatTimes.
  The contract of the model's MatTimes.
  The contract of the model's MatTimes, whole.
-/
import Derived.Test.YtdecaokngedghaaTurnS
import Derived.StillTailTactics
import Derived.Test.YtdecaokngedghaaRowV
import Derived.Test.YtdecaokngedghaaTail
namespace Go.Proofs.Ytdecaokngedghaa
open Go.RowKit
theorem Half.congr {w : World} {B n k : Nat} {M M' : List (List Int)} {vs : List Value} (h : Half w B n k M vs) (he : ∀ r, r < k → M'[r]? = M[r]?) : Half w B n k M' vs :=
  ⟨h.out, h.vlen, fun r row hr hrow => h.row r row hr (by rw [← he r hr]; exact hrow), h.apart⟩
theorem Half.setRow {w w' : World} {B n k : Nat} {M : List (List Int)} {vs : List Value} (h : Half w B n k M vs) {r : Nat} {row new : List Int} {A' : Option Addr} {c' : Nat} (hrk : r < k) (hr : M[r]? = some row) (hv : vs[r]? = some (Value.slice A' row.length c'))
    (hl : new.length = row.length) (hI : OI w' (B + 1) A' row.length c' new) (k' : Keep (fun g => (Value.slice A' row.length c').ownBlock = some g) w w') : Half w' B n k (M.set r new) vs := by
  have hlt : r < M.length := (List.getElem?_eq_some_iff.1 hr).1
  obtain ⟨A1, c1, hv1, hI1⟩ := h.row r row hrk hr
  rw [hv] at hv1
  simp only [Option.some.injEq, Value.slice.injEq, true_and] at hv1
  obtain ⟨rfl, rfl⟩ := hv1
  refine ⟨owns_keep h.out k' (fun g hg hs => ?_), h.vlen, fun s row' hsk hs => ?_, h.apart⟩
  · have := (hI1.lt g hs).1
    simp [Value.ownBlock] at hg; omega
  · by_cases e : s = r
    · subst e
      rw [List.getElem?_set_self hlt] at hs
      obtain rfl := Option.some.inj hs
      exact ⟨A', c', by rw [hl]; exact hv, by rw [hl]; exact hI⟩
    · rw [List.getElem?_set_ne (fun e' => e e'.symm)] at hs
      obtain ⟨A2, c2, h1, h2⟩ := h.row s row' hsk hs
      refine ⟨A2, c2, h1, owns_keep h2 k' (fun g hg hs' => ?_)⟩
      rcases Nat.lt_or_gt_of_ne e with hlt' | hlt'
      · rcases h.apart s r _ _ hlt' h1 hv with h3 | h3
        · rw [h3] at hg; simp at hg
        · exact h3 (hg.trans hs'.symm)
      · rcases h.apart r s _ _ hlt' hv h1 with h3 | h3
        · rw [h3] at hs'; simp at hs'
        · exact h3 (hs'.trans hg.symm)
theorem Half.drew {w : World} {B n k : Nat} {M : List (List Int)} {vs : List Value} (h : Half w B n k M vs) : Half w.drew B n k M vs := ⟨h.out, h.vlen, h.row, h.apart⟩
/-- a column as far as it is written -/
def partR (xs : List Int) (n i : Nat) : List Int := xs.take i ++ List.replicate (n - i) 0
theorem partR_len (xs : List Int) (n i : Nat) (h : xs.length = n) (hi : i ≤ n) : (partR xs n i).length = n := by simp [partR]; omega
theorem partR_set {xs : List Int} {k n : Nat} {x : Int} (hk : k < n) (hl : xs.length = n) (hx : xs[k]? = some x) : (partR xs n k).set k x = partR xs n (k + 1) := by
  unfold partR
  have e : n - k = (n - (k + 1)) + 1 := by omega
  rw [List.take_add_one, hx, e, List.replicate_succ, List.set_append_right _ _ (by simp; omega)]
  simp
  rw [show k - min k xs.length = 0 by omega]
  rfl
theorem partR_done {xs : List Int} {n : Nat} (hl : xs.length = n) : partR xs n n = xs := by unfold partR; rw [List.take_of_length_le (by omega)]; simp
theorem turnR_tot (p : Int) (M : List (List Int)) : tot (turnR p M) ≤ 64 := by
  unfold turnR
  split
  · rename_i h
    obtain ⟨h1, h2, h3, h4, _⟩ := matB_true h
    have := tot_rows (turnM M) 8 (fun row hr => by
      unfold turnM at hr
      obtain ⟨j, _, rfl⟩ := List.mem_map.1 hr
      rw [colM_len]; omega)
    rw [turnM_len] at this
    omega
  · simp [tot]
end Go.Proofs.Ytdecaokngedghaa
namespace Go.Proofs.Ytdecaokngedghaa
open Go.RowKit
def dot : List Int → List Int → Int
  | x :: xs, y :: ys => x * y + dot xs ys
  | _, _ => 0
theorem dot_take : ∀ (xs ys : List Int) (k : Nat) (x y : Int), xs[k]? = some x → ys[k]? = some y → dot (xs.take (k + 1)) (ys.take (k + 1)) = dot (xs.take k) (ys.take k) + x * y
  | [], _, k, x, y, h, _ => by simp at h
  | _ :: _, [], k, x, y, _, h => by simp at h
  | a :: xs, b :: ys, 0, x, y, hx, hy => by simp at hx hy; subst hx; subst hy; simp [dot]
  | a :: xs, b :: ys, k + 1, x, y, hx, hy => by
    have := dot_take xs ys k x y (by simpa using hx) (by simpa using hy)
    simp only [List.take_succ_cons, dot]; omega
theorem dot_bd {p : Int} (hp : p ≤ 13) : ∀ (xs ys : List Int), (∀ x ∈ xs, 0 ≤ x ∧ x < p) → (∀ y ∈ ys, 0 ≤ y ∧ y < p) → 0 ≤ dot xs ys ∧ dot xs ys ≤ 169 * (xs.length : Int)
  | [], ys, _, _ => by simp [dot]
  | x :: xs, [], _, _ => by simp [dot]; omega
  | x :: xs, y :: ys, hx, hy => by
    have h1 := dot_bd hp xs ys (fun z hz => hx z (by simp [hz])) (fun z hz => hy z (by simp [hz]))
    have h2 := hx x (by simp)
    have h3 := hy y (by simp)
    have h4 : 0 ≤ x * y := Int.mul_nonneg h2.1 h3.1
    have h5 : x * y ≤ 13 * 13 := Int.mul_le_mul (by omega) (by omega) h3.1 (by omega)
    simp only [dot, List.length_cons]
    omega
theorem dot_same : ∀ (xs ys : List Int) (n : Nat), xs.length = n → ys.length = n → dot (xs.take n) (ys.take n) = dot xs ys := by
  intro xs ys n h1 h2
  rw [List.take_of_length_le (by omega), List.take_of_length_le (by omega)]
theorem dot_take_bd {p : Int} (hp : p ≤ 13) (xs ys : List Int) (k : Nat) (hk : k ≤ 8) (hx : ∀ x ∈ xs, numB p x = true) (hy : ∀ y ∈ ys, numB p y = true) : 0 ≤ dot (xs.take k) (ys.take k) ∧ dot (xs.take k) (ys.take k) ≤ 1352 := by
  have h := dot_bd hp (xs.take k) (ys.take k) (fun x h => let b := numB_bd (hx x (List.mem_of_mem_take h)); ⟨b.1, b.2.1⟩) (fun x h => let b := numB_bd (hy x (List.mem_of_mem_take h)); ⟨b.1, b.2.1⟩)
  have hl : (xs.take k).length ≤ 8 := by simp; omega
  omega
theorem sumOfProducts_any (p : Int) (A : Option Addr) (n c b o : Nat) (xs : List Int) (A' : Option Addr) (c' b' o' : Nat) (ys : List Int) (w : World) (h : IA w A n b o xs) (h' : IA w A' n b' o' ys) (hn : n ≤ 8)
    (hp : primeB p = true) (hx : ∀ x ∈ xs, numB p x = true) (hy : ∀ y ∈ ys, numB p y = true) :
    Calls Try.prog 76 #[.int .i64 p, .slice A n c, .slice A' n c'] w fun e w' => e = .returned (.int .i64 (dot xs ys % p)) ∧ ∃ m, w' = w.drewN m := by
  have hpb := prime_ge hp
  have H := Lib.hid h
  have H' := Lib.hid h'
  have HX := Lib.hid hx
  have HY := Lib.hid hy
  clear h h' hx hy hp
  go_enter Try.func76, Try.ntmps76
  go_wp2_with (fail)
  go_loopw [7, 11] (fun s i wr => ∃ k : Nat, k ≤ n ∧ i = .int .i64 k ∧ s = .int .i64 (dot (xs.take k) (ys.take k)) ∧ Hid (∃ m, wr = w.drewN m)) (fun _ i _ => n - (intOf i).toNat)
  case atStart => exact ⟨0, by omega, rfl, by simp [dot], 0, rfl⟩
  case round =>
    obtain ⟨k, hk, rfl, rfl, hw⟩ := hrel
    have hb := dot_take_bd hpb.2 xs ys k (by omega) HX.out HY.out
    by_cases hlt : k < n
    · obtain rfl := H.out.adr (by omega)
      obtain rfl := H'.out.adr (by omega)
      obtain ⟨x, hx, hc⟩ := (H.out.drewN hw.out).cell k hlt
      obtain ⟨y, hy, hc'⟩ := (H'.out.drewN hw.out).cell k hlt
      have hxb := numB_bd (HX.out x (List.mem_of_getElem? hx))
      have hyb := numB_bd (HY.out y (List.mem_of_getElem? hy))
      have hm := mul_bd hxb.1 (by omega) hyb.1 (by omega)
      have HD := Lib.hid (dot_take xs ys k x y hx hy)
      clear hx hy
      go_wp2_with (fail)
      go_quiet (fail)
      go_wp2_with (fail)
      go_roundw
      case rel => exact ⟨k + 1, by omega, by go_num, by rw [HD.out], drewN_more hw.out _⟩
      case measure => simp [intOf]; omega
    · obtain rfl : k = n := by omega
      have HD := Lib.hid (dot_same xs ys k H.out.len H'.out.len)
      go_wp2_with (fail)
      go_ret
      exact ⟨ret_int (by rw [HD.out]), hw.out⟩
end Go.Proofs.Ytdecaokngedghaa
namespace Go.Proofs.Ytdecaokngedghaa
open Go.RowKit
def timesRow (p : Int) (B : List (List Int)) (row : List Int) : List Int := (List.range (B.headD []).length).map fun j => dot row (colM B j) % p
def timesM (p : Int) (A B : List (List Int)) : List (List Int) := A.map (timesRow p B)
def timesR (p : Int) (A B : List (List Int)) : List (List Int) := if matB p A = true ∧ matB p B = true ∧ (A.headD []).length = B.length then timesM p A B else []
theorem timesRow_len (p : Int) (B : List (List Int)) (row : List Int) : (timesRow p B row).length = (B.headD []).length := by simp [timesRow]
theorem timesRow_get (p : Int) (B : List (List Int)) (row : List Int) (j : Nat) (h : j < (B.headD []).length) : (timesRow p B row)[j]? = some (dot row (colM B j) % p) := by
  unfold timesRow; rw [List.getElem?_map, List.getElem?_range h]; rfl
theorem timesM_get {p : Int} {A B : List (List Int)} {i : Nat} {row : List Int} (h : A[i]? = some row) : (timesM p A B)[i]? = some (timesRow p B row) := by
  unfold timesM; rw [List.getElem?_map, h]; rfl
theorem timesM_len (p : Int) (A B : List (List Int)) : (timesM p A B).length = A.length := by simp [timesM]
theorem colM_valid {p : Int} {M : List (List Int)} (h : matB p M = true) (j : Nat) (hj : j < (M.headD []).length) : ∀ x ∈ colM M j, numB p x = true := by
  intro x hx
  unfold colM at hx
  obtain ⟨row, hr, rfl⟩ := List.mem_map.1 hx
  obtain ⟨_, _, _, _, h5⟩ := matB_true h
  obtain ⟨h6, h7⟩ := h5 row hr
  rw [List.getD_eq_getElem?_getD, List.getElem?_eq_getElem (show j < row.length by omega)]
  exact h7 _ (List.getElem_mem _)
theorem prime_of_mat {p : Int} {M : List (List Int)} (h : matB p M = true) : primeB p = true := by
  obtain ⟨h1, h2, h3, h4, h5⟩ := matB_true h
  cases M with
  | nil => simp at h1
  | cons r M =>
    obtain ⟨h6, h7⟩ := h5 r (by simp)
    simp only [List.headD_cons] at h3
    cases r with
    | nil => simp at h3
    | cons x r => exact (numB_true (h7 x (by simp))).1
theorem timesR_no {p : Int} {A B : List (List Int)} (h : ¬ (matB p A = true ∧ matB p B = true ∧ (A.headD []).length = B.length)) : timesR p A B = [] := by unfold timesR; rw [if_neg h]
theorem timesR_yes {p : Int} {A B : List (List Int)} (h : matB p A = true ∧ matB p B = true ∧ (A.headD []).length = B.length) : timesR p A B = timesM p A B := by unfold timesR; rw [if_pos h]
theorem OM.none (w : World) (B : Nat) : OM w B none 0 0 [] [] := ⟨World.ownsRow_nil _ _ _ _, rfl, fun r row h => by simp at h, fun r s u u' _ h => by simp at h⟩
theorem quiet_int {P : Program} {f : FuncId} {args : Array Value} {w : World} {n : Nat} {t : Int} (h : Calls P f args (w.drewN n) fun e w' => e = .returned (.int .i64 t) ∧ ∃ m, w' = (w.drewN n).drewN m) :
    Calls P f args (w.drewN n) fun e w'' => e = .returned (.int .i64 t) ∧ ∃ m, w'' = w.drewN m := h.mono fun _ _ ⟨he, m, hw⟩ => ⟨he, n + m, by rw [hw, World.drewN_drewN]⟩
theorem Half.drewN {w : World} {B n k : Nat} {M : List (List Int)} {vs : List Value} (h : Half w B n k M vs) (m : Nat) : Half (w.drewN m) B n k M vs := ⟨h.out, h.vlen, h.row, h.apart⟩
theorem below_drewN' {B : Nat} {w w1 : World} (h : Below B w w1) (m : Nat) : Below B w (w1.drewN m) := ⟨h.os, h.tape, h.output, h.size, h.block⟩
end Go.Proofs.Ytdecaokngedghaa
namespace Go.Proofs.Ytdecaokngedghaa
open Go.RowKit
theorem quietRW {w w' : World} (h : ∃ m, w' = w.drewN m) : Keep (fun _ => False) w w' := by obtain ⟨m, rfl⟩ := h; exact drewN_keep w m
theorem OI.drawn {w w' : World} {B n c : Nat} {A : Option Addr} {xs : List Int} (h : OI w B A n c xs) (hw : ∃ m, w' = w.drewN m) : OI w' B A n c xs := owns_keep h (quietRW hw) (fun _ _ h => h)
theorem OM.drawn {w w' : World} {B n c : Nat} {A : Option Addr} {M : List (List Int)} {vs : List Value} (h : OM w B A n c M vs) (hw : ∃ m, w' = w.drewN m) : OM w' B A n c M vs := h.keep (quietRW hw) (fun _ _ _ h => h)
end Go.Proofs.Ytdecaokngedghaa
namespace Go.Proofs.Ytdecaokngedghaa
open Go.RowKit
theorem timesR_tot (p : Int) (X Y : List (List Int)) : tot (timesR p X Y) ≤ 64 := by
  by_cases h : matB p X = true ∧ matB p Y = true ∧ (X.headD []).length = Y.length
  · rw [timesR_yes h]
    obtain ⟨h1, h2, h3, h4, _⟩ := matB_true h.1
    obtain ⟨_, _, _, g4, _⟩ := matB_true h.2.1
    have := tot_rows (timesM p X Y) 8 (fun row hr => by
      unfold timesM at hr
      obtain ⟨r, _, rfl⟩ := List.mem_map.1 hr
      rw [timesRow_len]; exact g4)
    rw [timesM_len] at this
    omega
  · rw [timesR_no h]; simp [tot]
end Go.Proofs.Ytdecaokngedghaa

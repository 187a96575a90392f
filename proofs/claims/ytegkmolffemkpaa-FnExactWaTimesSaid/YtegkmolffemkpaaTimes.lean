/-
  Products of matrices: what they are, and the contracts of sumOfProducts and of l1Times.
-/
import Derived.Test.YtegkmolffemkpaaTurnI
import Derived.Test.YtegkmolffemkpaaRowV
namespace Go.Proofs.Ytegkmolffemkpaa
open Go.RowKit
def dot : List Int → List Int → Int
  | x :: xs, y :: ys => x * y + dot xs ys
  | _, _ => 0
theorem dot_take : ∀ (xs ys : List Int) (k : Nat) (x y : Int), xs[k]? = some x → ys[k]? = some y → dot (xs.take (k + 1)) (ys.take (k + 1)) = dot (xs.take k) (ys.take k) + x * y
  | [], _, k, x, y, h, _ => by simp at h
  | _ :: _, [], k, x, y, _, h => by simp at h
  | a :: xs, b :: ys, 0, x, y, hx, hy => by simp at hx hy; subst hx; subst hy; simp [dot]
  | a :: xs, b :: ys, k + 1, x, y, hx, hy => by
    have := dot_take xs ys k x y (by simpa using hx) (by simpa using hy)
    simp only [List.take_succ_cons, dot]; omega
theorem dot_bd {p : Int} (hp : p ≤ 13) : ∀ (xs ys : List Int), (∀ x ∈ xs, 0 ≤ x ∧ x < p) → (∀ y ∈ ys, 0 ≤ y ∧ y < p) → 0 ≤ dot xs ys ∧ dot xs ys ≤ 169 * (xs.length : Int)
  | [], ys, _, _ => by simp [dot]
  | x :: xs, [], _, _ => by simp [dot]; omega
  | x :: xs, y :: ys, hx, hy => by
    have h1 := dot_bd hp xs ys (fun z hz => hx z (by simp [hz])) (fun z hz => hy z (by simp [hz]))
    have h2 := hx x (by simp)
    have h3 := hy y (by simp)
    have h4 : 0 ≤ x * y := Int.mul_nonneg h2.1 h3.1
    have h5 : x * y ≤ 13 * 13 := Int.mul_le_mul (by omega) (by omega) h3.1 (by omega)
    simp only [dot, List.length_cons]
    omega
theorem dot_same : ∀ (xs ys : List Int) (n : Nat), xs.length = n → ys.length = n → dot (xs.take n) (ys.take n) = dot xs ys := by
  intro xs ys n h1 h2
  rw [List.take_of_length_le (by omega), List.take_of_length_le (by omega)]
theorem dot_take_bd {p : Int} (hp : p ≤ 13) (xs ys : List Int) (k : Nat) (hk : k ≤ 8) (hx : ∀ x ∈ xs, numB p x = true) (hy : ∀ y ∈ ys, numB p y = true) : 0 ≤ dot (xs.take k) (ys.take k) ∧ dot (xs.take k) (ys.take k) ≤ 1352 := by
  have h := dot_bd hp (xs.take k) (ys.take k) (fun x h => let b := numB_bd (hx x (List.mem_of_mem_take h)); ⟨b.1, b.2.1⟩) (fun x h => let b := numB_bd (hy x (List.mem_of_mem_take h)); ⟨b.1, b.2.1⟩)
  have hl : (xs.take k).length ≤ 8 := by simp; omega
  omega
theorem sumOfProducts_any (p : Int) (A : Option Addr) (n c b o : Nat) (xs : List Int) (A' : Option Addr) (c' b' o' : Nat) (ys : List Int) (w : World) (h : IA w A n b o xs) (h' : IA w A' n b' o' ys) (hn : n ≤ 8)
    (hp : primeB p = true) (hx : ∀ x ∈ xs, numB p x = true) (hy : ∀ y ∈ ys, numB p y = true) :
    Calls Try.prog 61 #[.int .i64 p, .slice A n c, .slice A' n c'] w fun e w' => e = .returned (.int .i64 (dot xs ys % p)) ∧ ∃ m, w' = w.drewN m := by
  have hpb := prime_ge hp
  have H := Lib.hid h
  have H' := Lib.hid h'
  have HX := Lib.hid hx
  have HY := Lib.hid hy
  clear h h' hx hy hp
  go_enter Try.func61, Try.ntmps61
  go_wp2_with (fail)
  go_loopw [7, 11] (fun s i wr => ∃ k : Nat, k ≤ n ∧ i = .int .i64 k ∧ s = .int .i64 (dot (xs.take k) (ys.take k)) ∧ Hid (∃ m, wr = w.drewN m)) (fun _ i _ => n - (intOf i).toNat)
  case atStart => exact ⟨0, by omega, rfl, by simp [dot], 0, rfl⟩
  case round =>
    obtain ⟨k, hk, rfl, rfl, hw⟩ := hrel
    have hb := dot_take_bd hpb.2 xs ys k (by omega) HX.out HY.out
    by_cases hlt : k < n
    · obtain rfl := H.out.adr (by omega)
      obtain rfl := H'.out.adr (by omega)
      obtain ⟨x, hx, hc⟩ := (H.out.drewN hw.out).cell k hlt
      obtain ⟨y, hy, hc'⟩ := (H'.out.drewN hw.out).cell k hlt
      have hxb := numB_bd (HX.out x (List.mem_of_getElem? hx))
      have hyb := numB_bd (HY.out y (List.mem_of_getElem? hy))
      have hm := mul_bd hxb.1 (by omega) hyb.1 (by omega)
      have HD := Lib.hid (dot_take xs ys k x y hx hy)
      clear hx hy
      go_wp2_with (fail)
      go_quiet (fail)
      go_wp2_with (fail)
      go_roundw
      case rel => exact ⟨k + 1, by omega, by go_num, by rw [HD.out], drewN_more hw.out _⟩
      case measure => simp [intOf]; omega
    · obtain rfl : k = n := by omega
      have HD := Lib.hid (dot_same xs ys k H.out.len H'.out.len)
      go_wp2_with (fail)
      go_ret
      exact ⟨ret_int (by rw [HD.out]), hw.out⟩
end Go.Proofs.Ytegkmolffemkpaa

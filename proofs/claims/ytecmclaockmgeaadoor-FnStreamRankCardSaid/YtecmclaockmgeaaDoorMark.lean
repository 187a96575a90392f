/-
  The contracts of the exact laws' helpers that write numbers into a slice of the law's own, and look whether they are held there.
-/
import Derived.Test.YtecmclaockmgeaaDoorEq
namespace Go.Proofs.YtecmclaockmgeaaDoor
open Go.RowKit
def seqI (k : Int) (n : Nat) : List Int := (List.range n).map fun (i : Nat) => k + (i : Int)
def tot : List (List Int) → Nat
  | [] => 0
  | r :: M => r.length + tot M
def seqM : Int → List (List Int) → List (List Int)
  | _, [] => []
  | k, r :: M => seqI k r.length :: seqM (k + (r.length : Int)) M
theorem seqI_len (k : Int) (n : Nat) : (seqI k n).length = n := by simp [seqI]
theorem seqI_get (k : Int) (n i : Nat) (h : i < n) : (seqI k n)[i]? = some (k + (i : Int)) := by simp [seqI, h]
theorem seqM_len : ∀ (k : Int) (M : List (List Int)), (seqM k M).length = M.length
  | _, [] => rfl
  | k, r :: M => by simp [seqM, seqM_len _ M]
theorem tot_take : ∀ (M : List (List Int)) (r : Nat) (row : List Int), M[r]? = some row → tot (M.take (r + 1)) = tot (M.take r) + row.length
  | [], r, row, h => by simp at h
  | x :: M, 0, row, h => by simp at h; subst h; simp [tot]
  | x :: M, r + 1, row, h => by
    have := tot_take M r row (by simpa using h)
    simp only [List.take_succ_cons, tot]; omega
theorem tot_take_le : ∀ (M : List (List Int)) (r : Nat), tot (M.take r) ≤ tot M
  | [], r => by simp [tot]
  | x :: M, 0 => by simp [tot]
  | x :: M, r + 1 => by have := tot_take_le M r; simp only [List.take_succ_cons, tot]; omega
theorem seqM_get : ∀ (M : List (List Int)) (k : Int) (r : Nat) (row : List Int), M[r]? = some row → (seqM k M)[r]? = some (seqI (k + (tot (M.take r) : Int)) row.length)
  | [], k, r, row, h => by simp at h
  | x :: M, k, 0, row, h => by simp at h; subst h; simp [seqM, tot]
  | x :: M, k, r + 1, row, h => by
    have := seqM_get M (k + (x.length : Int)) r row (by simpa using h)
    simp only [seqM, List.getElem?_cons_succ, List.take_succ_cons, tot]
    rw [this]; congr 2; omega
theorem set_step {α : Type} (xs ys : List α) (k : Nat) (x : α) (hl : xs.length = ys.length) (hx : xs[k]? = some x) : (xs.take k ++ ys.drop k).set k x = xs.take (k + 1) ++ ys.drop (k + 1) := by
  have hk : k < xs.length := (List.getElem?_eq_some_iff.1 hx).1
  have hlen : (xs.take k).length = k := by simp; omega
  have hd : ys.drop k = ys[k]'(by omega) :: ys.drop (k + 1) := List.drop_eq_getElem_cons (by omega)
  rw [List.set_append_right _ _ (by omega), hlen, Nat.sub_self, List.take_add_one, hx, hd, List.set_cons_zero]
  simp
theorem mix_get {α : Type} (xs ys : List α) (k : Nat) (hl : xs.length = ys.length) (hk : k < xs.length) : (xs.take k ++ ys.drop k)[k]? = ys[k]? := by
  have hlen : (xs.take k).length = k := by simp; omega
  rw [List.getElem?_append_right (by omega), hlen, Nat.sub_self]
  simp
theorem tot_rows : ∀ (M : List (List Int)) (b : Nat), (∀ row ∈ M, row.length ≤ b) → tot M ≤ M.length * b
  | [], b, _ => by simp [tot]
  | r :: M, b, h => by
    have h1 := h r (by simp)
    have h2 := tot_rows M b (fun row hr => h row (by simp [hr]))
    simp only [tot, List.length_cons, Nat.add_mul, Nat.one_mul]; omega
theorem setCell_keep (w : World) (p : Addr) (v : Value) : Keep (· = p.block) w (w.setCell p v) := (Keep.refl _ _).setCell (S := (· = p.block)) (fun _ => rfl) v
def MarkI (B n c : Nat) (A : Option Addr) (k : Int) (w : World) (e : Ending) (w' : World) : Prop :=
  e = .returned (.int .i64 (k + n)) ∧ OI w' B A n c (seqI k n) ∧ Keep (fun g => (Value.slice A n c).ownBlock = some g) w w'
theorem ints_set (xs : List Int) (k : Nat) (x : Int) : (ints xs).set k (.int .i64 x) = ints (xs.set k x) := by simp [ints, List.map_set]
end Go.Proofs.YtecmclaockmgeaaDoor

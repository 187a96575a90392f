/-
  The contract of the program's MatTimes.
-/
import Derived.Test.YtegkmolffemkpaaTimes
import Derived.Test.YtegkmolffemkpaaTail
namespace Go.Proofs.Ytegkmolffemkpaa
open Go.RowKit
def timesRow (p : Int) (B : List (List Int)) (row : List Int) : List Int := (List.range (B.headD []).length).map fun j => dot row (colM B j) % p
def timesM (p : Int) (A B : List (List Int)) : List (List Int) := A.map (timesRow p B)
def timesR (p : Int) (A B : List (List Int)) : List (List Int) := if matB p A = true ∧ matB p B = true ∧ (A.headD []).length = B.length then timesM p A B else []
theorem timesRow_len (p : Int) (B : List (List Int)) (row : List Int) : (timesRow p B row).length = (B.headD []).length := by simp [timesRow]
theorem timesRow_get (p : Int) (B : List (List Int)) (row : List Int) (j : Nat) (h : j < (B.headD []).length) : (timesRow p B row)[j]? = some (dot row (colM B j) % p) := by
  unfold timesRow; rw [List.getElem?_map, List.getElem?_range h]; rfl
theorem timesM_get {p : Int} {A B : List (List Int)} {i : Nat} {row : List Int} (h : A[i]? = some row) : (timesM p A B)[i]? = some (timesRow p B row) := by
  unfold timesM; rw [List.getElem?_map, h]; rfl
theorem timesM_len (p : Int) (A B : List (List Int)) : (timesM p A B).length = A.length := by simp [timesM]
theorem colM_valid {p : Int} {M : List (List Int)} (h : matB p M = true) (j : Nat) (hj : j < (M.headD []).length) : ∀ x ∈ colM M j, numB p x = true := by
  intro x hx
  unfold colM at hx
  obtain ⟨row, hr, rfl⟩ := List.mem_map.1 hx
  obtain ⟨_, _, _, _, h5⟩ := matB_true h
  obtain ⟨h6, h7⟩ := h5 row hr
  rw [List.getD_eq_getElem?_getD, List.getElem?_eq_getElem (show j < row.length by omega)]
  exact h7 _ (List.getElem_mem _)
theorem prime_of_mat {p : Int} {M : List (List Int)} (h : matB p M = true) : primeB p = true := by
  obtain ⟨h1, h2, h3, h4, h5⟩ := matB_true h
  cases M with
  | nil => simp at h1
  | cons r M =>
    obtain ⟨h6, h7⟩ := h5 r (by simp)
    simp only [List.headD_cons] at h3
    cases r with
    | nil => simp at h3
    | cons x r => exact (numB_true (h7 x (by simp))).1
theorem timesR_no {p : Int} {A B : List (List Int)} (h : ¬ (matB p A = true ∧ matB p B = true ∧ (A.headD []).length = B.length)) : timesR p A B = [] := by unfold timesR; rw [if_neg h]
theorem timesR_yes {p : Int} {A B : List (List Int)} (h : matB p A = true ∧ matB p B = true ∧ (A.headD []).length = B.length) : timesR p A B = timesM p A B := by unfold timesR; rw [if_pos h]
theorem OM.none (w : World) (B : Nat) : OM w B none 0 0 [] [] := ⟨World.ownsRow_nil _ _ _ _, rfl, fun r row h => by simp at h, fun r s u u' _ h => by simp at h⟩
theorem quiet_int {P : Program} {f : FuncId} {args : Array Value} {w : World} {n : Nat} {t : Int} (h : Calls P f args (w.drewN n) fun e w' => e = .returned (.int .i64 t) ∧ ∃ m, w' = (w.drewN n).drewN m) :
    Calls P f args (w.drewN n) fun e w'' => e = .returned (.int .i64 t) ∧ ∃ m, w'' = w.drewN m := h.mono fun _ _ ⟨he, m, hw⟩ => ⟨he, n + m, by rw [hw, World.drewN_drewN]⟩
theorem Half.drewN {w : World} {B n k : Nat} {M : List (List Int)} {vs : List Value} (h : Half w B n k M vs) (m : Nat) : Half (w.drewN m) B n k M vs := ⟨h.out, h.vlen, h.row, h.apart⟩
theorem below_drewN' {B : Nat} {w w1 : World} (h : Below B w w1) (m : Nat) : Below B w (w1.drewN m) := ⟨h.os, h.tape, h.output, h.size, h.block⟩
end Go.Proofs.Ytegkmolffemkpaa

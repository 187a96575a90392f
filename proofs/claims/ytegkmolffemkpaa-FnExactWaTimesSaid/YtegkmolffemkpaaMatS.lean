/-
  The contract of the model's MatValid.
-/
import Derived.Test.YtegkmolffemkpaaMatV
namespace Go.Proofs.Ytegkmolffemkpaa
open Go.RowKit
def rowS (p : Int) (l : Nat) (row : List Int) : Bool := decide (row.length = l) && (inB row.length 1 8 && rowB p row)
theorem rowS_ok {p : Int} {l : Nat} {row : List Int} (hl : 1 ≤ l ∧ l ≤ 8) : rowS p l row = rowOk p l row := by
  unfold rowS rowOk
  by_cases h : row.length = l
  · have : inB (row.length : Int) 1 8 = true := by unfold inB; simp; omega
    rw [this]; simp
  · simp [h]
theorem matB_rowS {p : Int} {M : List (List Int)} {row0 row : List Int} {k : Nat} (h0 : M[0]? = some row0) (hk : M[k]? = some row) (hf : rowS p row0.length row = false) : matB p M = false := by
  by_cases hs : 1 ≤ M.length ∧ M.length ≤ 8 ∧ 1 ≤ (M.headD []).length ∧ (M.headD []).length ≤ 8
  · rw [matB_of hs]
    have hh := headD_of h0
    rw [hh] at hs ⊢
    exact all_fail _ _ _ _ hk (by rw [← rowS_ok ⟨hs.2.2.1, hs.2.2.2⟩]; exact hf)
  · exact matB_size hs
theorem matB_all {p : Int} {M : List (List Int)} {row0 : List Int} {n : Nat} (h0 : M[0]? = some row0) (hn : M.length = n) (ha : M.all (rowS p row0.length) = true) : (primeB p && inB n 1 8) = matB p M := by
  have hh := headD_of h0
  have hm : row0 ∈ M := List.mem_of_getElem? h0
  have hr := List.all_eq_true.1 ha row0 hm
  simp only [rowS, Bool.and_eq_true, decide_eq_true_eq, true_and, rowB, List.all_eq_true] at hr
  obtain ⟨hl, hv⟩ := hr
  simp only [inB, Bool.and_eq_true, decide_eq_true_eq] at hl
  have hne : row0 ≠ [] := by rintro rfl; simp at hl
  obtain ⟨x, hx⟩ := List.exists_mem_of_ne_nil _ hne
  have hp := (numB_true (hv x hx)).1
  have h1 : 1 ≤ M.length := by
    have := (List.getElem?_eq_some_iff.1 h0).1; omega
  by_cases h8 : M.length ≤ 8
  · rw [matB_of (by rw [hh]; omega), hh, hp]
    have e : M.all (rowOk p row0.length) = true := by
      rw [List.all_eq_true] at ha ⊢
      intro r hr; rw [← rowS_ok (by omega)]; exact ha r hr
    rw [e]; simp [inB]; omega
  · rw [matB_size (by omega)]; simp [inB]; omega
theorem specIn' {n l h : Int} {t : Bool} (e : inB n l h = t) (w : World) :
    Calls Try.prog 58 #[.int .i64 n, .int .i64 l, .int .i64 h] w fun e w' => e = .returned (.bool t) ∧ w = w' := by subst e; exact specIn n l h w
theorem quiet_same {P : Program} {f : FuncId} {args : Array Value} {w : World} {n : Nat} {v : Value} (h : Calls P f args (w.drewN n) fun e w' => e = .returned v ∧ w.drewN n = w') :
    Calls P f args (w.drewN n) fun e w'' => e = .returned v ∧ ∃ m, w'' = w.drewN m := h.mono fun _ _ ⟨he, hw⟩ => ⟨he, n, hw.symm⟩
theorem RA.drewN {w : World} {A : Option Addr} {n b o : Nat} {M : List (List Int)} (h : RA w A n b o M) {w' : World} (hw : ∃ m, w' = w.drewN m) : RA w' A n b o M := by
  obtain ⟨m, rfl⟩ := hw; exact h.keep (drewN_keep (S := fun _ => False) w m) (fun _ _ h => h)
theorem drewN_more {w w' : World} (hw : ∃ m, w' = w.drewN m) (k : Nat) : ∃ m, w'.drewN k = w.drewN m := by obtain ⟨m, rfl⟩ := hw; exact ⟨m + k, by rw [World.drewN_drewN]⟩
end Go.Proofs.Ytegkmolffemkpaa

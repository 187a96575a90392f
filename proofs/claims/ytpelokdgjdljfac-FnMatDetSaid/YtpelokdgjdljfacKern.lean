/-
  Plain mathematics of the kernel; the contracts of the program's MatKernel and of what it calls.
-/
import Derived.Test.YtpelokdgjdljfacFormM
namespace Go.Proofs.Ytpelokdgjdljfac
open Go.RowKit
def kerFill (p : Int) (F : List (List Int)) (hs : List Nat) (c l : Nat) : Nat → List Int
  | 0 => (List.replicate l 0).set c 1
  | k + 1 => (kerFill p F hs c l k).set (hs.getD k 0) (-(at2 F k c) % p)
theorem kerFill_len (p : Int) (F : List (List Int)) (hs : List Nat) (c l : Nat) : ∀ k, (kerFill p F hs c l k).length = l
  | 0 => by simp [kerFill]
  | k + 1 => by simp [kerFill, kerFill_len p F hs c l k]
def kerM (p : Int) (F : List (List Int)) (hs : List Nat) (l : Nat) : Nat → List (List Int)
  | 0 => []
  | c + 1 => if c ∈ hs then kerM p F hs l c else kerM p F hs l c ++ [kerFill p F hs c l hs.length]
theorem kerM_stay {p : Int} {F : List (List Int)} {hs : List Nat} {l c : Nat} (h : c ∈ hs) : kerM p F hs l (c + 1) = kerM p F hs l c := by
  show (if c ∈ hs then _ else _) = _
  rw [if_pos h]
theorem kerM_go {p : Int} {F : List (List Int)} {hs : List Nat} {l c : Nat} (h : c ∉ hs) : kerM p F hs l (c + 1) = kerM p F hs l c ++ [kerFill p F hs c l hs.length] := by
  show (if c ∈ hs then _ else _) = _
  rw [if_neg h]
theorem kerM_len_le (p : Int) (F : List (List Int)) (hs : List Nat) (l : Nat) : ∀ c, (kerM p F hs l c).length ≤ c
  | 0 => by simp [kerM]
  | c + 1 => by
    have := kerM_len_le p F hs l c
    by_cases h : c ∈ hs
    · rw [kerM_stay h]; omega
    · rw [kerM_go h]; simp; omega
def kernelR (p : Int) (M : List (List Int)) : List (List Int) :=
  if matB p M = true then kerM p (elim p M (M.headD []).length).1 (elim p M (M.headD []).length).2 (M.headD []).length (M.headD []).length else []
theorem kernelR_yes {p : Int} {M : List (List Int)} (h : matB p M = true) : kernelR p M = kerM p (elim p M (M.headD []).length).1 (elim p M (M.headD []).length).2 (M.headD []).length (M.headD []).length := by unfold kernelR; rw [if_pos h]
theorem kernelR_no {p : Int} {M : List (List Int)} (h : matB p M = false) : kernelR p M = [] := by unfold kernelR; rw [if_neg (by simp [h])]
theorem elim_heads (p : Int) (M : List (List Int)) : ∀ c, ∀ h ∈ (elim p M c).2, h < c
  | 0 => by intro h hh; simp [elim] at hh
  | c + 1 => by
    intro h hh
    change h ∈ (stepE p (elim p M c).1 (elim p M c).2 c).2 at hh
    unfold stepE at hh
    split at hh
    · have := elim_heads p M c h hh; omega
    · rcases List.mem_append.1 hh with hh | hh
      · have := elim_heads p M c h hh; omega
      · simp at hh; omega
theorem headI_mem {hs : List Nat} {c : Nat} : (c : Int) ∈ headI hs ↔ c ∈ hs := by
  unfold headI
  rw [List.mem_map]
  exact ⟨fun ⟨a, h1, h2⟩ => by have : a = c := by omega
                               exact this ▸ h1, fun h => ⟨c, h, rfl⟩⟩
theorem headI_get {hs : List Nat} {k : Nat} (h : k < hs.length) : (headI hs)[k]? = some ((hs.getD k 0 : Nat) : Int) := by
  unfold headI; rw [List.getElem?_map, List.getD_eq_getElem?_getD, List.getElem?_eq_getElem h]; rfl
theorem getD_mem_nat {hs : List Nat} {k : Nat} (h : k < hs.length) : hs.getD k 0 ∈ hs := by
  rw [List.getD_eq_getElem?_getD, List.getElem?_eq_getElem h]; exact List.getElem_mem h
def IndexPost (v : Int) (xs : List Int) (w : World) (e : Ending) (w' : World) : Prop := (∃ x : Int, e = .returned (.int .i64 x) ∧ decide (x ≥ 0) = decide (v ∈ xs)) ∧ w = w'
def BoolSame (t : Bool) (w : World) (e : Ending) (w' : World) : Prop := e = .returned (.bool t) ∧ w = w'
end Go.Proofs.Ytpelokdgjdljfac

/-
  Plain mathematics of MatSolve; the contract of the program's.
-/
import Derived.Test.YtpelokdgjdljfacKerS
namespace Go.Proofs.Ytpelokdgjdljfac
open Go.RowKit
def widenM (M : List (List Int)) (want : List Int) : List (List Int) := List.zipWith (fun r x => r ++ [x]) M want
def solFill (F : List (List Int)) (hs : List Nat) (l : Nat) : Nat → List Int
  | 0 => List.replicate l 0
  | k + 1 => (solFill F hs l k).set (hs.getD k 0) (at2 F k l)
def okS (p : Int) (M : List (List Int)) (want : List Int) : Bool := matB p M && (decide (want.length = M.length) && rowB p want)
def solveW (p : Int) (W : List (List Int)) (l : Nat) : Option (List Int) :=
  match firstW (elim p W l).1 l ((elim p W l).1.length - (elim p W l).2.length) (elim p W l).2.length with
  | none => some (solFill (elim p W l).1 (elim p W l).2 l (elim p W l).2.length)
  | some _ => none
def solveR (p : Int) (M : List (List Int)) (want : List Int) : Option (List Int) := if okS p M want = true then solveW p (widenM M want) (M.headD []).length else none
theorem solFill_len (F : List (List Int)) (hs : List Nat) (l : Nat) : ∀ k, (solFill F hs l k).length = l
  | 0 => by simp [solFill]
  | k + 1 => by simp [solFill, solFill_len F hs l k]
theorem widenM_len {M : List (List Int)} {want : List Int} (h : want.length = M.length) : (widenM M want).length = M.length := by simp [widenM, h]
theorem widenM_get {M : List (List Int)} {want : List Int} {k : Nat} {row : List Int} {x : Int} (hr : M[k]? = some row) (hx : want[k]? = some x) : (widenM M want)[k]? = some (row ++ [x]) := by
  simp [widenM, List.getElem?_zipWith, hr, hx]
theorem numB_zero {p : Int} (hp : primeB p = true) : numB p 0 = true := by
  have := prime_ge hp
  exact numB_mk hp (by omega) (by omega)
theorem rowB_mem {p : Int} {xs : List Int} (h : rowB p xs = true) : ∀ x ∈ xs, numB p x = true := fun x hx => List.all_eq_true.1 h x hx
theorem VM.widen {p : Int} {l : Nat} {M : List (List Int)} {want : List Int} (h : VM p l M) (hw : ∀ x ∈ want, numB p x = true) : VM p (l + 1) (widenM M want) := by
  intro row hr
  obtain ⟨k, hk, rfl⟩ := List.getElem_of_mem hr
  simp only [widenM, List.getElem_zipWith]
  have h1 : k < M.length := by simp [widenM] at hk; omega
  have h2 : k < want.length := by simp [widenM] at hk; omega
  obtain ⟨g1, g2⟩ := h M[k] (List.getElem_mem h1)
  refine ⟨by simp [g1], fun x hx => ?_⟩
  rcases List.mem_append.1 hx with hx | hx
  · exact g2 x hx
  · simp at hx; rw [hx]; exact hw _ (List.getElem_mem h2)
/-- the answer of MatSolve: a row, and whether there is one -/
def MadeS (R : Option (List Int)) (w : World) (e : Ending) (w' : World) : Prop :=
  ∃ (A : Option Addr) (c : Nat), e = .returned (.tuple #[.slice A (R.getD []).length c, .bool R.isSome]) ∧ OI w' w.heap.size A (R.getD []).length c (R.getD []) ∧ Below w.heap.size w w'
theorem MadeS.nil {w w' : World} (hb : Below w.heap.size w w') : MadeS none w (.returned (.tuple #[.slice none 0 0, .bool false])) w' := ⟨none, 0, rfl, World.ownsRow_nil _ _ _ _, hb⟩
theorem solveR_no {p : Int} {M : List (List Int)} {want : List Int} (h : okS p M want = false) : solveR p M want = none := by unfold solveR; rw [if_neg (by simp [h])]
theorem solveR_yes {p : Int} {M : List (List Int)} {want : List Int} (h : okS p M want = true) : solveR p M want = solveW p (widenM M want) (M.headD []).length := by unfold solveR; rw [if_pos h]
theorem solveW_yes {p : Int} {W : List (List Int)} {l : Nat} (h : firstW (elim p W l).1 l ((elim p W l).1.length - (elim p W l).2.length) (elim p W l).2.length = none) : solveW p W l = some (solFill (elim p W l).1 (elim p W l).2 l (elim p W l).2.length) := by unfold solveW; rw [h]
theorem solveW_no {p : Int} {W : List (List Int)} {l r : Nat} (h : firstW (elim p W l).1 l ((elim p W l).1.length - (elim p W l).2.length) (elim p W l).2.length = some r) : solveW p W l = none := by unfold solveW; rw [h]
/-- copy of a shorter slice to the beginning of one of the call's own -/
theorem wpList_cpy2 {ops : Array Oper} {rest : List Oper} {o : Oper} {a : Act} {Q : Exit → Act → World → Prop} {w : World} (hgd : o.guard = none) (d s : Operand)
    (ho : o.op = .call { callee := .builtin .copy, args := #[d, s], argTypes := #[29, 29] })
    (B g n c : Nat) (xs : List Int) (hd : a.eval d = .slice (some ⟨g, 0, none⟩) n c) (hown : OI w B (some ⟨g, 0, none⟩) n c xs) (m c1 b1 o1 : Nat) (hmn : m ≤ n) (ys : List Int) (hs : a.eval s = .slice (some ⟨b1, o1, none⟩) m c1) (hsrc : IA w (some ⟨b1, o1, none⟩) m b1 o1 ys)
    (h : ∀ w' v, OI w' B (some ⟨g, 0, none⟩) n c (ys ++ xs.drop m) → Keep (· = g) w w' → wpList Try.prog ops Q rest (a.put o.dst v) w') :
    wpList Try.prog ops Q (o :: rest) a w := by
  have hys := hsrc.len
  have hxl := hown.len
  rcases hown.2 with ⟨h1, _⟩ | ⟨g', cap, cur, hv, hb, hg, hnc, hcm, hcs, htk⟩
  · simp at h1
  · simp only [Value.slice.injEq, Option.some.injEq, Addr.mk.injEq, and_true, true_and] at hv
    obtain ⟨rfl, rfl⟩ := hv
    have hcl : cur.toList.length = cur.size := by simp
    refine wpList_copy_own hgd d s 29 29 ho 3 Try.underlying29 infoSize g 0 n c ⟨b1, o1, none⟩ m c1 hd hs cur 3 hg (ints ys) (by rw [ints_len, hys]; exact (Nat.min_eq_left hmn).symm) hsrc.src (by rw [ints_len, hys]; omega) (ints_one ys) ?_
    refine h _ _ ⟨by rw [ints_len, List.length_append, List.length_drop, hys, hxl]; omega, .inr ⟨g, c, _, rfl, hb, setRow_heap w g _ _ 3 _ hg, hnc, hcm, ?_, ?_⟩⟩ ⟨rfl, rfl, rfl, by simp [World.setRow], fun k _ hk => setRow_other w g k _ hk⟩
    · simp [ints_len, hys]; omega
    · simp only [Nat.mul_one] at htk ⊢
      simp only [List.take_zero, List.nil_append, ints_len, hys, Nat.zero_add]
      rw [List.take_append, ints_len, hys, List.take_of_length_le (by rw [ints_len, hys]; exact hmn)]
      rw [← List.drop_take, htk]
      simp [ints]
end Go.Proofs.Ytpelokdgjdljfac

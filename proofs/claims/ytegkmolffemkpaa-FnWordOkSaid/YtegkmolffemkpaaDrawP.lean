/-
  The contracts of l20Series and l20Poly, the drawn beginnings and polynomials.
-/
import Derived.Test.YtegkmolffemkpaaDrawM
import Derived.Test.YtegkmolffemkpaaTrim
namespace Go.Proofs.Ytegkmolffemkpaa
open Go.RowKit
/-- a drawn row: numbers of such a size -/
def RowP (row : List Int) : Prop := ∀ x ∈ row, -1 ≤ x ∧ x ≤ 17
/-- numbers that any prime bears -/
def RowQ (p : Int) (row : List Int) : Prop := ∀ x ∈ row, 0 ≤ x ∧ x < max p 1
def SerPost (rb n c cb co N L : Nat) (A : Option Addr) (p m : Int) (w : World) (e : Ending) (w' : World) : Prop :=
  ∃ (Ao : Option Addr) (ca : Nat) (xs : List Int), e = .returned (.slice Ao xs.length ca) ∧ xs.length ≤ L ∧ RowP xs ∧ (m = 0 → RowQ p xs) ∧ OI w' w.heap.size Ao xs.length ca xs ∧ Rd w' rb A n c cb co N ∧ Keep (Drw rb w.heap.size) w w'
theorem RowQ.snoc {p : Int} {row : List Int} {x : Int} (h : RowQ p row) (h0 : 0 ≤ x) (h1 : x < max p 1) : RowQ p (row ++ [x]) := fun y hy => by
  rcases List.mem_append.1 hy with hy | hy
  · exact h y hy
  · simp at hy; rw [hy]; exact ⟨h0, h1⟩
theorem RowP.snoc {row : List Int} {x : Int} (h : RowP row) (h0 : -1 ≤ x) (h1 : x ≤ 17) : RowP (row ++ [x]) := fun y hy => by
  rcases List.mem_append.1 hy with hy | hy
  · exact h y hy
  · simp at hy; rw [hy]; exact ⟨h0, h1⟩
def OddPost (m : Int) (R : World → Prop) (e : Ending) (w' : World) : Prop := ∃ b : Bool, e = .returned (.bool b) ∧ (m = 0 → b = false) ∧ R w'
theorem odd_any0 (rb n c cb co N : Nat) (A : Option Addr) (m : Int) (w : World) (h : Rd w rb A n c cb co N) (hN : N ≤ 1000000) (hm : 0 ≤ m) (hm' : m ≤ 1000000) :
    Calls Try.prog 86 #[.pointer (some ⟨rb, 0, none⟩), .int .i64 m] w
      (OddPost m fun w' => Rd w' rb A n c cb co (N + 1) ∧ Keep (· = rb) w w') := by
  by_cases h0 : 1 ≤ m
  · exact (odd_any rb n c cb co N A m w h hN h0 hm').mono fun e w' ⟨b, he, hr⟩ => ⟨b, he, fun h1 => by omega, hr⟩
  · obtain rfl : m = 0 := by omega
    go_enter Try.func86, Try.ntmps86
    go_wp2_with (fail)
    go_ret
    exact ⟨_, rfl, fun _ => rfl, h.mono (by omega), Keep.refl _ _⟩
theorem wpList_app_int2 {ops : Array Oper} {rest : List Oper} {o : Oper} {a : Act} {Q : Exit → Act → World → Prop} {w : World} (hgd : o.guard = none) (s x : Operand)
    (ho : o.op = .call { callee := .builtin .append, args := #[s, x], argTypes := #[23, 23] })
    (B : Nat) (A : Option Addr) (n c : Nat) (xs : List Int) (hs : a.eval s = .slice A n c) (hown : OI w B A n c xs) (z1 z2 : Int) (g c1 : Nat) (hx : a.eval x = .slice (some ⟨g, 0, none⟩) 2 c1) (hcell : w.cell? ⟨g, 0, none⟩ = some (.int .i64 z1)) (hcell2 : w.cell? ⟨g, 1, none⟩ = some (.int .i64 z2))
    (hn : n ≤ 1000000000) (hB : B ≤ w.heap.size)
    (h : ∀ (A' : Option Addr) (c' : Nat) (w' : World), OI w' B A' (n + 2) c' (xs ++ [z1, z2]) → Keep (fun k => (Value.slice A n c).ownBlock = some k) w w' → wpList Try.prog ops Q rest (a.put o.dst (.slice A' (n + 2) c')) w') :
    wpList Try.prog ops Q (o :: rest) a w := by
  obtain ⟨i0, hi, hz0, hz1, hz2⟩ := info_parts infoInt
  refine wpList_append_own w hgd s x 23 ho B 3 i0 (.int .i64 0) 1 8 Try.underlying23 hi hz0 hz1 hz2 rfl (by decide) _ n (ints xs) hs hown ⟨g, 0, none⟩ 2 c1 [.int .i64 z1, .int .i64 z2] hx rfl ?_ ?_ ?_ ?_ hB ?_
  · intro j u hj
    match j, hj with
    | 0, hj => simp at hj; subst hj; simpa [Addr.add] using hcell
    | 1, hj => simp at hj; subst hj; simpa [Addr.add] using hcell2
    | j + 2, hj => simp at hj
  · intro u hu; simp at hu; rcases hu with rfl | rfl <;> rfl
  · unfold maxLen; omega
  · omega
  · intro v' w' h2 h3 _
    obtain ⟨A', c', rfl⟩ := owns_shape h2
    exact h A' c' w' (by unfold OI; simpa [ints] using h2) (keep_grown h3)
theorem trim_mem2 {xs : List Int} (h : RowP xs) : RowP (trimL xs) := fun x hx => h x (List.mem_of_mem_take hx)
theorem trim_le2 (xs : List Int) : (trimL xs).length ≤ xs.length := by rw [trimL_len]; exact trimN_le _ _
end Go.Proofs.Ytegkmolffemkpaa

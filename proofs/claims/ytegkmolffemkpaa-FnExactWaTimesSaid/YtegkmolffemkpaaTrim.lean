/-
  The contract of the model's l2Trim; sums and products of rows as plain mathematics.
-/
import Derived.Test.YtegkmolffemkpaaSer
import Derived.Test.YtegkmolffemkpaaMod
import Derived.Laws.AppendOwnNone
import Derived.Test.YtegkmolffemkpaaTurnS
import Derived.Test.YtegkmolffemkpaaRules
import Derived.Test.YtegkmolffemkpaaSig
namespace Go.Proofs.Ytegkmolffemkpaa
open Go.RowKit
theorem IA.take {w : World} {A : Option Addr} {n b o : Nat} {xs : List Int} (h : IA w A n b o xs) {k : Nat} (hk : k ≤ n) : IA w A k b o (xs.take k) :=
  ⟨by rw [List.length_take, h.len]; omega, fun h0 => h.adr (by omega), by have := h.big; omega, fun i hi => by
    obtain ⟨x, h1, h2⟩ := h.cell i (by omega)
    exact ⟨x, by rw [List.getElem?_take, if_pos hi]; exact h1, h2⟩⟩
theorem OI.capLe {w : World} {B n c : Nat} {A : Option Addr} {xs : List Int} (h : OI w B A n c xs) : n ≤ c := by
  rcases h.2 with ⟨h1, h2⟩ | ⟨g', cap, cur, hv, _, _, hnc, _⟩
  · omega
  · simp only [Value.slice.injEq, true_and] at hv
    omega
theorem OI.iaA {w : World} {B n c : Nat} {A : Option Addr} {xs : List Int} (h : OI w B A n c xs) : ∃ b, IA w A n b 0 xs ∧ ((A = none ∧ c = 0) ∨ A = some ⟨b, 0, none⟩) := by
  obtain ⟨b, hI⟩ := h.ia
  rcases h.adr with ⟨a1, a2, a3⟩ | ⟨q, a1, _, _⟩
  · exact ⟨b, hI, .inl ⟨a1, a3⟩⟩
  · by_cases h0 : 0 < n
    · exact ⟨b, hI, .inr (hI.adr h0)⟩
    · have hl := hI.len
      exact ⟨q, ⟨hl, fun _ => by omega, by omega, fun i hi => by omega⟩, .inr a1⟩
/-- the number of a sum at a place -/
def addN (p : Int) (f g : List Int) (t : Int) (k : Nat) : Int := (f.getD k 0 + t * g.getD k 0) % p
def addR (p : Int) (f g : List Int) (t : Int) : List Int := (List.range (max f.length g.length)).map (addN p f g t)
theorem addR_len (p : Int) (f g : List Int) (t : Int) : (addR p f g t).length = max f.length g.length := by simp [addR]
theorem addR_get (p : Int) (f g : List Int) (t : Int) {k : Nat} (h : k < max f.length g.length) : (addR p f g t)[k]? = some (addN p f g t k) := by unfold addR; rw [List.getElem?_map, List.getElem?_range h]; rfl
/-- the number of a product at a place -/
def conv (f g : List Int) (k : Nat) : Int := sigN (k + 1) (fun j => f.getD j 0 * g.getD (k - j) 0)
def tmsN (f g : List Int) : Nat := if f.length = 0 ∨ g.length = 0 then 0 else f.length + g.length - 1
def convR (p : Int) (f g : List Int) (many : Nat) : List Int := (List.range many).map (fun k => conv f g k % p)
theorem convR_len (p : Int) (f g : List Int) (many : Nat) : (convR p f g many).length = many := by simp [convR]
theorem convR_get (p : Int) (f g : List Int) {many k : Nat} (h : k < many) : (convR p f g many)[k]? = some (conv f g k % p) := by unfold convR; rw [List.getElem?_map, List.getElem?_range h]; rfl
theorem sigN_bd {f : Nat → Int} : ∀ {n : Nat}, (∀ k, k < n → 0 ≤ f k ∧ f k ≤ 169) → 0 ≤ sigN n f ∧ sigN n f ≤ 169 * (n : Int)
  | 0, _ => ⟨Int.le_refl _, Int.le_refl _⟩
  | n + 1, h => by
    have h1 := sigN_bd (fun k hk => h k (by omega) : ∀ k, k < n → 0 ≤ f k ∧ f k ≤ 169)
    have h2 := h n (by omega)
    show 0 ≤ sigN n f + f n ∧ sigN n f + f n ≤ _
    omega
theorem getD_bd {p : Int} {xs : List Int} (h : ∀ x ∈ xs, numB p x = true) (k : Nat) : 0 ≤ xs.getD k 0 ∧ xs.getD k 0 ≤ 13 := by
  rw [List.getD_eq_getElem?_getD]
  rcases hx : xs[k]? with _ | x
  · exact ⟨Int.le_refl _, by decide⟩
  · have := numB_bd (h x (List.mem_of_getElem? hx))
    simp only [Option.getD_some]; omega
theorem conv_bd {p : Int} {f g : List Int} (hf : ∀ x ∈ f, numB p x = true) (hg : ∀ x ∈ g, numB p x = true) (k n : Nat) : 0 ≤ sigN n (fun j => f.getD j 0 * g.getD (k - j) 0) ∧ sigN n (fun j => f.getD j 0 * g.getD (k - j) 0) ≤ 169 * (n : Int) :=
  sigN_bd fun j _ => mul_bd (getD_bd hf j).1 (getD_bd hf j).2 (getD_bd hg _).1 (getD_bd hg _).2
theorem getD_far {xs : List Int} {k : Nat} (h : xs.length ≤ k) : xs.getD k 0 = 0 := by rw [List.getD_eq_getElem?_getD, List.getElem?_eq_none h]; rfl
theorem getD_at {xs : List Int} {k : Nat} {x : Int} (h : xs[k]? = some x) : xs.getD k 0 = x := by rw [List.getD_eq_getElem?_getD, h]; rfl
end Go.Proofs.Ytegkmolffemkpaa

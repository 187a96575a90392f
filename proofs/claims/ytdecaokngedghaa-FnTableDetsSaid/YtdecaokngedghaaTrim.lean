/-
  The contract of the model's l2Trim; sums and products of rows as plain mathematics.
-/
import Derived.Test.YtdecaokngedghaaSer
import Derived.Test.YtdecaokngedghaaMod
import Derived.Laws.AppendOwnNone
import Derived.Test.YtdecaokngedghaaTurnS
import Derived.Test.YtdecaokngedghaaRules
import Derived.Test.YtdecaokngedghaaSig
namespace Go.Proofs.Ytdecaokngedghaa
open Go.RowKit
theorem IA.take {w : World} {A : Option Addr} {n b o : Nat} {xs : List Int} (h : IA w A n b o xs) {k : Nat} (hk : k ≤ n) : IA w A k b o (xs.take k) :=
  ⟨by rw [List.length_take, h.len]; omega, fun h0 => h.adr (by omega), by have := h.big; omega, fun i hi => by
    obtain ⟨x, h1, h2⟩ := h.cell i (by omega)
    exact ⟨x, by rw [List.getElem?_take, if_pos hi]; exact h1, h2⟩⟩
theorem OI.capLe {w : World} {B n c : Nat} {A : Option Addr} {xs : List Int} (h : OI w B A n c xs) : n ≤ c := by
  rcases h.2 with ⟨h1, h2⟩ | ⟨g', cap, cur, hv, _, _, hnc, _⟩
  · omega
  · simp only [Value.slice.injEq, true_and] at hv
    omega
theorem OI.iaA {w : World} {B n c : Nat} {A : Option Addr} {xs : List Int} (h : OI w B A n c xs) : ∃ b, IA w A n b 0 xs ∧ ((A = none ∧ c = 0) ∨ A = some ⟨b, 0, none⟩) := by
  obtain ⟨b, hI⟩ := h.ia
  rcases h.adr with ⟨a1, a2, a3⟩ | ⟨q, a1, _, _⟩
  · exact ⟨b, hI, .inl ⟨a1, a3⟩⟩
  · by_cases h0 : 0 < n
    · exact ⟨b, hI, .inr (hI.adr h0)⟩
    · have hl := hI.len
      exact ⟨q, ⟨hl, fun _ => by omega, by omega, fun i hi => by omega⟩, .inr a1⟩
theorem specTrim (A : Option Addr) (n c b o : Nat) (xs : List Int) (w : World) (h : IA w A n b o xs) (hn : n ≤ 1000000) (hc : n ≤ c) (hA : (A = none ∧ c = 0) ∨ A = some ⟨b, o, none⟩) :
    Calls Try.prog 73 #[.slice A n c] w (MadeI (trimL xs).length (trimL xs) w) := by
  have hlen := h.len
  have H := Lib.hid h
  have HL := Lib.hid hlen
  clear h hlen
  go_enter Try.func73, Try.ntmps73
  go_wp2_with (fail)
  go_loop [3] (fun i => ∃ m : Nat, m ≤ n ∧ i = .int .i64 m ∧ Hid (trimN xs m = trimN xs n)) (fun i => (intOf i).toNat)
  case atStart => exact ⟨n, by omega, rfl, rfl⟩
  case round =>
    obtain ⟨m, hm, rfl, htr⟩ := hrel
    by_cases h0 : m = 0
    · subst h0
      have hz : trimL xs = [] := by
        unfold trimL; rw [HL.out, ← htr.out]; rfl
      have HZ := Lib.hid hz
      clear hz
      have hd0 : decide ((0 : Int) < ((0 : Nat) : Int)) = false := by decide
      rcases hA with ⟨rfl, rfl⟩ | rfl
      · go_wp2_with (at_builtin; refine wpList_append_own_none rfl (.tmp 18) (.tmp 21) 23 rfl w.heap.size 3 _ 1 Try.underlying23 (info_parts infoInt).choose_spec.1 _ 0 [] rfl (OI.empty w) rfl ?_)
        go_wp2_with (fail)
        go_ret
        rw [HZ.out]
        exact ⟨_, _, rfl, OI.empty w, (Below.refl _ _).alloc (Nat.le_refl _) _⟩
      · go_wp2_with (at_builtin; refine wpList_app_ints rfl (.tmp 18) (.tmp 21) rfl w.heap.size _ 0 0 [] rfl (OI.empty w) 0 c b o [] rfl (((H.out.take (Nat.zero_le _)).below ((Below.refl _ _).alloc (Nat.le_refl _) _))) (by omega) (by simp) ?_)
        intro A2 c2 w2 hI2 hK2
        have HI2 := Lib.hid (show OI w2 w.heap.size A2 0 c2 [] by simpa using hI2)
        have hB2 : Below w.heap.size w w2 := ((Below.refl _ _).alloc (Nat.le_refl _) _).trans (hK2.below (by simp) (fun q hq => by simp [Value.ownBlock] at hq; omega))
        clear hI2 hK2
        go_wp2_with (fail)
        go_ret
        rw [HZ.out]
        exact ⟨_, _, rfl, HI2.out, hB2⟩
    · obtain ⟨x, hx, hxc⟩ := H.out.cell (m - 1) (by omega)
      obtain rfl := H.out.adr (by omega)
      have hst : trimN xs m = if x = 0 then trimN xs (m - 1) else m := by
        obtain ⟨q, rfl⟩ : ∃ q, m = q + 1 := ⟨m - 1, by omega⟩
        show (if xs.getD q 0 = 0 then trimN xs q else q + 1) = _
        rw [List.getD_eq_getElem?_getD, show xs[q]? = some x from hx]; rfl
      by_cases hx0 : x = 0
      · subst hx0
        have HT := Lib.hid (show trimN xs (m - 1) = trimN xs n by rw [← htr.out, hst]; rfl)
        clear hst hx
        go_wp2_with (fail)
        go_round
        case rel => exact ⟨m - 1, by omega, by go_num, HT⟩
        case measure => simp [intOf]; omega
      · have hx1 : (x == 0) = false := by simpa using hx0
        have hm2 : trimN xs n = m := by rw [← htr.out, hst, if_neg hx0]
        have hz : trimL xs = xs.take m := by unfold trimL; rw [HL.out, hm2]
        have HZ := Lib.hid hz
        have HI := Lib.hid (H.out.take hm)
        have hlm : (xs.take m).length = m := by rw [List.length_take, HL.out]; omega
        have HLM := Lib.hid hlm
        clear hst hx hz hm2 hlm
        go_wp2_with (at_builtin; refine wpList_app_ints rfl (.tmp 18) (.tmp 21) rfl w.heap.size _ 0 0 [] rfl (OI.empty w) m c b o (xs.take m) rfl (HI.out.below ((Below.refl _ _).alloc (Nat.le_refl _) _)) (by omega) (by simp) ?_)
        intro A2 c2 w2 hI2 hK2
        have HI2 := Lib.hid (show OI w2 w.heap.size A2 m c2 (xs.take m) by simpa using hI2)
        have hB2 : Below w.heap.size w w2 := ((Below.refl _ _).alloc (Nat.le_refl _) _).trans (hK2.below (by simp) (fun q hq => by simp [Value.ownBlock] at hq; omega))
        clear hI2 hK2
        go_wp2_with (fail)
        go_ret
        rw [HZ.out, HLM.out]
        exact ⟨_, _, rfl, HI2.out, hB2⟩
/-- the number of a sum at a place -/
def addN (p : Int) (f g : List Int) (t : Int) (k : Nat) : Int := (f.getD k 0 + t * g.getD k 0) % p
def addR (p : Int) (f g : List Int) (t : Int) : List Int := (List.range (max f.length g.length)).map (addN p f g t)
theorem addR_len (p : Int) (f g : List Int) (t : Int) : (addR p f g t).length = max f.length g.length := by simp [addR]
theorem addR_get (p : Int) (f g : List Int) (t : Int) {k : Nat} (h : k < max f.length g.length) : (addR p f g t)[k]? = some (addN p f g t k) := by unfold addR; rw [List.getElem?_map, List.getElem?_range h]; rfl
/-- the number of a product at a place -/
def conv (f g : List Int) (k : Nat) : Int := sigN (k + 1) (fun j => f.getD j 0 * g.getD (k - j) 0)
def tmsN (f g : List Int) : Nat := if f.length = 0 ∨ g.length = 0 then 0 else f.length + g.length - 1
def convR (p : Int) (f g : List Int) (many : Nat) : List Int := (List.range many).map (fun k => conv f g k % p)
theorem convR_len (p : Int) (f g : List Int) (many : Nat) : (convR p f g many).length = many := by simp [convR]
theorem convR_get (p : Int) (f g : List Int) {many k : Nat} (h : k < many) : (convR p f g many)[k]? = some (conv f g k % p) := by unfold convR; rw [List.getElem?_map, List.getElem?_range h]; rfl
theorem sigN_bd {f : Nat → Int} : ∀ {n : Nat}, (∀ k, k < n → 0 ≤ f k ∧ f k ≤ 169) → 0 ≤ sigN n f ∧ sigN n f ≤ 169 * (n : Int)
  | 0, _ => ⟨Int.le_refl _, Int.le_refl _⟩
  | n + 1, h => by
    have h1 := sigN_bd (fun k hk => h k (by omega) : ∀ k, k < n → 0 ≤ f k ∧ f k ≤ 169)
    have h2 := h n (by omega)
    show 0 ≤ sigN n f + f n ∧ sigN n f + f n ≤ _
    omega
theorem getD_bd {p : Int} {xs : List Int} (h : ∀ x ∈ xs, numB p x = true) (k : Nat) : 0 ≤ xs.getD k 0 ∧ xs.getD k 0 ≤ 13 := by
  rw [List.getD_eq_getElem?_getD]
  rcases hx : xs[k]? with _ | x
  · exact ⟨Int.le_refl _, by decide⟩
  · have := numB_bd (h x (List.mem_of_getElem? hx))
    simp only [Option.getD_some]; omega
theorem conv_bd {p : Int} {f g : List Int} (hf : ∀ x ∈ f, numB p x = true) (hg : ∀ x ∈ g, numB p x = true) (k n : Nat) : 0 ≤ sigN n (fun j => f.getD j 0 * g.getD (k - j) 0) ∧ sigN n (fun j => f.getD j 0 * g.getD (k - j) 0) ≤ 169 * (n : Int) :=
  sigN_bd fun j _ => mul_bd (getD_bd hf j).1 (getD_bd hf j).2 (getD_bd hg _).1 (getD_bd hg _).2
theorem getD_far {xs : List Int} {k : Nat} (h : xs.length ≤ k) : xs.getD k 0 = 0 := by rw [List.getD_eq_getElem?_getD, List.getElem?_eq_none h]; rfl
theorem getD_at {xs : List Int} {k : Nat} {x : Int} (h : xs[k]? = some x) : xs.getD k 0 = x := by rw [List.getD_eq_getElem?_getD, h]; rfl
end Go.Proofs.Ytdecaokngedghaa

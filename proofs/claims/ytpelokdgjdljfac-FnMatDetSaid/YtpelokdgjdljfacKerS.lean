/-
  The contract of the model's MatKernel.
-/
import Derived.Test.YtpelokdgjdljfacKern
import Derived.Maps.AppendAt
namespace Go.Proofs.Ytpelokdgjdljfac
open Go.RowKit
theorem wpList_app_row_at {ops : Array Oper} {rest : List Oper} {o : Oper} {a : Act} {Q : Exit → Act → World → Prop} {w : World} (hgd : o.guard = none) (s x : Operand)
    (ho : o.op = .call { callee := .builtin .append, args := #[s, x], argTypes := #[23, 23] })
    (B : Nat) (A : Option Addr) (n c : Nat) (vs : List Value) (hs : a.eval s = .slice A n c) (hown : w.ownsRow B 29 1 (.slice A n c) n vs) (A1 : Option Addr) (n1 c1 : Nat) (g c2 : Nat) (hx : a.eval x = .slice (some ⟨g, 0, none⟩) 1 c2) (hcell : w.cell? ⟨g, 0, none⟩ = some (.slice A1 n1 c1))
    (hn : n ≤ 1000000000) (hB : B ≤ w.heap.size)
    (h : ∀ (A' : Option Addr) (c' : Nat) (w' : World), w'.ownsRow B 29 1 (.slice A' (n + 1) c') (n + 1) (vs ++ [.slice A1 n1 c1]) → Keep (fun k => (Value.slice A n c).ownBlock = some k) w w' →
      (∀ q, (Value.slice A' (n + 1) c').ownBlock = some q → (Value.slice A n c).ownBlock = some q ∨ q = w.heap.size) → wpList Try.prog ops Q rest (a.put o.dst (.slice A' (n + 1) c')) w') :
    wpList Try.prog ops Q (o :: rest) a w := by
  obtain ⟨i0, hi, hz0, hz1, hz2⟩ := info_parts infoInts
  refine wpList_append_own_at w hgd s x 23 ho B 29 i0 (.slice none 0 0) 1 24 Try.underlying23 hi hz0 hz1 hz2 rfl (by decide) _ n vs hs hown ⟨g, 0, none⟩ 1 c2 [.slice A1 n1 c1] hx rfl ?_ ?_ ?_ ?_ hB ?_
  · intro j u hj
    match j, hj with
    | 0, hj => simp at hj; subst hj; simpa [Addr.add] using hcell
  · intro u hu; simp at hu; subst hu; rfl
  · unfold maxLen; omega
  · omega
  · intro v' w' h2 h3 _ h5
    obtain ⟨A', c', rfl⟩ := owns_shape h2
    refine h A' c' w' h2 (keep_grown h3) fun q hq => ?_
    rcases h5 with h5 | h5
    · exact .inl (h5 ▸ hq)
    · rw [h5] at hq; exact .inr (Option.some.inj hq).symm
/-- a list's first numbers, one more -/
theorem notin_step {hs : List Nat} {k f q : Nat} (hk : k < hs.length) (hq : hs.getD k 0 = q) : decide (f ∉ hs.take (k + 1)) = (decide (f ∉ hs.take k) && ((q : Int) != (f : Int))) := by
  have hg : hs[k]? = some q := by
    rw [← hq, List.getD_eq_getElem?_getD, List.getElem?_eq_getElem hk]; rfl
  rw [List.take_add_one, hg]
  by_cases h1 : f ∈ hs.take k
  · have h2 : f ∈ hs.take k ++ (some q).toList := List.mem_append_left _ h1
    simp [h1]
  · by_cases h2 : q = f
    · subst h2; simp
    · have h3 : ((q : Int) != (f : Int)) = true := neInt h2
      have h4 : f ∉ hs.take k ++ (some q).toList := by simp [h1]; omega
      rw [decide_eq_true h4, decide_eq_true h1, h3]; rfl
theorem kerM_rows (p : Int) (F : List (List Int)) (hs : List Nat) (l : Nat) : ∀ c, ∀ row ∈ kerM p F hs l c, row.length = l
  | 0 => by intro row h; simp [kerM] at h
  | c + 1 => by
    intro row h
    by_cases hc : c ∈ hs
    · rw [kerM_stay hc] at h; exact kerM_rows p F hs l c row h
    · rw [kerM_go hc] at h
      rcases List.mem_append.1 h with h | h
      · exact kerM_rows p F hs l c row h
      · simp at h; rw [h]; exact kerFill_len _ _ _ _ _ _
theorem kernelR_tot (p : Int) (M : List (List Int)) : tot (kernelR p M) ≤ 64 := by
  rcases h : matB p M
  · rw [kernelR_no h]; simp [tot]
  · rw [kernelR_yes h]
    obtain ⟨h1, h2, h3, h4, _⟩ := matB_true h
    obtain ⟨l0, hl0⟩ : ∃ l0, (M.headD []).length = l0 := ⟨_, rfl⟩
    rw [hl0] at h4 ⊢
    have ht := tot_rows (kerM p (elim p M l0).1 (elim p M l0).2 l0 l0) 8 (fun row hr => by rw [kerM_rows _ _ _ _ _ row hr]; omega)
    have hl := kerM_len_le p (elim p M l0).1 (elim p M l0).2 l0 l0
    omega
end Go.Proofs.Ytpelokdgjdljfac

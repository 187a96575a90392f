/-
  Plain mathematics of the kernel; the contracts of the program's MatKernel and of what it calls.
  The contract of the model's MatKernel.
  Plain mathematics of MatSolve; the contract of the program's.
-/
import Derived.Test.YtcjpjcigjljplaaFormM
import Derived.Maps.AppendAt
import Derived.Test.YtcjpjcigjljplaaRowV
namespace Go.Proofs.Ytcjpjcigjljplaa
open Go.RowKit
def kerFill (p : Int) (F : List (List Int)) (hs : List Nat) (c l : Nat) : Nat → List Int
  | 0 => (List.replicate l 0).set c 1
  | k + 1 => (kerFill p F hs c l k).set (hs.getD k 0) (-(at2 F k c) % p)
theorem kerFill_len (p : Int) (F : List (List Int)) (hs : List Nat) (c l : Nat) : ∀ k, (kerFill p F hs c l k).length = l
  | 0 => by simp [kerFill]
  | k + 1 => by simp [kerFill, kerFill_len p F hs c l k]
def kerM (p : Int) (F : List (List Int)) (hs : List Nat) (l : Nat) : Nat → List (List Int)
  | 0 => []
  | c + 1 => if c ∈ hs then kerM p F hs l c else kerM p F hs l c ++ [kerFill p F hs c l hs.length]
theorem kerM_stay {p : Int} {F : List (List Int)} {hs : List Nat} {l c : Nat} (h : c ∈ hs) : kerM p F hs l (c + 1) = kerM p F hs l c := by
  show (if c ∈ hs then _ else _) = _
  rw [if_pos h]
theorem kerM_go {p : Int} {F : List (List Int)} {hs : List Nat} {l c : Nat} (h : c ∉ hs) : kerM p F hs l (c + 1) = kerM p F hs l c ++ [kerFill p F hs c l hs.length] := by
  show (if c ∈ hs then _ else _) = _
  rw [if_neg h]
theorem kerM_len_le (p : Int) (F : List (List Int)) (hs : List Nat) (l : Nat) : ∀ c, (kerM p F hs l c).length ≤ c
  | 0 => by simp [kerM]
  | c + 1 => by
    have := kerM_len_le p F hs l c
    by_cases h : c ∈ hs
    · rw [kerM_stay h]; omega
    · rw [kerM_go h]; simp; omega
def kernelR (p : Int) (M : List (List Int)) : List (List Int) :=
  if matB p M = true then kerM p (elim p M (M.headD []).length).1 (elim p M (M.headD []).length).2 (M.headD []).length (M.headD []).length else []
theorem kernelR_yes {p : Int} {M : List (List Int)} (h : matB p M = true) : kernelR p M = kerM p (elim p M (M.headD []).length).1 (elim p M (M.headD []).length).2 (M.headD []).length (M.headD []).length := by unfold kernelR; rw [if_pos h]
theorem kernelR_no {p : Int} {M : List (List Int)} (h : matB p M = false) : kernelR p M = [] := by unfold kernelR; rw [if_neg (by simp [h])]
theorem elim_heads (p : Int) (M : List (List Int)) : ∀ c, ∀ h ∈ (elim p M c).2, h < c
  | 0 => by intro h hh; simp [elim] at hh
  | c + 1 => by
    intro h hh
    change h ∈ (stepE p (elim p M c).1 (elim p M c).2 c).2 at hh
    unfold stepE at hh
    split at hh
    · have := elim_heads p M c h hh; omega
    · rcases List.mem_append.1 hh with hh | hh
      · have := elim_heads p M c h hh; omega
      · simp at hh; omega
theorem headI_mem {hs : List Nat} {c : Nat} : (c : Int) ∈ headI hs ↔ c ∈ hs := by
  unfold headI
  rw [List.mem_map]
  exact ⟨fun ⟨a, h1, h2⟩ => by have : a = c := by omega
                               exact this ▸ h1, fun h => ⟨c, h, rfl⟩⟩
theorem headI_get {hs : List Nat} {k : Nat} (h : k < hs.length) : (headI hs)[k]? = some ((hs.getD k 0 : Nat) : Int) := by
  unfold headI; rw [List.getElem?_map, List.getD_eq_getElem?_getD, List.getElem?_eq_getElem h]; rfl
theorem getD_mem_nat {hs : List Nat} {k : Nat} (h : k < hs.length) : hs.getD k 0 ∈ hs := by
  rw [List.getD_eq_getElem?_getD, List.getElem?_eq_getElem h]; exact List.getElem_mem h
def IndexPost (v : Int) (xs : List Int) (w : World) (e : Ending) (w' : World) : Prop := (∃ x : Int, e = .returned (.int .i64 x) ∧ decide (x ≥ 0) = decide (v ∈ xs)) ∧ w = w'
theorem implIndex (A : Option Addr) (n c b o : Nat) (xs : List Int) (v : Int) (w : World) (h : IA w A n b o xs) :
    Calls Try.prog 100 #[.slice A n c, .int .i64 v] w (IndexPost v xs w) := by
  have hbig := h.big
  have H := Lib.hid h
  clear h
  go_enter Try.func100, Try.ntmps100
  go_wp2_with (fail)
  go_loop [8] (fun i => ∃ k : Nat, k ≤ n ∧ i = .int .i64 k ∧ Hid (∀ j y, j < k → xs[j]? = some y → y ≠ v)) (fun i => n - (intOf i).toNat)
  case atStart => exact ⟨0, by omega, rfl, fun j y h => absurd h (by omega)⟩
  case round =>
    obtain ⟨k, hk, rfl, hz⟩ := hrel
    by_cases hlt : k < n
    · obtain rfl := H.out.adr (by omega)
      obtain ⟨x, hx, hxc⟩ := H.out.cell k hlt
      by_cases he : v = x
      · subst he
        have hb : (v == v) = true := by simp
        have HM := Lib.hid (List.mem_of_getElem? hx)
        clear hx
        go_wp2_with (fail)
        go_ret
        exact ⟨⟨_, rfl, by rw [decide_eq_true HM.out]; simp⟩, rfl⟩
      · have hb : (v == x) = false := by simp [he]
        have HX := Lib.hid hx
        have HE := Lib.hid he
        clear hx he
        go_wp2_with (fail)
        go_round
        case rel => exact ⟨k + 1, by omega, by go_num, fun j y h1 h2 => if e : j = k then by (rw [e, HX.out] at h2; intro e2; exact HE.out (e2 ▸ (Option.some.inj h2).symm)) else hz.out j y (by omega) h2⟩
        case measure => simp [intOf]; omega
    · obtain rfl : k = n := by omega
      go_wp2_with (fail)
      go_ret
      refine ⟨⟨_, rfl, ?_⟩, rfl⟩
      rw [show decide (v ∈ xs) = false from decide_eq_false (fun hm => by
        obtain ⟨j, hj, he⟩ := List.getElem_of_mem hm
        exact hz.out j v (by rw [← H.out.len]; exact hj) (by rw [List.getElem?_eq_getElem hj, he]) rfl)]
      simp
def BoolSame (t : Bool) (w : World) (e : Ending) (w' : World) : Prop := e = .returned (.bool t) ∧ w = w'
theorem implContains (A : Option Addr) (n c b o : Nat) (xs : List Int) (v : Int) (w : World) (h : IA w A n b o xs) :
    Calls Try.prog 87 #[.slice A n c, .int .i64 v] w (BoolSame (decide (v ∈ xs)) w) := by
  have H := Lib.hid h
  clear h
  go_enter Try.func87, Try.ntmps87
  go_wp2_with (fail)
  refine (implIndex A n c b o xs v _ H.out).mono ?_
  rintro e w' ⟨⟨x, rfl, hx⟩, rfl⟩
  go_wp2_with (fail)
  go_ret
  exact ⟨by rw [← hx]; rfl, rfl⟩
end Go.Proofs.Ytcjpjcigjljplaa
namespace Go.Proofs.Ytcjpjcigjljplaa
open Go.RowKit
theorem wpList_app_row_at {ops : Array Oper} {rest : List Oper} {o : Oper} {a : Act} {Q : Exit → Act → World → Prop} {w : World} (hgd : o.guard = none) (s x : Operand)
    (ho : o.op = .call { callee := .builtin .append, args := #[s, x], argTypes := #[26, 26] })
    (B : Nat) (A : Option Addr) (n c : Nat) (vs : List Value) (hs : a.eval s = .slice A n c) (hown : w.ownsRow B 23 1 (.slice A n c) n vs) (A1 : Option Addr) (n1 c1 : Nat) (g c2 : Nat) (hx : a.eval x = .slice (some ⟨g, 0, none⟩) 1 c2) (hcell : w.cell? ⟨g, 0, none⟩ = some (.slice A1 n1 c1))
    (hn : n ≤ 1000000000) (hB : B ≤ w.heap.size)
    (h : ∀ (A' : Option Addr) (c' : Nat) (w' : World), w'.ownsRow B 23 1 (.slice A' (n + 1) c') (n + 1) (vs ++ [.slice A1 n1 c1]) → Keep (fun k => (Value.slice A n c).ownBlock = some k) w w' →
      (∀ q, (Value.slice A' (n + 1) c').ownBlock = some q → (Value.slice A n c).ownBlock = some q ∨ q = w.heap.size) → wpList Try.prog ops Q rest (a.put o.dst (.slice A' (n + 1) c')) w') :
    wpList Try.prog ops Q (o :: rest) a w := by
  obtain ⟨i0, hi, hz0, hz1, hz2⟩ := info_parts infoInts
  refine wpList_append_own_at w hgd s x 26 ho B 23 i0 (.slice none 0 0) 1 24 Try.underlying26 hi hz0 hz1 hz2 rfl (by decide) _ n vs hs hown ⟨g, 0, none⟩ 1 c2 [.slice A1 n1 c1] hx rfl ?_ ?_ ?_ ?_ hB ?_
  · intro j u hj
    match j, hj with
    | 0, hj => simp at hj; subst hj; simpa [Addr.add] using hcell
  · intro u hu; simp at hu; subst hu; rfl
  · unfold maxLen; omega
  · omega
  · intro v' w' h2 h3 _ h5
    obtain ⟨A', c', rfl⟩ := owns_shape h2
    refine h A' c' w' h2 (keep_grown h3) fun q hq => ?_
    rcases h5 with h5 | h5
    · exact .inl (h5 ▸ hq)
    · rw [h5] at hq; exact .inr (Option.some.inj hq).symm
/-- a list's first numbers, one more -/
theorem notin_step {hs : List Nat} {k f q : Nat} (hk : k < hs.length) (hq : hs.getD k 0 = q) : decide (f ∉ hs.take (k + 1)) = (decide (f ∉ hs.take k) && ((q : Int) != (f : Int))) := by
  have hg : hs[k]? = some q := by
    rw [← hq, List.getD_eq_getElem?_getD, List.getElem?_eq_getElem hk]; rfl
  rw [List.take_add_one, hg]
  by_cases h1 : f ∈ hs.take k
  · have h2 : f ∈ hs.take k ++ (some q).toList := List.mem_append_left _ h1
    simp [h1]
  · by_cases h2 : q = f
    · subst h2; simp
    · have h3 : ((q : Int) != (f : Int)) = true := neInt h2
      have h4 : f ∉ hs.take k ++ (some q).toList := by simp [h1]; omega
      rw [decide_eq_true h4, decide_eq_true h1, h3]; rfl
theorem kerM_rows (p : Int) (F : List (List Int)) (hs : List Nat) (l : Nat) : ∀ c, ∀ row ∈ kerM p F hs l c, row.length = l
  | 0 => by intro row h; simp [kerM] at h
  | c + 1 => by
    intro row h
    by_cases hc : c ∈ hs
    · rw [kerM_stay hc] at h; exact kerM_rows p F hs l c row h
    · rw [kerM_go hc] at h
      rcases List.mem_append.1 h with h | h
      · exact kerM_rows p F hs l c row h
      · simp at h; rw [h]; exact kerFill_len _ _ _ _ _ _
theorem kernelR_tot (p : Int) (M : List (List Int)) : tot (kernelR p M) ≤ 64 := by
  rcases h : matB p M
  · rw [kernelR_no h]; simp [tot]
  · rw [kernelR_yes h]
    obtain ⟨h1, h2, h3, h4, _⟩ := matB_true h
    obtain ⟨l0, hl0⟩ : ∃ l0, (M.headD []).length = l0 := ⟨_, rfl⟩
    rw [hl0] at h4 ⊢
    have ht := tot_rows (kerM p (elim p M l0).1 (elim p M l0).2 l0 l0) 8 (fun row hr => by rw [kerM_rows _ _ _ _ _ row hr]; omega)
    have hl := kerM_len_le p (elim p M l0).1 (elim p M l0).2 l0 l0
    omega
end Go.Proofs.Ytcjpjcigjljplaa
namespace Go.Proofs.Ytcjpjcigjljplaa
open Go.RowKit
def widenM (M : List (List Int)) (want : List Int) : List (List Int) := List.zipWith (fun r x => r ++ [x]) M want
def solFill (F : List (List Int)) (hs : List Nat) (l : Nat) : Nat → List Int
  | 0 => List.replicate l 0
  | k + 1 => (solFill F hs l k).set (hs.getD k 0) (at2 F k l)
def okS (p : Int) (M : List (List Int)) (want : List Int) : Bool := matB p M && (decide (want.length = M.length) && rowB p want)
def solveW (p : Int) (W : List (List Int)) (l : Nat) : Option (List Int) :=
  match firstW (elim p W l).1 l ((elim p W l).1.length - (elim p W l).2.length) (elim p W l).2.length with
  | none => some (solFill (elim p W l).1 (elim p W l).2 l (elim p W l).2.length)
  | some _ => none
def solveR (p : Int) (M : List (List Int)) (want : List Int) : Option (List Int) := if okS p M want = true then solveW p (widenM M want) (M.headD []).length else none
theorem solFill_len (F : List (List Int)) (hs : List Nat) (l : Nat) : ∀ k, (solFill F hs l k).length = l
  | 0 => by simp [solFill]
  | k + 1 => by simp [solFill, solFill_len F hs l k]
theorem widenM_len {M : List (List Int)} {want : List Int} (h : want.length = M.length) : (widenM M want).length = M.length := by simp [widenM, h]
theorem widenM_get {M : List (List Int)} {want : List Int} {k : Nat} {row : List Int} {x : Int} (hr : M[k]? = some row) (hx : want[k]? = some x) : (widenM M want)[k]? = some (row ++ [x]) := by
  simp [widenM, List.getElem?_zipWith, hr, hx]
theorem VM.widen {p : Int} {l : Nat} {M : List (List Int)} {want : List Int} (h : VM p l M) (hw : ∀ x ∈ want, numB p x = true) : VM p (l + 1) (widenM M want) := by
  intro row hr
  obtain ⟨k, hk, rfl⟩ := List.getElem_of_mem hr
  simp only [widenM, List.getElem_zipWith]
  have h1 : k < M.length := by simp [widenM] at hk; omega
  have h2 : k < want.length := by simp [widenM] at hk; omega
  obtain ⟨g1, g2⟩ := h M[k] (List.getElem_mem h1)
  refine ⟨by simp [g1], fun x hx => ?_⟩
  rcases List.mem_append.1 hx with hx | hx
  · exact g2 x hx
  · simp at hx; rw [hx]; exact hw _ (List.getElem_mem h2)
/-- the answer of MatSolve: a row, and whether there is one -/
def MadeS (R : Option (List Int)) (w : World) (e : Ending) (w' : World) : Prop :=
  ∃ (A : Option Addr) (c : Nat), e = .returned (.tuple #[.slice A (R.getD []).length c, .bool R.isSome]) ∧ OI w' w.heap.size A (R.getD []).length c (R.getD []) ∧ Below w.heap.size w w'
theorem MadeS.nil {w w' : World} (hb : Below w.heap.size w w') : MadeS none w (.returned (.tuple #[.slice none 0 0, .bool false])) w' := ⟨none, 0, rfl, World.ownsRow_nil _ _ _ _, hb⟩
theorem solveR_no {p : Int} {M : List (List Int)} {want : List Int} (h : okS p M want = false) : solveR p M want = none := by unfold solveR; rw [if_neg (by simp [h])]
theorem solveR_yes {p : Int} {M : List (List Int)} {want : List Int} (h : okS p M want = true) : solveR p M want = solveW p (widenM M want) (M.headD []).length := by unfold solveR; rw [if_pos h]
theorem solveW_yes {p : Int} {W : List (List Int)} {l : Nat} (h : firstW (elim p W l).1 l ((elim p W l).1.length - (elim p W l).2.length) (elim p W l).2.length = none) : solveW p W l = some (solFill (elim p W l).1 (elim p W l).2 l (elim p W l).2.length) := by unfold solveW; rw [h]
theorem solveW_no {p : Int} {W : List (List Int)} {l r : Nat} (h : firstW (elim p W l).1 l ((elim p W l).1.length - (elim p W l).2.length) (elim p W l).2.length = some r) : solveW p W l = none := by unfold solveW; rw [h]
/-- copy of a shorter slice to the beginning of one of the call's own -/
theorem wpList_cpy2 {ops : Array Oper} {rest : List Oper} {o : Oper} {a : Act} {Q : Exit → Act → World → Prop} {w : World} (hgd : o.guard = none) (d s : Operand)
    (ho : o.op = .call { callee := .builtin .copy, args := #[d, s], argTypes := #[23, 23] })
    (B g n c : Nat) (xs : List Int) (hd : a.eval d = .slice (some ⟨g, 0, none⟩) n c) (hown : OI w B (some ⟨g, 0, none⟩) n c xs) (m c1 b1 o1 : Nat) (hmn : m ≤ n) (ys : List Int) (hs : a.eval s = .slice (some ⟨b1, o1, none⟩) m c1) (hsrc : IA w (some ⟨b1, o1, none⟩) m b1 o1 ys)
    (h : ∀ w' v, OI w' B (some ⟨g, 0, none⟩) n c (ys ++ xs.drop m) → Keep (· = g) w w' → wpList Try.prog ops Q rest (a.put o.dst v) w') :
    wpList Try.prog ops Q (o :: rest) a w := by
  have hys := hsrc.len
  have hxl := hown.len
  rcases hown.2 with ⟨h1, _⟩ | ⟨g', cap, cur, hv, hb, hg, hnc, hcm, hcs, htk⟩
  · simp at h1
  · simp only [Value.slice.injEq, Option.some.injEq, Addr.mk.injEq, and_true, true_and] at hv
    obtain ⟨rfl, rfl⟩ := hv
    have hcl : cur.toList.length = cur.size := by simp
    refine wpList_copy_own hgd d s 23 23 ho 3 Try.underlying23 infoSize g 0 n c ⟨b1, o1, none⟩ m c1 hd hs cur 3 hg (ints ys) (by rw [ints_len, hys]; exact (Nat.min_eq_left hmn).symm) hsrc.src (by rw [ints_len, hys]; omega) (ints_one ys) ?_
    refine h _ _ ⟨by rw [ints_len, List.length_append, List.length_drop, hys, hxl]; omega, .inr ⟨g, c, _, rfl, hb, setRow_heap w g _ _ 3 _ hg, hnc, hcm, ?_, ?_⟩⟩ ⟨rfl, rfl, rfl, by simp [World.setRow], fun k _ hk => setRow_other w g k _ hk⟩
    · simp [ints_len, hys]; omega
    · simp only [Nat.mul_one] at htk ⊢
      simp only [List.take_zero, List.nil_append, ints_len, hys, Nat.zero_add]
      rw [List.take_append, ints_len, hys, List.take_of_length_le (by rw [ints_len, hys]; exact hmn)]
      rw [← List.drop_take, htk]
      simp [ints]
end Go.Proofs.Ytcjpjcigjljplaa

/-
  Plain mathematics: rows taken from each other. What the elimination of chapter 1 computes, step by step; that it keeps valid rows valid.
  The contracts of slices.Clone over numbers, RecTimes of the program.
  RecNext: what it answers, rows of the call's own that begin anywhere, and the program's contract.
  The contract of the program's RecNext.
-/
import Derived.Test.YtghiaflnlobopaaMathB
import Derived.Deep.RegionHeld3
import Derived.Test.YtghiaflnlobopaaBxs
import Derived.Test.YtghiaflnlobopaaSRPol
namespace Go.Proofs.Ytghiaflnlobopaa
/-- the number at a row and a column -/
def at2 (M : List (List Int)) (i j : Nat) : Int := (M.getD i []).getD j 0
/-- the first row from a given one on that is not 0 in a column -/
def firstW (M : List (List Int)) (col : Nat) : Nat → Nat → Option Nat
  | 0, _ => none
  | f + 1, i => if at2 M i col ≠ 0 then some i else firstW M col f (i + 1)
def swapM (M : List (List Int)) (i j : Nat) : List (List Int) := (M.set i (M.getD j [])).set j (M.getD i [])
def scaleRow (p t : Int) (row : List Int) : List Int := row.map fun x => x * t % p
def subRow (p t : Int) (row taken : List Int) : List Int := List.zipWith (fun x y => (x - t * y) % p) row taken
/-- row i less so many times the chosen one that it is 0 in the column -/
def clearRow (p : Int) (M : List (List Int)) (top col i : Nat) : List Int := if i = top then M.getD i [] else subRow p (at2 M i col) (M.getD i []) (M.getD top [])
def clearM (p : Int) (M : List (List Int)) (top col : Nat) : List (List Int) := (List.range M.length).map (clearRow p M top col)
def chooseM (p : Int) (M : List (List Int)) (r top col : Nat) : List (List Int) := (swapM M r top).set top (scaleRow p (invM p (at2 (swapM M r top) top col)) ((swapM M r top).getD top []))
def stepE (p : Int) (M : List (List Int)) (heads : List Nat) (col : Nat) : List (List Int) × List Nat :=
  match firstW M col (M.length - heads.length) heads.length with
  | none => (M, heads)
  | some r => (clearM p (chooseM p M r heads.length col) heads.length col, heads ++ [col])
def elim (p : Int) (M : List (List Int)) : Nat → List (List Int) × List Nat
  | 0 => (M, [])
  | c + 1 => stepE p (elim p M c).1 (elim p M c).2 c
/-- rows of one length, of valid numbers -/
def VM (p : Int) (l : Nat) (M : List (List Int)) : Prop := ∀ row ∈ M, row.length = l ∧ ∀ x ∈ row, numB p x = true
theorem VM.getD {p : Int} {l : Nat} {M : List (List Int)} (h : VM p l M) {i : Nat} (hi : i < M.length) : (M.getD i []).length = l ∧ ∀ x ∈ M.getD i [], numB p x = true := by
  rw [List.getD_eq_getElem?_getD, List.getElem?_eq_getElem hi]; exact h _ (List.getElem_mem hi)
theorem VM.at2 {p : Int} {l : Nat} {M : List (List Int)} (h : VM p l M) {i j : Nat} (hi : i < M.length) (hj : j < l) : numB p (at2 M i j) = true := by
  obtain ⟨h1, h2⟩ := h.getD hi
  unfold Go.Proofs.Ytghiaflnlobopaa.at2
  generalize M.getD i [] = row at *
  rw [List.getD_eq_getElem?_getD, List.getElem?_eq_getElem (by omega)]; exact h2 _ (List.getElem_mem _)
theorem firstW_some {M : List (List Int)} {col : Nat} : ∀ {f i r : Nat}, firstW M col f i = some r → i ≤ r ∧ r < i + f ∧ at2 M r col ≠ 0 ∧ ∀ k, i ≤ k → k < r → at2 M k col = 0
  | 0, i, r, h => by simp [firstW] at h
  | f + 1, i, r, h => by
    unfold firstW at h
    split at h
    · rename_i hne
      obtain rfl := Option.some.inj h
      exact ⟨Nat.le_refl _, by omega, hne, fun k h1 h2 => absurd h2 (by omega)⟩
    · rename_i he
      obtain ⟨h1, h2, h3, h4⟩ := firstW_some h
      refine ⟨by omega, by omega, h3, fun k hk1 hk2 => ?_⟩
      by_cases e : k = i
      · subst e; exact Decidable.of_not_not he
      · exact h4 k (by omega) hk2
theorem firstW_none {M : List (List Int)} {col : Nat} : ∀ {f i : Nat}, firstW M col f i = none → ∀ k, i ≤ k → k < i + f → at2 M k col = 0
  | 0, i, _ => by intro k h1 h2; omega
  | f + 1, i, h => by
    unfold firstW at h
    split at h
    · simp at h
    · rename_i he
      intro k hk1 hk2
      by_cases e : k = i
      · subst e; exact Decidable.of_not_not he
      · exact firstW_none h k (by omega) (by omega)
theorem firstW_is {M : List (List Int)} {col : Nat} : ∀ {f i r : Nat}, i ≤ r → r < i + f → at2 M r col ≠ 0 → (∀ k, i ≤ k → k < r → at2 M k col = 0) → firstW M col f i = some r
  | 0, i, r, h1, h2, _, _ => by omega
  | f + 1, i, r, h1, h2, h3, h4 => by
    unfold firstW
    by_cases e : i = r
    · subst e; rw [if_pos h3]
    · rw [if_neg (by have := h4 i (Nat.le_refl _) (by omega); simp [this])]
      exact firstW_is (by omega) (by omega) h3 (fun k hk1 hk2 => h4 k (by omega) hk2)
theorem firstW_not {M : List (List Int)} {col : Nat} : ∀ {f i : Nat}, (∀ k, i ≤ k → k < i + f → at2 M k col = 0) → firstW M col f i = none
  | 0, i, _ => rfl
  | f + 1, i, h => by
    unfold firstW
    rw [if_neg (by have := h i (Nat.le_refl _) (by omega); simp [this])]
    exact firstW_not (fun k hk1 hk2 => h k (by omega) (by omega))
theorem mem_set_cases {α : Type} {l : List α} {i : Nat} {a x : α} (h : x ∈ l.set i a) : x ∈ l ∨ x = a := List.mem_or_eq_of_mem_set h
theorem swapM_len (M : List (List Int)) (i j : Nat) : (swapM M i j).length = M.length := by simp [swapM]
theorem getD_mem {M : List (List Int)} {i : Nat} (h : i < M.length) : M.getD i [] ∈ M := by
  rw [List.getD_eq_getElem?_getD, List.getElem?_eq_getElem h]; exact List.getElem_mem h
theorem swapM_mem {M : List (List Int)} {i j : Nat} (hi : i < M.length) (hj : j < M.length) {row : List Int} (h : row ∈ swapM M i j) : row ∈ M := by
  unfold swapM at h
  rcases mem_set_cases h with h | rfl
  · rcases mem_set_cases h with h | rfl
    · exact h
    · exact getD_mem hj
  · exact getD_mem hi
theorem VM.swap {p : Int} {l : Nat} {M : List (List Int)} (h : VM p l M) {i j : Nat} (hi : i < M.length) (hj : j < M.length) : VM p l (swapM M i j) := fun row hr => h row (swapM_mem hi hj hr)
theorem VM.set {p : Int} {l : Nat} {M : List (List Int)} (h : VM p l M) {i : Nat} {row : List Int} (hl : row.length = l) (hv : ∀ x ∈ row, numB p x = true) : VM p l (M.set i row) := by
  intro r hr
  rcases mem_set_cases hr with hr | rfl
  · exact h r hr
  · exact ⟨hl, hv⟩
theorem scaleRow_len (p t : Int) (row : List Int) : (scaleRow p t row).length = row.length := by simp [scaleRow]
theorem scaleRow_valid {p t : Int} (hp : primeB p = true) (row : List Int) : ∀ x ∈ scaleRow p t row, numB p x = true := by
  intro x hx
  obtain ⟨y, _, rfl⟩ := List.mem_map.1 hx
  exact numB_emod hp _
theorem subRow_len (p t : Int) (row taken : List Int) (h : row.length = taken.length) : (subRow p t row taken).length = row.length := by simp [subRow, h]
theorem zipWith_mem {α β γ : Type} (f : α → β → γ) : ∀ {l1 : List α} {l2 : List β} {x : γ}, x ∈ List.zipWith f l1 l2 → ∃ a b, f a b = x
  | [], _, x, h => by simp at h
  | _ :: _, [], x, h => by simp at h
  | a :: l1, b :: l2, x, h => by
    simp only [List.zipWith_cons_cons, List.mem_cons] at h
    rcases h with rfl | h
    · exact ⟨a, b, rfl⟩
    · exact zipWith_mem f h
theorem subRow_valid {p t : Int} (hp : primeB p = true) (row taken : List Int) : ∀ x ∈ subRow p t row taken, numB p x = true := by
  intro x hx
  obtain ⟨a, b, rfl⟩ := zipWith_mem _ hx
  exact numB_emod hp _
theorem clearM_len (p : Int) (M : List (List Int)) (top col : Nat) : (clearM p M top col).length = M.length := by simp [clearM]
theorem clearM_get (p : Int) (M : List (List Int)) (top col i : Nat) (h : i < M.length) : (clearM p M top col)[i]? = some (clearRow p M top col i) := by
  unfold clearM; rw [List.getElem?_map, List.getElem?_range h]; rfl
theorem clearRow_valid {p : Int} (hp : primeB p = true) {l : Nat} {M : List (List Int)} (h : VM p l M) {top col i : Nat} (ht : top < M.length) (hi : i < M.length) : (clearRow p M top col i).length = l ∧ ∀ x ∈ clearRow p M top col i, numB p x = true := by
  unfold clearRow
  split
  · exact h.getD hi
  · exact ⟨by rw [subRow_len _ _ _ _ (by rw [(h.getD hi).1, (h.getD ht).1])]; exact (h.getD hi).1, subRow_valid hp _ _⟩
theorem VM.clear {p : Int} (hp : primeB p = true) {l : Nat} {M : List (List Int)} (h : VM p l M) {top col : Nat} (ht : top < M.length) : VM p l (clearM p M top col) := by
  intro row hr
  unfold clearM at hr
  obtain ⟨i, hi, rfl⟩ := List.mem_map.1 hr
  exact clearRow_valid hp h ht (List.mem_range.1 hi)
theorem chooseM_len (p : Int) (M : List (List Int)) (r top col : Nat) : (chooseM p M r top col).length = M.length := by simp [chooseM, swapM_len]
theorem VM.choose {p : Int} (hp : primeB p = true) {l : Nat} {M : List (List Int)} (h : VM p l M) {r top col : Nat} (hr : r < M.length) (ht : top < M.length) : VM p l (chooseM p M r top col) := by
  unfold chooseM
  exact (h.swap hr ht).set (by rw [scaleRow_len]; exact ((h.swap hr ht).getD (by rw [swapM_len]; exact ht)).1) (scaleRow_valid hp _)
/-- what holds of the elimination at each column -/
theorem elim_inv {p : Int} (hp : primeB p = true) {l : Nat} {M : List (List Int)} (h : VM p l M) : ∀ c, (elim p M c).1.length = M.length ∧ VM p l (elim p M c).1 ∧ (elim p M c).2.length ≤ M.length ∧ (elim p M c).2.length ≤ c
  | 0 => ⟨rfl, h, Nat.zero_le _, Nat.le_refl _⟩
  | c + 1 => by
    obtain ⟨h1, h2, h3, h4⟩ := elim_inv hp h c
    show (stepE p (elim p M c).1 (elim p M c).2 c).1.length = _ ∧ VM p l (stepE p (elim p M c).1 (elim p M c).2 c).1 ∧ (stepE p (elim p M c).1 (elim p M c).2 c).2.length ≤ _ ∧ (stepE p (elim p M c).1 (elim p M c).2 c).2.length ≤ _
    unfold stepE
    split
    · exact ⟨h1, h2, h3, by simp only; omega⟩
    · rename_i r hr
      obtain ⟨g1, g2, _, _⟩ := firstW_some hr
      refine ⟨by simp only; rw [clearM_len, chooseM_len, h1], ?_, by simp only [List.length_append, List.length_singleton]; omega, by simp only [List.length_append, List.length_singleton]; omega⟩
      exact (h2.choose hp (by omega) (by omega)).clear hp (by rw [chooseM_len]; omega)
end Go.Proofs.Ytghiaflnlobopaa
namespace Go.Proofs.Ytghiaflnlobopaa
open Go.RowKit
theorem mixI_set {xs ys : List Int} {k : Nat} {y : Int} (hl : ys.length = xs.length) (hy : ys[k]? = some y) : (ys.take k ++ xs.drop k).set k y = ys.take (k + 1) ++ xs.drop (k + 1) := set_step ys xs k y hl hy
def RowPostI (B n c : Nat) (A : Option Addr) (ys : List Int) (w : World) (e : Ending) (w' : World) : Prop :=
  e = .returned (.tuple #[]) ∧ OI w' B A n c ys ∧ Keep (fun g => (Value.slice A n c).ownBlock = some g) w w'
theorem scaleI_get {p t : Int} {row : List Int} {k : Nat} {x : Int} (h : row[k]? = some x) : (scaleRow p t row)[k]? = some (x * t % p) := by simp [scaleRow, h]
theorem nilI1 (A : Addr) (n c : Nat) : ∀ w, (binOp BinOp.eql 23 (Value.slice (some A) n c) (Value.slice none 0 0)).run Try.prog w = .ok (.bool false) w := by
  intro w
  first | kernel_rfl | rfl
theorem nilI0 (n c : Nat) : ∀ w, (binOp BinOp.eql 23 (Value.slice none n c) (Value.slice none 0 0)).run Try.prog w = .ok (.bool true) w := by
  intro w
  first | kernel_rfl | rfl
theorem cloneI_any (A : Option Addr) (n c b o : Nat) (xs : List Int) (w : World) (h : IA w A n b o xs) (hn : n ≤ 1000000) :
    Calls Try.prog 24 #[.slice A n c] w (MadeI n xs w) := by
  have HL := Lib.hid h.len
  have H := Lib.hid h
  cases A with
  | none =>
    have h0 : n = 0 := by
      by_cases h0 : n = 0
      · exact h0
      · have := h.adr (by omega); cases this
    clear h
    subst h0
    have HX := Lib.hid (List.eq_nil_of_length_eq_zero HL.out)
    have hq := nilI0 0 c
    go_enter Try.func24, Try.ntmps24
    go_wp2_with (fail)
    go_ret
    rw [HX.out]
    exact ⟨none, 0, rfl, World.ownsRow_nil _ _ _ _, Below.refl _ _⟩
  | some a =>
    clear h
    have hq := nilI1 a n c
    go_enter Try.func24, Try.ntmps24
    go_wp2_with (at_builtin; refine wpList_app_rowI rfl (.tmp 5) (.tmp 6) rfl rfl w.heap.size w.heap.size 0 0 [] rfl (oi_empty w _ (Nat.le_refl _)) (some a) n c b o xs rfl (H.out.below ((Below.refl _ _).alloc (Nat.le_refl _) _)) (by simp) (by omega) (by simp) ?_)
    intro A' c' w' h2 h3
    have HO := Lib.hid h2
    have HB := Lib.hid (((Below.refl w.heap.size w).alloc (Nat.le_refl _) (.cells #[] 3)).grown h3 (by simp) (by intro k hk; simp at hk; omega))
    clear h2 h3
    go_wp2_with (fail)
    go_ret
    exact ⟨A', c', rfl, HO.out, HB.out⟩
def timesO (p : Int) (T F : List Int) (t : Int) : Int × List Int × List Int := if recB p T F = true ∧ numB p t = true then (p, T, scaleRow p t F) else (0, [], [])
theorem timesO_len (p : Int) (T F : List Int) (t : Int) : (timesO p T F t).2.1.length ≤ 1048576 ∧ (timesO p T F t).2.2.length ≤ 1048576 := by
  unfold timesO
  split
  · rename_i h
    obtain ⟨_, h6, hl, _, _⟩ := recB_true h.1
    simp only [scaleRow_len]
    omega
  · simp
end Go.Proofs.Ytghiaflnlobopaa
namespace Go.Proofs.Ytghiaflnlobopaa
open Go.RowKit
/-- a row of the call's own, wherever in its block it begins -/
def OW (w : World) (B : Nat) (A : Option Addr) (n c : Nat) (xs : List Int) : Prop :=
  ∃ (b o : Nat), IA w A n b o xs ∧ (∀ g, (Value.slice A n c).ownBlock = some g → B ≤ g ∧ g < w.heap.size) ∧ (∀ i, i < n → w.frozen? ⟨b, o + i, none⟩ = false)
theorem OW.ia {w : World} {B n c : Nat} {A : Option Addr} {xs : List Int} (h : OW w B A n c xs) : ∃ b o, IA w A n b o xs := by
  obtain ⟨b, o, h1, _, _⟩ := h
  exact ⟨b, o, h1⟩
theorem OW.keep {w w' : World} {B n c : Nat} {A : Option Addr} {xs : List Int} {S : Nat → Prop} (h : OW w B A n c xs) (k : Keep S w w') (hs : ∀ g, (Value.slice A n c).ownBlock = some g → ¬ S g) : OW w' B A n c xs := by
  obtain ⟨b, o, h1, h2, h3⟩ := h
  have hb : 0 < n → (Value.slice A n c).ownBlock = some b := fun hn => by rw [h1.adr hn]; rfl
  refine ⟨b, o, ⟨h1.len, h1.adr, h1.big, fun i hi => ?_⟩, fun g hg => ⟨(h2 g hg).1, Nat.lt_of_lt_of_le (h2 g hg).2 k.size⟩, fun i hi => ?_⟩
  · obtain ⟨x, hx, hc⟩ := h1.cell i hi
    exact ⟨x, hx, k.cell hc (hs b (hb (by omega)))⟩
  · obtain ⟨x, hx, hc⟩ := h1.cell i hi
    exact (k.frozen (p := ⟨b, o + i, none⟩) (cell_lt hc) (hs b (hb (by omega)))).trans (h3 i hi)
theorem OW.mono {w : World} {B B' n c : Nat} {A : Option Addr} {xs : List Int} (h : OW w B A n c xs) (hB : B' ≤ B) : OW w B' A n c xs := by
  obtain ⟨b, o, h1, h2, h3⟩ := h
  exact ⟨b, o, h1, fun g hg => ⟨Nat.le_trans hB (h2 g hg).1, (h2 g hg).2⟩, h3⟩
theorem OI.ow {w : World} {B n c : Nat} {A : Option Addr} {xs : List Int} (h : OI w B A n c xs) : OW w B A n c xs := by
  obtain ⟨b, hI, hA⟩ := OI.iaA h
  refine ⟨b, 0, hI, fun g hg => h.lt g hg, fun i hi => ?_⟩
  rcases hA with ⟨rfl, _⟩ | rfl
  · have := hI.adr (by omega); cases this
  · rw [Nat.zero_add]; exact World.ownsRow.frozenAt h i
/-- such a row without its first number -/
theorem OI.tail {w : World} {B q n c c' : Nat} {x : Int} {xs : List Int} (h : OI w B (some ⟨q, 0, none⟩) (n + 1) c (x :: xs)) : OW w B (some ⟨q, 1, none⟩) n c' xs := by
  obtain ⟨b, hI, hA⟩ := OI.iaA h
  obtain rfl : q = b := by
    rcases hA with ⟨h1, _⟩ | h1
    · cases h1
    · cases h1; rfl
  refine ⟨q, 1, ⟨by have := hI.len; simpa using this, fun _ => rfl, by have := hI.big; omega, fun i hi => ?_⟩, fun g hg => h.lt g (by simpa [Value.ownBlock] using hg), fun i hi => ?_⟩
  · obtain ⟨y, hy, hc⟩ := hI.cell (i + 1) (by omega)
    refine ⟨y, by simpa using hy, ?_⟩
    rw [Nat.zero_add] at hc
    rw [Nat.add_comm 1 i]; exact hc
  · rw [Nat.add_comm 1 i]; exact World.ownsRow.frozenAt h (i + 1)
/-- a recurrence of the call's own, its rows wherever they begin -/
def RW (w : World) (B : Nat) (v : Value) (p : Int) (T F : List Int) : Prop :=
  ∃ (A : Option Addr) (c : Nat) (A' : Option Addr) (c' : Nat), v = .agg #[.int .i64 p, .slice A T.length c, .slice A' F.length c'] ∧ OW w B A T.length c T ∧ OW w B A' F.length c' F ∧ Apart (.slice A T.length c) (.slice A' F.length c')
theorem RW.rv {w : World} {B : Nat} {v : Value} {p : Int} {T F : List Int} (h : RW w B v p T F) : RV w v p T F := by
  obtain ⟨A, c, A', c', rfl, h1, h2, _⟩ := h
  obtain ⟨b, o, g1⟩ := h1.ia
  obtain ⟨b', o', g2⟩ := h2.ia
  exact ⟨_, _, _, b, o, _, _, _, b', o', rfl, g1, g2⟩
theorem RO.rw {w : World} {B : Nat} {v : Value} {p : Int} {T F : List Int} (h : RO w B v p T F) : RW w B v p T F := by
  obtain ⟨A, c, A', c', rfl, h1, h2, h3⟩ := h
  exact ⟨A, c, A', c', rfl, h1.ow, h2.ow, h3⟩
def MadeW (p : Int) (T F : List Int) (w : World) (e : Ending) (w' : World) : Prop := ∃ v, e = .returned v ∧ RW w' w.heap.size v p T F ∧ Below w.heap.size w w'
def nextO (p : Int) (T F : List Int) : Int × List Int × List Int := if recB p T F = true then (p, T, (trm p T F (F.length + 1)).drop 1) else (0, [], [])
theorem nextO_len (p : Int) (T F : List Int) : (nextO p T F).2.1.length ≤ 1048576 ∧ (nextO p T F).2.2.length ≤ 1048576 := by
  unfold nextO
  split
  · rename_i h
    obtain ⟨_, h6, hl, _, _⟩ := recB_true h
    simp only [List.length_drop, trm_len]
    omega
  · simp
end Go.Proofs.Ytghiaflnlobopaa
namespace Go.Proofs.Ytghiaflnlobopaa
open Go.RowKit
theorem OW.nil {w : World} {B q k c : Nat} (h : B ≤ q) (h2 : q < w.heap.size) : OW w B (some ⟨q, k, none⟩) 0 c [] :=
  ⟨q, k, ⟨rfl, fun h => by omega, by omega, fun i hi => by omega⟩, fun g hg => by cases hg; exact ⟨h, h2⟩, fun i hi => by omega⟩
theorem madeW_set3 {w W : World} {g : Nat} {p : Int} {T F : List Int} {A A' : Option Addr} {n n' c c' B B' : Nat} (hw : Below w.heap.size w W) (hn : T.length = n) (hn' : F.length = n') (h1 : OW W B A n c T) (h2 : OW W B' A' n' c' F) (hB : w.heap.size ≤ B) (hB' : w.heap.size ≤ B') (hg : w.heap.size ≤ g) (hgB : ∀ k, (Value.slice A n c).ownBlock = some k → k ≠ g) (hgB' : ∀ k, (Value.slice A' n' c').ownBlock = some k → k ≠ g) (ha : Apart (.slice A n c) (.slice A' n' c')) :
    MadeW p T F w (.returned (.agg #[.int .i64 p, .slice A n c, .slice A' n' c'])) (set3 W g (.int .i64 p) (.slice A n c) (.slice A' n' c')) := by
  subst hn; subst hn'
  exact ⟨_, rfl, ⟨A, c, A', c', rfl, (h1.keep (set3_keep W g _ _ _) (fun k hk e => hgB k hk e)).mono hB, (h2.keep (set3_keep W g _ _ _) (fun k hk e => hgB' k hk e)).mono hB', ha⟩, hw.trans (set3_far W g _ _ _ hg hw.size)⟩
theorem MadeR.w {p : Int} {T F : List Int} {w : World} {e : Ending} {w' : World} (h : MadeR p T F w e w') : MadeW p T F w e w' := by
  obtain ⟨v, he, h1, h2⟩ := h
  exact ⟨v, he, h1.rw, h2⟩
set_option maxRecDepth 100000 in
set_option maxHeartbeats 2000000 in
theorem implRecNext (v : Value) (p : Int) (T F : List Int) (w : World) (h : RV w v p T F) :
    Calls Try.prog 9 #[v] w (MadeW (nextO p T F).1 (nextO p T F).2.1 (nextO p T F).2.2 w) := by
  obtain ⟨A, n, c, b, o, A', n', c', b', o', rfl, g1, g2⟩ := h
  have H := Lib.hid (show RV w (.agg #[.int .i64 p, .slice A n c, .slice A' n' c']) p T F from ⟨_, _, _, _, _, _, _, _, _, _, rfl, g1, g2⟩)
  have HT2 := Lib.hid g1
  have HL := Lib.hid g1.len
  have HL' := Lib.hid g2.len
  have hbx := (Bx.new w (.int .i64 p) (.slice A n c) (.slice A' n' c') 25).below (below_new _ (.cells #[.int .i64 0, .slice none 0 0, .slice none 0 0] 25))
  have hbw := BxW.new (w.alloc (.cells #[.int .i64 p, .slice A n c, .slice A' n' c'] 25)) (.int .i64 0) (.slice none 0 0) (.slice none 0 0) 25
  rw [World.size_alloc] at hbw
  have hB0 := ((Below.refl w.heap.size w).alloc (Nat.le_refl _) (.cells #[.int .i64 p, .slice A n c, .slice A' n' c'] 25)).alloc (by simp) (.cells #[.int .i64 0, .slice none 0 0, .slice none 0 0] 25)
  have HV0 := Lib.hid (H.out.below hB0)
  have HBX := Lib.hid hbx
  have HBW := Lib.hid hbw
  have HB0 := Lib.hid hB0
  clear g1 g2 hbx hbw hB0
  rcases hv : recB p T F
  · have HV := Lib.hid hv
    have HE := Lib.hid (show nextO p T F = (0, [], []) by unfold nextO; rw [if_neg (by simp [hv])])
    clear hv
    go_enter Try.func9, Try.ntmps9
    go_wp2_with (go_at_call 13; refine (implRecValid _ p T F _ HV0.out).mono ?_; rintro e w1 ⟨rfl, hB⟩; rw [HV.out]; have HB1 := Lib.hid (below_more HB0.out hB); have hbw := HBW.out.below hB; have x0 := hbw.c.1; have x1 := hbw.c.2.1; have x2 := hbw.c.2.2; have fz := hbw.fz; clear hB hbw)
    refine bodyPost_ret (v := .agg #[.int .i64 0, .slice none 0 0, .slice none 0 0]) (by simp [results, Try.f9, go_sem, x0, x1, x2]) rfl ?_
    rw [HE.out]
    exact (made_zero HB1.out (by omega)).w
  have HV := Lib.hid hv
  obtain ⟨hp, h6, hl, hT, hF⟩ := recB_true hv
  have HE := Lib.hid (show nextO p T F = (p, T, (trm p T F (n' + 1)).drop 1) by unfold nextO; rw [if_pos hv, HL'.out])
  have hn6 : n' ≤ 8 := by rw [← HL'.out]; omega
  have hn6' : n ≤ 8 := by rw [← HL.out]; omega
  obtain ⟨N1, hN1⟩ : ∃ N1, n' + 1 = N1 := ⟨_, rfl⟩
  have hw1 : IntKind.i64.wrap ((n' : Int) + 1) = (N1 : Int) := by rw [show (n' : Int) + 1 = (N1 : Int) by omega]; exact IntWalk.i64_in _ ⟨by omega, by omega⟩
  have HTE := Lib.hid (show termsO p T F (N1 : Int) = trm p T F N1 by unfold termsO; rw [if_pos ⟨hv, by omega, by omega⟩]; rfl)
  have hN2 : (1 : Int) ≤ (N1 : Int) := by omega
  have hN3 : 1 ≤ N1 := by omega
  have hN4 : N1 - 1 = n' := by omega
  rw [hN1] at HE
  have HN1 := Lib.hid hN1
  clear hv hp hT hF hl h6 hN1
  go_enter Try.func9, Try.ntmps9
  go_wp2_with (go_at_call 13; refine (implRecValid _ p T F _ HV0.out).mono ?_; rintro e w1 ⟨rfl, hB⟩; rw [HV.out]; have HB1 := Lib.hid (below_more HB0.out hB); have hbx := HBX.out.below hB; have y0 := hbx.1; have y1 := hbx.2.1; have y2 := hbx.2.2; have HBX1 := Lib.hid hbx; have HBW1 := Lib.hid (HBW.out.below hB); clear hB hbx)
  have hs1 := HBW1.out.c.lt
  have hne : w.heap.size ≠ w.heap.size + 1 := by omega
  have hf0 : ∀ (W : World) (o o' : Nat) (v : Value), (W.setCell ⟨w.heap.size + 1, o, none⟩ v).cell? ⟨w.heap.size, o', none⟩ = W.cell? ⟨w.heap.size, o', none⟩ := fun W o o' v => World.cell?_setCell_far _ _ _ _ (by show w.heap.size + 1 ≠ w.heap.size; omega)
  have HTd := Lib.hid (HT2.out.below HB1.out.drew)
  have ZS := HBX1.out
  have Zd := HBX1.out.drew
  unfold Bx at ZS Zd
  go_region_held3 (fun w' => w'.cell? ⟨w.heap.size, 0, none⟩ = some (.int .i64 p) ∧ w'.cell? ⟨w.heap.size, 1, none⟩ = some (.slice A n c) ∧ w'.cell? ⟨w.heap.size, 2, none⟩ = some (.slice A' n' c')) (first | assumption | exact ZB | exact ZA | exact Zd | exact ZS | (refine ⟨?_, ?_, ?_⟩ <;> (simp only [hf0]; assumption)) | go_keep)
    (first
      | (go_at_call 24; refine (cloneI_any A n c b o T _ HTd.out (by omega)).mono ?_; rintro e w2 ⟨A6, c6, rfl, hO, hB⟩; have HO6 := Lib.hid hO; have HB2 := Lib.hid (below_more HB1.out.drew hB); have hs12 : w1.heap.size ≤ w2.heap.size := hB.size; have HBX2 := Lib.hid (HBX1.out.drew.below hB); have HBW2 := Lib.hid (HBW1.out.drew.below hB); have ZA := HBX2.out; unfold Bx at ZA; have HV2 := Lib.hid (H.out.below HB2.out); clear hO hB)
      | (go_at_call 8; refine (implRecTerms _ p T F (N1 : Int) _ HV2.out).mono ?_; rw [HTE.out, trm_len]; rintro e w3 ⟨A5, c5, rfl, hO, hB⟩; have hcap := OI.capLe hO; have HO5 := Lib.hid hO; have HB3 := Lib.hid (below_more HB2.out hB); have HO7 := Lib.hid (OIb HO6.out hB); have HBX3 := HBX2.out.below hB; have ZB := HBX3; unfold Bx at ZB; have hbw := HBW2.out.below hB; have x0 := hbw.c.1; have x1 := hbw.c.2.1; have x2 := hbw.c.2.2; have fz := hbw.fz; clear hB hbw hO HBX3))
  all_goals
    clear ZS Zd
    obtain ⟨A7, hA7⟩ : ∃ A7, (if c5 = 1 then A5 else Option.map (fun x : Addr => ({ block := x.block, off := x.off + 1 } : Addr)) A5) = A7 := ⟨_, rfl⟩
    rw [hA7]
    have hs3 := HB3.out.size
    have hs2 := HB2.out.size
    have HOW := Lib.hid (show OW w3 w2.heap.size A7 n' (c5 - 1) ((trm p T F N1).drop 1) from by
      obtain ⟨q5, rfl⟩ := oi_some HO5.out (by omega)
      have hlt5 := HO5.out.lt q5 rfl
      by_cases hc1 : c5 = 1
      · have h0 : n' = 0 := by omega
        subst h0
        have hN : N1 = 1 := HN1.out.symm
        rw [if_pos hc1] at hA7
        rw [← hA7, List.drop_of_length_le (by rw [trm_len, hN]; exact Nat.le_refl _)]
        exact OW.nil hlt5.1 hlt5.2
      · rw [if_neg hc1] at hA7
        have hO := HO5.out
        rw [← HN1.out] at hO ⊢
        obtain ⟨x, xs, hxs⟩ : ∃ x xs, trm p T F (n' + 1) = x :: xs := by
          cases ht : trm p T F (n' + 1) with
          | nil => have := trm_len p T F (n' + 1); rw [ht] at this; simp at this
          | cons x xs => exact ⟨x, xs, rfl⟩
        rw [hxs] at hO ⊢
        rw [← hA7]
        exact hO.tail)
    have hb7 : ∀ g, (Value.slice A7 n' (c5 - 1)).ownBlock = some g → w2.heap.size ≤ g := fun g hg => by
      obtain ⟨_, _, _, h2, _⟩ := HOW.out
      exact (h2 g hg).1
    have HB7 := Lib.hid hb7
    have HLT := Lib.hid (show ∀ g, (Value.slice A6 n c6).ownBlock = some g → w1.heap.size ≤ g ∧ g < w2.heap.size from fun g hg => HO6.out.lt g hg)
    clear hA7 hb7
    go_wp2_with (fail)
    refine bodyPost_ret (v := .agg #[.int .i64 p, .slice A6 n c6, .slice A7 n' (c5 - 1)]) (by simp [results, Try.f9, go_sem, x0, x1, x2]) rfl ?_
    rw [HE.out]
    refine madeW_set3 HB3.out HL.out (by rw [List.length_drop, trm_len]; exact hN4) HO7.out.ow HOW.out (by show w.heap.size ≤ w1.heap.size; omega) hs2 (by omega) (fun k hk => by have := (HLT.out k hk).1; omega) (fun k hk => by have := HB7.out k hk; omega) ?_
    rcases hg : (Value.slice A6 n c6).ownBlock with _ | g
    · exact .inl hg
    · right
      rw [hg]
      intro e
      have h1 := (HLT.out g hg).2
      have h2 := HB7.out g e.symm
      omega
end Go.Proofs.Ytghiaflnlobopaa

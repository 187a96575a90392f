/-
  The contract of the model's l1Form.
-/
import Derived.Test.YtpelokdgjdljfacCpyS
namespace Go.Proofs.Ytpelokdgjdljfac
open Go.RowKit
/-- the form and the columns of the chosen rows -/
def FormPost (p : Int) (l : Nat) (M : List (List Int)) (w : World) (e : Ending) (w' : World) : Prop :=
  ∃ (Ao : Option Addr) (co : Nat) (vs : List Value) (Ah : Option Addr) (ch : Nat), e = .returned (.tuple #[.slice Ao M.length co, .slice Ah (elim p M l).2.length ch]) ∧ OM w' w.heap.size Ao M.length co (elim p M l).1 vs ∧ OI w' w.heap.size Ah (elim p M l).2.length ch (headI (elim p M l).2) ∧ Below w.heap.size w w'
theorem OMF.cellAt {w : World} {B hi g n c l : Nat} {M : List (List Int)} {vs : List Value} {p : Int} (h : OMF w B hi g n c M vs) (hv : VM p l M) {r : Nat} (hr : r < n) :
    ∃ (row : List Int) (b' c' : Nat), M[r]? = some row ∧ row.length = l ∧ (∀ x ∈ row, numB p x = true) ∧ (1 ≤ l → vs[r]? = some (Value.slice (some ⟨b', 0, none⟩) l c') ∧ w.cell? ⟨g, r, none⟩ = some (.slice (some ⟨b', 0, none⟩) l c') ∧ OI w B (some ⟨b', 0, none⟩) l c' row ∧ IA w (some ⟨b', 0, none⟩) l b' 0 row) ∧ w.frozen? ⟨g, r, none⟩ = false := by
  obtain ⟨row, A', c', h1, h2, h3, h4, h5⟩ := h.cell hr
  obtain ⟨h6, h7⟩ := hv row (List.mem_of_getElem? h1)
  rw [h6] at h2 h3 h4
  obtain ⟨b', hia⟩ := h4.ia
  refine ⟨row, b', c', h1, h6, h7, fun hl => ?_, h5⟩
  obtain rfl := hia.adr (by omega)
  exact ⟨h2, h3, h4, hia⟩
theorem OMF.apart {w : World} {B hi g n c : Nat} {M : List (List Int)} {vs : List Value} (h : OMF w B hi g n c M vs) {i j : Nat} (hij : i ≠ j) {l l' ci cj bi bj : Nat} (hi' : vs[i]? = some (Value.slice (some ⟨bi, 0, none⟩) l ci)) (hj : vs[j]? = some (Value.slice (some ⟨bj, 0, none⟩) l' cj)) : bi ≠ bj := by
  intro e
  subst e
  rcases Nat.lt_or_gt_of_ne hij with hh | hh
  · rcases h.om.apart i j _ _ hh hi' hj with h1 | h1
    · simp [Value.ownBlock] at h1
    · exact h1 rfl
  · rcases h.om.apart j i _ _ hh hj hi' with h1 | h1
    · simp [Value.ownBlock] at h1
    · exact h1 rfl
theorem subRow_full {p t : Int} {xs ys : List Int} {n : Nat} (hx : xs.length = n) (hy : ys.length = n) : (subRow p t xs ys).length = n := by rw [subRow_len _ _ _ _ (by omega), hx]
theorem mixDone {α : Type} {xs ys : List α} {n : Nat} (hx : xs.length = n) (hy : ys.length = n) : xs.take n ++ ys.drop n = xs := by
  rw [List.take_of_length_le (by omega), List.drop_of_length_le (by omega)]; simp
theorem mixLen {xs ys : List Int} {n q : Nat} (hx : xs.length = n) (hy : ys.length = n) (hq : q ≤ n) : (xs.take q ++ ys.drop q).length = n := by simp; omega
theorem set_same {α : Type} {l : List α} {i : Nat} {a : α} (h : l[i]? = some a) : l.set i a = l := by
  refine List.ext_getElem? fun q => ?_
  by_cases e : q = i
  · subst e; rw [List.getElem?_set_self (List.getElem?_eq_some_iff.1 h).1, h]
  · rw [List.getElem?_set_ne (fun e' => e e'.symm)]
/-- a row as a part of it is changed: still valid rows -/
theorem VM.mixRow {p : Int} {l q i : Nat} {M : List (List Int)} {xs ys : List Int} (h : VM p l M) (hx : xs.length = l) (hy : ys.length = l) (hq : q ≤ l) (hvx : ∀ x ∈ xs, numB p x = true) (hvy : ∀ y ∈ ys, numB p y = true) : VM p l (M.set i (xs.take q ++ ys.drop q)) :=
  h.set (mixLen hx hy hq) (fun z hz => by
    rcases List.mem_append.1 hz with hz | hz
    · exact hvx z (List.mem_of_mem_take hz)
    · exact hvy z (List.mem_of_mem_drop hz))
theorem OMF.swapped' {w : World} {B hi g n c : Nat} {M : List (List Int)} {vs : List Value} (h : OMF w B hi g n c M vs) {r t : Nat} (hr : r < n) (ht : t < n) {sR sT : Value} (hvR : vs[r]? = some sR) (hvT : vs[t]? = some sT) :
    OMF ((w.setCell ⟨g, r, none⟩ sT).setCell ⟨g, t, none⟩ sR) B hi g n c (swapM M r t) (swapV vs r t) ∧ Keep (· = g) w ((w.setCell ⟨g, r, none⟩ sT).setCell ⟨g, t, none⟩ sR) := by
  obtain ⟨h1, _⟩ := World.ownsRow.stored h.om.out r sT
  obtain ⟨h3, _⟩ := World.ownsRow.stored h1 t sR
  have e : (vs.set r sT).set t sR = swapV vs r t := by
    unfold swapV
    rw [List.getD_eq_getElem?_getD, List.getD_eq_getElem?_getD, hvR, hvT]; rfl
  rw [e] at h3
  have hk : Keep (· = g) w ((w.setCell ⟨g, r, none⟩ sT).setCell ⟨g, t, none⟩ sR) := (setCell_keep w ⟨g, r, none⟩ sT).trans (setCell_keep _ ⟨g, t, none⟩ sR)
  exact ⟨h.swap hr ht h3 hk, hk⟩
theorem VM.mixM {p : Int} {l top col k : Nat} {M : List (List Int)} (hp : primeB p = true) (h : VM p l M) (ht : top < M.length) : VM p l ((clearM p M top col).take k ++ M.drop k) := fun row hr => by
  rcases List.mem_append.1 hr with hr | hr
  · exact h.clear hp ht row (List.mem_of_mem_take hr)
  · exact h row (List.mem_of_mem_drop hr)
theorem mix_stay {p : Int} {top col k : Nat} {M : List (List Int)} (ht : top < M.length) (hk : k < M.length) (e : k = top) : (clearM p M top col).take k ++ M.drop k = (clearM p M top col).take (k + 1) ++ M.drop (k + 1) := by
  have hg : M[k]? = some (M[k]'hk) := List.getElem?_eq_getElem hk
  have h1 := set_step (clearM p M top col) M k _ (clearM_len _ _ _ _) (by rw [e, clearM_top _ _ _ _ ht, ← e]; exact hg)
  rw [← h1]
  exact (set_same (by rw [mix_get _ _ _ (clearM_len p M top col) (by rw [clearM_len]; exact hk)]; exact hg)).symm
/-- one store into a row -/
theorem OMF.store {w : World} {B hi g n c : Nat} {M : List (List Int)} {vs : List Value} (h : OMF w B hi g n c M vs) {r l b' c' q : Nat} {row : List Int} (hr : M[r]? = some row) (hl : row.length = l) (hv : vs[r]? = some (Value.slice (some ⟨b', 0, none⟩) l c')) (hI : OI w B (some ⟨b', 0, none⟩) l c' row) (x : Int) :
    OMF (w.setCell ⟨b', q, none⟩ (.int .i64 x)) B hi g n c (M.set r (row.set q x)) vs ∧ Keep (fun q => B ≤ q ∧ q < hi) w (w.setCell ⟨b', q, none⟩ (.int .i64 x)) := by
  subst hl
  obtain ⟨h1, _⟩ := World.ownsRow.stored hI q (.int .i64 x)
  rw [ints_set] at h1
  have hk := setCell_keep w ⟨b', q, none⟩ (.int .i64 x)
  exact ⟨h.setRow hr hv (by simp) h1 (hk.mono (fun y _ hy => by rw [hy]; rfl)), hk.mono (fun y _ hy => by have := h.foot r _ b' hv rfl; rw [hy]; exact this)⟩
end Go.Proofs.Ytpelokdgjdljfac

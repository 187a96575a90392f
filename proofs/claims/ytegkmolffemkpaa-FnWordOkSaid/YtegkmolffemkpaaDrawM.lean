/-
  The contract of l20Mat, the drawn matrices.
-/
import Derived.Test.YtegkmolffemkpaaRules
import Derived.Test.YtegkmolffemkpaaDraw
import Derived.Test.YtegkmolffemkpaaTurnS
namespace Go.Proofs.Ytegkmolffemkpaa
open Go.RowKit
/-- a drawn row: not long, of small numbers -/
def RowS (row : List Int) : Prop := row.length ≤ 30 ∧ ∀ x ∈ row, 0 ≤ x ∧ x ≤ 17
/-- what was changed: the reader, and what is new -/
def Drw (rb B : Nat) (g : Nat) : Prop := g = rb ∨ B ≤ g
theorem Drw.mono {rb B B' g : Nat} (h : Drw rb B' g) (hB : B ≤ B') : Drw rb B g := Or.elim h .inl (fun h => .inr (Nat.le_trans hB h))
/-- as OM, but two rows may share a block -/
structure OMW (w : World) (B : Nat) (A : Option Addr) (n c : Nat) (M : List (List Int)) (vs : List Value) : Prop where
  out : w.ownsRow B 23 1 (.slice A n c) n vs
  len : M.length = n
  row : ∀ (r : Nat) (row : List Int), M[r]? = some row → ∃ (A' : Option Addr) (c' : Nat), vs[r]? = some (Value.slice A' row.length c') ∧ OI w B A' row.length c' row
def MatPost (rb n c cb co N : Nat) (A : Option Addr) (w : World) (e : Ending) (w' : World) : Prop :=
  ∃ (Ao : Option Addr) (co' : Nat) (M : List (List Int)) (vs : List Value), e = .returned (.slice Ao M.length co') ∧ M.length ≤ 20 ∧ (∀ row ∈ M, RowS row) ∧ OMW w' w.heap.size Ao M.length co' M vs ∧ Rd w' rb A n c cb co N ∧ Keep (Drw rb w.heap.size) w w'
theorem Rd.lt {w : World} {rb n c cb co N : Nat} {A : Option Addr} (h : Rd w rb A n c cb co N) : rb < w.heap.size := cell_lt (p := ⟨rb, 0, none⟩) h.c0
theorem Rd.ltc {w : World} {rb n c cb co N : Nat} {A : Option Addr} (h : Rd w rb A n c cb co N) (hn : 0 < n) : cb < w.heap.size := by
  obtain ⟨x, _, hx⟩ := h.cell 0 hn; exact cell_lt (p := ⟨cb, co + 0, none⟩) hx
/-- the reader is kept by whatever changes blocks from some size on alone -/
theorem Rd.far {w w' : World} {rb n c cb co N B : Nat} {A : Option Addr} {S : Nat → Prop} (h : Rd w rb A n c cb co N) (k : Keep S w w') (hrb : rb < B) (hcb : 0 < n → cb < B) (hS : ∀ g, S g → B ≤ g) : Rd w' rb A n c cb co N :=
  h.keep k (fun hs => by have := hS _ hs; omega) (fun hn hs => by have := hS _ hs; have := hcb hn; omega)
theorem Rd.alloc {w : World} {rb n c cb co N : Nat} {A : Option Addr} (h : Rd w rb A n c cb co N) (ob : Obj) : Rd (w.alloc ob) rb A n c cb co N := h.keep ((Keep.refl (fun _ => False) w).alloc ob) (fun h => h) (fun _ h => h)
theorem Keep.drwR {rb B : Nat} {w w' : World} (h : Keep (· = rb) w w') : Keep (Drw rb B) w w' := h.mono (fun _ _ h => .inl h)
theorem Keep.drwB {rb B : Nat} {S : Nat → Prop} {w w' : World} (h : Keep S w w') (hS : ∀ g, S g → B ≤ g) : Keep (Drw rb B) w w' := h.mono (fun g _ h => .inr (hS g h))
theorem mul_bd2 {x y : Int} (hx : 0 ≤ x) (hx' : x ≤ 17) (hy : 0 ≤ y) (hy' : y ≤ 2) : 0 ≤ x * y ∧ x * y ≤ 34 :=
  ⟨Int.mul_nonneg hx hy, Int.le_trans (Int.mul_le_mul hx' hy' hy (by omega)) (by decide)⟩
theorem cellNew (w : World) (v : Value) (t : TypeId) : (w.alloc (.cells #[v] t)).cell? ⟨w.heap.size, 0, none⟩ = some v := by simp
theorem RowS.snoc {row : List Int} {x : Int} (h : RowS row) (hl : row.length + 1 ≤ 30) (h0 : 0 ≤ x) (h1 : x ≤ 17) : RowS (row ++ [x]) :=
  ⟨by simp; omega, fun y hy => by
    rcases List.mem_append.1 hy with hy | hy
    · exact h.2 y hy
    · simp at hy; rw [hy]; exact ⟨h0, h1⟩⟩
theorem OM.weak {w : World} {B n c : Nat} {A : Option Addr} {M : List (List Int)} {vs : List Value} (h : OM w B A n c M vs) : OMW w B A n c M vs := ⟨h.out, h.len, h.row⟩
theorem OMW.adr {w : World} {B n c : Nat} {A : Option Addr} {M : List (List Int)} {vs : List Value} (h : OMW w B A n c M vs) : (A = none ∧ n = 0 ∧ c = 0) ∨ ∃ g, A = some ⟨g, 0, none⟩ ∧ B ≤ g ∧ g < w.heap.size := by
  rcases h.out.2 with ⟨h1, h2⟩ | ⟨g, cap, cur, hv, hb, hg, _⟩
  · simp only [Value.slice.injEq] at h1
    exact .inl ⟨h1.1, h1.2.1, h1.2.2⟩
  · simp only [Value.slice.injEq, true_and] at hv
    exact .inr ⟨g, hv.1, hb, (Array.getElem?_eq_some_iff.1 hg).1⟩
theorem OMW.keep {w w' : World} {B n c : Nat} {A : Option Addr} {M : List (List Int)} {vs : List Value} {S : Nat → Prop} (h : OMW w B A n c M vs) (k : Keep S w w') (hs : ∀ g, B ≤ g → g < w.heap.size → ¬ S g) : OMW w' B A n c M vs :=
  ⟨owns_keep h.out k (fun g hg => let ⟨a, b⟩ := h.out.lt g hg; hs g a b), h.len, fun r row hr => let ⟨A', c', h1, h2⟩ := h.row r row hr; ⟨A', c', h1, owns_keep h2 k (fun g hg => let ⟨a, b⟩ := h2.lt g hg; hs g a b)⟩⟩
theorem OMW.below {w w' : World} {B n c : Nat} {A : Option Addr} {M : List (List Int)} {vs : List Value} (h : OMW w B A n c M vs) (k : Below w.heap.size w w') : OMW w' B A n c M vs := h.keep (keep_of_below k) (fun _ _ _ h => h)
theorem OMW.mono {w : World} {B B' n c : Nat} {A : Option Addr} {M : List (List Int)} {vs : List Value} (h : OMW w B A n c M vs) (hB : B' ≤ B) : OMW w B' A n c M vs :=
  ⟨owns_mono h.out hB, h.len, fun r row hr => let ⟨a, b, g1, g2⟩ := h.row r row hr; ⟨a, b, g1, owns_mono g2 hB⟩⟩
/-- the slice of slices, as a law reads it -/
theorem OMW.ra {w : World} {B n c : Nat} {A : Option Addr} {M : List (List Int)} {vs : List Value} (h : OMW w B A n c M vs) : ∃ b, RA w A n b 0 M := by
  have hl := h.len
  have hvl : vs.length = n := by simpa using h.out.1
  rcases h.adr with ⟨rfl, rfl, rfl⟩ | ⟨g, rfl, hb, hg⟩
  · exact ⟨0, hl, by omega, by omega, by omega⟩
  · refine ⟨g, hl, fun _ => rfl, ?_, fun i hi => ?_⟩
    · rcases h.out.2 with ⟨h1, _⟩ | ⟨g', cap, cur, hv, _, _, hnc, hcm, _⟩
      · simp at h1
      · unfold maxLen at hcm; omega
    · have hrow : M[i]? = some (M[i]'(by omega)) := List.getElem?_eq_getElem (by omega)
      obtain ⟨A', c', h1, h2⟩ := h.row i _ hrow
      obtain ⟨b', hia⟩ := h2.ia
      have hc := World.ownsRow.cellAt h.out i (by omega)
      rw [h1] at hc
      exact ⟨_, A', c', b', 0, hrow, by rw [Nat.zero_add]; exact hc, hia⟩
/-- a row of a made matrix is replaced by another one -/
theorem OM.swapRow {w w1 : World} {B g n c : Nat} {M : List (List Int)} {vs : List Value} (h : OM w B (some ⟨g, 0, none⟩) n c M vs) {r : Nat} {row : List Int} {A0 : Option Addr} {c0 : Nat} (hv : vs[r]? = some (Value.slice A0 row.length c0)) (hr : M[r]? = some row)
    (hI0 : OI w B A0 row.length c0 row) (hk : Keep (fun q => (Value.slice A0 row.length c0).ownBlock = some q) w w1) {new : List Int} {A' : Option Addr} {c' : Nat} (hI : OI w1 B A' new.length c' new) :
    OMW (w1.setCell ⟨g, r, none⟩ (.slice A' new.length c')) B (some ⟨g, 0, none⟩) n c (M.set r new) (vs.set r (.slice A' new.length c')) := by
  have hvl := h.vlen
  have hM := h.len
  have hrl : r < M.length := (List.getElem?_eq_some_iff.1 hr).1
  have ho1 : w1.ownsRow B 23 1 (.slice (some ⟨g, 0, none⟩) n c) n vs := owns_keep h.out hk (fun q hq hs => block_elem h.out hI0 (by decide) q hq hs)
  have hsk := setCell_keep w1 ⟨g, r, none⟩ (.slice A' new.length c')
  have far : ∀ (A2 : Option Addr) (m c2 : Nat) (xs : List Int), OI w1 B A2 m c2 xs → OI (w1.setCell ⟨g, r, none⟩ (.slice A' new.length c')) B A2 m c2 xs := fun A2 m c2 xs hx =>
    owns_keep hx hsk (fun q hq hs => block_elem hx ho1 (by decide) q hq (by rw [hs]; rfl))
  refine ⟨(World.ownsRow.stored ho1 r _).1, by simp [hM], fun q row' hq => ?_⟩
  by_cases e : q = r
  · subst e
    rw [List.getElem?_set_self hrl] at hq
    obtain rfl := Option.some.inj hq
    exact ⟨A', c', List.getElem?_set_self (by omega), far _ _ _ _ hI⟩
  · rw [List.getElem?_set_ne (fun e' => e e'.symm)] at hq
    obtain ⟨A2, c2, g1, g2⟩ := h.row q row' hq
    refine ⟨A2, c2, by rw [List.getElem?_set_ne (fun e' => e e'.symm)]; exact g1, far _ _ _ _ (owns_keep g2 hk (fun k hk' hs => ?_))⟩
    rcases Nat.lt_or_gt_of_ne e with hh | hh
    · rcases h.apart q r _ _ hh g1 hv with h1 | h1
      · rw [hk'] at h1; simp at h1
      · exact h1 (by rw [hk', hs])
    · rcases h.apart r q _ _ hh hv g1 with h1 | h1
      · rw [hs] at h1; simp at h1
      · exact h1 (by rw [hk', hs])
theorem OMW.single {w : World} {B L g : Nat} {A : Option Addr} {c : Nat} {row : List Int} (h : OI w B A L c row) (hL : row.length = L) (hB : B ≤ w.heap.size) (hg : g = w.heap.size) : OMW (w.alloc (.cells #[.slice A L c] 23)) B (some ⟨g, 0, none⟩) 1 1 [row] [.slice A L c] := by
  subst hL hg
  refine ⟨World.ownsRow_lit (size := 1) w #[.slice A row.length c] 1 hB (by decide) (by simp), rfl, fun r row' hr => ?_⟩
  match r, hr with
  | 0, hr =>
    simp at hr; subst hr
    exact ⟨A, c, rfl, World.ownsRow.alloc h _⟩
theorem OM.mono0 {w : World} {B B' n c : Nat} {A : Option Addr} {M : List (List Int)} {vs : List Value} (h : OM w B A n c M vs) (hB : B' ≤ B) : OM w B' A n c M vs :=
  ⟨owns_mono h.out hB, h.len, fun r row hr => let ⟨a, b, g1, g2⟩ := h.row r row hr; ⟨a, b, g1, owns_mono g2 hB⟩, h.apart⟩
theorem OM.pushK {w w1 w2 : World} {B n c : Nat} {A : Option Addr} {M : List (List Int)} {vs : List Value} {T : Nat → Prop} (h : OM w B A n c M vs) (hk0 : Keep T w w1) (hT : ∀ g, B ≤ g → g < w.heap.size → ¬ T g) {row : List Int} {A1 : Option Addr} {c1 : Nat}
    (hI : OI w1 w.heap.size A1 row.length c1 row) {A' : Option Addr} {c' : Nat} (ho : w2.ownsRow B 23 1 (.slice A' (n + 1) c') (n + 1) (vs ++ [.slice A1 row.length c1])) (hk : Keep (fun k => (Value.slice A n c).ownBlock = some k) w1 w2) (hB : B ≤ w.heap.size) :
    OM w2 B A' (n + 1) c' (M ++ [row]) (vs ++ [.slice A1 row.length c1]) := by
  have h1 := h.keep hk0 hT
  have hvl := h.vlen
  have hM := h.len
  have keepI : ∀ (A2 : Option Addr) (m c2 : Nat) (xs : List Int), OI w1 B A2 m c2 xs → OI w2 B A2 m c2 xs := fun A2 m c2 xs hx => owns_keep hx hk (fun g hg hs => block_elem hx h1.out (by decide) g hg hs)
  refine ⟨ho, by simp [hM], fun r row' hr => ?_, fun r s u u' hrs hu hu' => ?_⟩
  · by_cases e : r = n
    · subst e
      rw [List.getElem?_append_right (by omega)] at hr
      simp [hM] at hr
      subst hr
      exact ⟨A1, c1, by rw [List.getElem?_append_right (by omega)]; simp [hvl], keepI _ _ _ _ (owns_mono hI hB)⟩
    · have hlt : r < n := by
        have := (List.getElem?_eq_some_iff.1 hr).1
        simp [hM] at this; omega
      rw [List.getElem?_append_left (by omega)] at hr
      obtain ⟨A2, c2, g1, g2⟩ := h1.row r row' hr
      exact ⟨A2, c2, by rw [List.getElem?_append_left (by omega)]; exact g1, keepI _ _ _ _ g2⟩
  · by_cases e : s = n
    · subst e
      rw [List.getElem?_append_right (by omega)] at hu'
      simp [hvl] at hu'
      subst hu'
      rw [List.getElem?_append_left (by omega)] at hu
      rcases ho' : u.ownBlock with _ | g
      · exact .inl ho'
      · right
        rw [ho']
        intro e2
        have hf := (h.foot r u g hu ho').2
        rcases hI.adr with ⟨rfl, _, _⟩ | ⟨g', rfl, hg', _⟩
        · simp [Value.ownBlock] at e2
        · simp only [Value.ownBlock, Option.some.injEq] at e2
          omega
    · have hs' : s < n := by
        have := (List.getElem?_eq_some_iff.1 hu').1
        simp [hvl] at this; omega
      rw [List.getElem?_append_left (by omega)] at hu hu'
      exact h.apart r s u u' hrs hu hu'
end Go.Proofs.Ytegkmolffemkpaa

/-
  The contracts of the exact laws' helpers that read: the sizes, the copies, the comparisons.
-/
import Derived.Test.YtegkmolffemkpaaOwn
import Derived.Test.YtegkmolffemkpaaMatS
namespace Go.Proofs.Ytegkmolffemkpaa
open Go.RowKit
def SzPost (Q : Int → Prop) (w : World) (e : Ending) (w' : World) : Prop := ∃ r : Int, e = .returned (.int .i64 r) ∧ Q r ∧ w = w'
def SzQ (left : Int) (n : Nat) (r : Int) : Prop := r < 0 ∨ (0 ≤ r ∧ r ≤ left ∧ (n : Int) ≤ left)
def SzQM (left : Int) (n : Nat) (M : List (List Int)) (r : Int) : Prop := r < 0 ∨ (0 ≤ r ∧ r ≤ left ∧ (n : Int) ≤ left ∧ ∀ row ∈ M, (row.length : Int) ≤ left)
theorem szIntS (A : Option Addr) (n c : Nat) (left : Int) (w : World) (hn : n ≤ 9223372036854775807) (h0 : 0 ≤ left) (h1 : left ≤ 1048576) :
    Calls Try.prog 53 #[.slice A n c, .int .i64 left] w (SzPost (SzQ left n) w) := by
  by_cases h : left < (n : Int)
  · go_enter Try.func53, Try.ntmps53
    go_wp2_with (fail)
    go_ret
    exact ⟨_, rfl, .inl (by omega), rfl⟩
  · go_enter Try.func53, Try.ntmps53
    go_wp2_with (fail)
    go_ret
    exact ⟨_, rfl, .inr ⟨by omega, by omega, by omega⟩, rfl⟩
theorem szIntSS (A : Option Addr) (n c b o : Nat) (M : List (List Int)) (left : Int) (w : World) (h : RA w A n b o M) (h0 : 0 ≤ left) (h1 : left ≤ 1048576) :
    Calls Try.prog 54 #[.slice A n c, .int .i64 left] w (SzPost (SzQM left n M) w) := by
  have hbig := h.big
  have H := Lib.hid h
  clear h
  by_cases h : left < (n : Int)
  · go_enter Try.func54, Try.ntmps54
    go_wp2_with (fail)
    go_ret
    exact ⟨_, rfl, .inl (by omega), rfl⟩
  · go_enter Try.func54, Try.ntmps54
    go_wp2_with (fail)
    go_loop [1, 5] (fun l i => ∃ (k : Nat) (q : Int), k ≤ n ∧ i = .int .i64 k ∧ l = .int .i64 q ∧ 0 ≤ q ∧ q ≤ left ∧ Hid (∀ row ∈ M.take k, (row.length : Int) ≤ left)) (fun _ i => n - (intOf i).toNat)
    case atStart => exact ⟨0, _, by omega, rfl, rfl, by omega, by omega, by simp [Hid]⟩
    case round =>
      obtain ⟨k, q, hk, rfl, rfl, hq0, hq1, hrows⟩ := hrel
      by_cases hlt : k < n
      · obtain rfl := H.out.adr (by omega)
        obtain ⟨row, A1, c1, b1, o1, hr, hc, hI⟩ := H.out.row k hlt
        have hbig1 := hI.big
        have HR := Lib.hid hr
        clear hI hr
        go_wp2_with (fail)
        refine (szIntS A1 row.length c1 q _ hbig1 hq0 (by omega)).mono ?_
        rintro e w' ⟨r, rfl, hr, rfl⟩
        rcases hr with hr | ⟨hr0, hr1, hr2⟩
        · go_wp2_with (fail)
          go_ret
          exact ⟨_, rfl, .inl (by omega), rfl⟩
        · go_wp2_with (fail)
          go_round
          case rel => exact ⟨k + 1, r, by omega, by go_num, rfl, by omega, by omega, by
            unfold Hid
            intro x hx
            rw [List.take_add_one, HR.out] at hx
            simp only [Option.toList_some, List.mem_append, List.mem_singleton] at hx
            rcases hx with hx | rfl
            · exact hrows.out x hx
            · omega⟩
          case measure => simp [intOf]; omega
      · go_wp2_with (fail)
        go_ret
        exact ⟨_, rfl, .inr ⟨by omega, by omega, by omega, fun row hr => hrows.out row (by rw [List.take_of_length_le (by rw [H.out.len]; omega)]; exact hr)⟩, rfl⟩
/-- a call's result: a slice of integers of its own -/
def MadeI (n : Nat) (xs : List Int) (w : World) (e : Ending) (w' : World) : Prop :=
  ∃ (A : Option Addr) (c : Nat), e = .returned (.slice A n c) ∧ OI w' w.heap.size A n c xs ∧ Below w.heap.size w w'
def MadeM (n : Nat) (M : List (List Int)) (w : World) (e : Ending) (w' : World) : Prop :=
  ∃ (A : Option Addr) (c : Nat) (vs : List Value), e = .returned (.slice A n c) ∧ OM w' w.heap.size A n c M vs ∧ Below w.heap.size w w'
theorem ints_step {xs : List Int} {k n : Nat} {x : Int} (hk : k < n) (hl : xs.length = n) (hx : xs[k]? = some x) :
    (ints (xs.take k ++ List.replicate (n - k) 0)).set k (.int .i64 x) = ints (xs.take (k + 1) ++ List.replicate (n - (k + 1)) 0) := by
  unfold ints
  have e : n - k = (n - (k + 1)) + 1 := by omega
  rw [List.take_add_one, hx, e, List.replicate_succ]
  simp only [List.map_append, List.map_cons, Option.toList_some, List.append_assoc, List.cons_append, List.nil_append]
  rw [List.set_append_right _ _ (by simp; omega)]
  simp
  rw [show k - min k xs.length = 0 by omega]
  rfl
theorem toIntS (A : Option Addr) (n c b o : Nat) (xs : List Int) (w : World) (h : IA w A n b o xs) (hn : n ≤ 1048576) :
    Calls Try.prog 26 #[.slice A n c] w (MadeI n xs w) := by
  have hlen := h.len
  have HL := Lib.hid hlen
  have H := Lib.hid h
  have hmk := run_make_row' (P := Try.prog) 23 3 (.int .i64 0) 8 Try.underlying23 infoInt rfl .i64 .i64 n (by omega) (by omega)
  clear h hlen
  go_enter Try.func26, Try.ntmps26
  go_wp2_with (fail)
  go_loopw [4] (fun i wr => ∃ k : Nat, k ≤ n ∧ i = .int .i64 k ∧ OI wr w.heap.size (some ⟨w.heap.size, 0, none⟩) n n (xs.take k ++ List.replicate (n - k) 0) ∧ Below w.heap.size w wr) (fun i _ => n - (intOf i).toNat)
  case atStart => exact ⟨0, by omega, rfl, by simpa using made_ints w n (by omega), (Below.refl _ _).alloc (Nat.le_refl _) _⟩
  case round =>
    obtain ⟨k, hk, rfl, hown, hbel⟩ := hrel
    by_cases hlt : k < n
    · obtain rfl := H.out.adr (by omega)
      obtain ⟨x, hx, hc⟩ := (H.out.below hbel).cell k hlt
      have hcell := World.ownsRow.cellAt hown k (by omega)
      have hfr := World.ownsRow.frozenAt hown k
      have hst := World.ownsRow.stored hown k (.int .i64 x)
      rw [ints_step hlt HL.out hx] at hst
      obtain ⟨v0, hv0⟩ : ∃ v0, wr.cell? ⟨w.heap.size, k, none⟩ = some v0 := by
        rw [hcell]; exact ⟨_, List.getElem?_eq_getElem (by simp [ints]; have := HL.out; omega)⟩
      have HO := Lib.hid hst
      have HB := Lib.hid hbel
      clear hx hcell hst hown hbel
      go_wp2_with (fail)
      go_roundw
      case rel => exact ⟨k + 1, by omega, by go_num, HO.out.1, HB.out.setCell (Nat.le_refl _) _⟩
      case measure => simp [intOf]; omega
    · have e : xs.take k ++ List.replicate (n - k) 0 = xs := by
        rw [show n - k = 0 by omega, List.take_of_length_le (by have := HL.out; omega)]; simp
      rw [e] at hown
      have HO := Lib.hid hown
      clear e hown
      go_wp2_with (fail)
      go_ret
      exact ⟨_, _, rfl, HO.out, hbel⟩
theorem rows_step {vs : List Value} {k n : Nat} {v z : Value} (hk : k < n) (hl : vs.length = k) :
    (vs ++ List.replicate (n - k) z).set k v = (vs ++ [v]) ++ List.replicate (n - (k + 1)) z := by
  have e : n - k = (n - (k + 1)) + 1 := by omega
  rw [e, List.replicate_succ, List.set_append_right _ _ (by omega)]
  simp [hl]
/-- the rows that are copied so far: each in a block of its own, from B + 1 on; the slice of slices itself in block B -/
structure Half (w : World) (B n k : Nat) (M : List (List Int)) (vs : List Value) : Prop where
  out : w.ownsRow B 23 1 (.slice (some ⟨B, 0, none⟩) n n) n (vs ++ List.replicate (n - k) (.slice none 0 0))
  vlen : vs.length = k
  row : ∀ (r : Nat) (row : List Int), r < k → M[r]? = some row → ∃ (A' : Option Addr) (c' : Nat), vs[r]? = some (Value.slice A' row.length c') ∧ OI w (B + 1) A' row.length c' row
  apart : ∀ (r s : Nat) (u u' : Value), r < s → vs[r]? = some u → vs[s]? = some u' → Apart u u'
theorem Half.start (w : World) (n : Nat) (M : List (List Int)) (hn : n ≤ 9223372036854775807) : Half (w.alloc (.cells (madeCells #[.slice none 0 0] n) 23)) w.heap.size n 0 M [] := by
  have h := World.ownsRow_lit (e := 23) (base := w.heap.size) (size := 1) w (madeCells #[.slice none 0 0] n) n (Nat.le_refl _) (by unfold maxLen; omega) (by simp [madeCells])
  rw [madeCells_one] at h
  exact ⟨by simpa using h, rfl, fun r row h => absurd h (by omega), fun r s u u' _ h => by simp at h⟩
theorem Half.done {w : World} {B n : Nat} {M : List (List Int)} {vs : List Value} (h : Half w B n n M vs) (hl : M.length = n) : OM w B (some ⟨B, 0, none⟩) n n M vs := by
  obtain ⟨h1, h2, h3, h4⟩ := h
  refine ⟨by simpa using h1, hl, fun r row hr => ?_, h4⟩
  have hlt : r < M.length := (List.getElem?_eq_some_iff.1 hr).1
  obtain ⟨A', c', g1, g2⟩ := h3 r row (by omega) hr
  exact ⟨A', c', g1, owns_mono g2 (by omega)⟩
theorem Half.step {w w1 : World} {B n k : Nat} {M : List (List Int)} {vs : List Value} (h : Half w B n k M vs) (hk : k < n) (hM : M.length = n) (hbel : Below w.heap.size w w1) {row : List Int} {A : Option Addr} {c : Nat} (hr : M[k]? = some row)
    (hI : OI w1 w.heap.size A row.length c row) : Half (w1.setCell ⟨B, k, none⟩ (.slice A row.length c)) B n (k + 1) M (vs ++ [.slice A row.length c]) ∧ w1.grownBy (w1.setCell ⟨B, k, none⟩ (.slice A row.length c)) (some B) := by
  obtain ⟨h1, h2, h3, h4⟩ := h
  have hB := h1.lt B rfl
  have ho := owns_below h1 hbel
  obtain ⟨hs, hg⟩ := World.ownsRow.stored ho k (.slice A row.length c)
  rw [rows_step hk h2] at hs
  have hkeep := keep_grown hg
  have old : ∀ (e m : Nat) (v : Value) (xs : List Value), w1.ownsRow (B + 1) e 1 v m xs → (w1.setCell ⟨B, k, none⟩ (.slice A row.length c)).ownsRow (B + 1) e 1 v m xs := fun e m v xs hx =>
    owns_keep hx hkeep (fun g hgv he => by have := (hx.lt g hgv).1; simp at he; omega)
  refine ⟨⟨hs, by simp [h2], fun r row' hlt hr' => ?_, fun r s u u' hrs hu hu' => ?_⟩, hg⟩
  · by_cases e : r = k
    · subst e
      rw [hr] at hr'
      obtain rfl := Option.some.inj hr'
      exact ⟨A, c, by rw [List.getElem?_append_right (by omega)]; simp [h2], old _ _ _ _ (owns_mono hI (by omega))⟩
    · obtain ⟨A', c', g1, g2⟩ := h3 r row' (by omega) hr'
      exact ⟨A', c', by rw [List.getElem?_append_left (by omega)]; exact g1, old _ _ _ _ (owns_below g2 hbel)⟩
  · by_cases e : s = k
    · rw [List.getElem?_append_right (by omega), e] at hu'
      simp [h2] at hu'
      subst hu'
      rw [List.getElem?_append_left (by omega)] at hu
      rcases ho' : u.ownBlock with _ | g
      · exact .inl ho'
      · right
        rw [ho']
        intro e2
        rcases hI.adr with ⟨rfl, _, _⟩ | ⟨g', rfl, hg', _⟩
        · simp [Value.ownBlock] at e2
        · simp only [Value.ownBlock, Option.some.injEq] at e2
          have hr1 : M[r]? = some (M[r]'(by omega)) := List.getElem?_eq_getElem (by omega)
          obtain ⟨A', c', g1, g2⟩ := h3 r _ (by omega) hr1
          rw [g1] at hu
          obtain rfl := Option.some.inj hu
          have := (g2.lt g ho').2
          omega
    · have hs' : s < k := by
        have := (List.getElem?_eq_some_iff.1 hu').1
        simp [h2] at this; omega
      rw [List.getElem?_append_left (by omega)] at hu hu'
      exact h4 r s u u' hrs hu hu'
theorem toIntSS (A : Option Addr) (n c b o : Nat) (M : List (List Int)) (w : World) (h : RA w A n b o M) (hn : n ≤ 1048576) (hr : ∀ row ∈ M, row.length ≤ 1048576) :
    Calls Try.prog 55 #[.slice A n c] w (MadeM n M w) := by
  have hlen := h.len
  have HL := Lib.hid hlen
  have H := Lib.hid h
  have HR := Lib.hid hr
  have hmk := run_make_row' (P := Try.prog) 24 23 (.slice none 0 0) 24 Try.underlying24 infoInts rfl .i64 .i64 n (by omega) (by omega)
  clear h hlen hr
  go_enter Try.func55, Try.ntmps55
  go_wp2_with (fail)
  go_loopw [4] (fun i wr => ∃ (k : Nat) (vs : List Value), k ≤ n ∧ i = .int .i64 k ∧ Half wr w.heap.size n k M vs ∧ Below w.heap.size w wr) (fun i _ => n - (intOf i).toNat)
  case atStart => exact ⟨0, [], by omega, rfl, Half.start w n M (by omega), (Below.refl _ _).alloc (Nat.le_refl _) _⟩
  case round =>
    obtain ⟨k, vs, hk, rfl, hown, hbel⟩ := hrel
    by_cases hlt : k < n
    · obtain rfl := H.out.adr (by omega)
      obtain ⟨row, A1, c1, b1, o1, hr, hc, hI⟩ := (H.out.below hbel).row k hlt
      have hrl := HR.out row (List.mem_of_getElem? hr)
      have hbig := hI.big
      have HO := Lib.hid hown
      have HB := Lib.hid hbel
      have HRR := Lib.hid hr
      clear hr hown hbel
      go_wp2_with (fail)
      refine (toIntS A1 row.length c1 b1 o1 row _ hI hrl).mono ?_
      rintro e w1 ⟨A2, c2, rfl, hI2, hB2⟩
      obtain ⟨hst, hgr⟩ := HO.out.step hlt HL.out hB2 HRR.out hI2
      have ho := owns_below HO.out.out hB2
      have hcell := World.ownsRow.cellAt ho k (by omega)
      have hfr := World.ownsRow.frozenAt ho k
      obtain ⟨v0, hv0⟩ : ∃ v0, w1.cell? ⟨w.heap.size, k, none⟩ = some v0 := by
        rw [hcell]; exact ⟨_, List.getElem?_eq_getElem (by have := HO.out.vlen; simp; omega)⟩
      have hs0 := HB.out.size
      have HS := Lib.hid hst
      have HB2 := Lib.hid (HB.out.trans (hB2.mono hs0))
      clear hcell ho hst hgr hB2 hI2
      go_wp2_with (fail)
      go_roundw
      case rel => exact ⟨k + 1, _, by omega, by go_num, HS.out, HB2.out.setCell (Nat.le_refl _) _⟩
      case measure => simp [intOf]; omega
    · obtain rfl : k = n := by omega
      have HO := Lib.hid (hown.done HL.out)
      clear hown
      go_wp2_with (fail)
      go_ret
      exact ⟨_, _, _, rfl, HO.out, hbel⟩
end Go.Proofs.Ytegkmolffemkpaa

/-
  Slices of numbers with their prime: what they hold; termsOf and numbersOf.
  The contract of trimmed: what is 0 at the end is left out.
  The contract of slices.Clone over numbers with their prime.
  The contract of the sum of two rows of numbers with their prime.
-/
import Derived.Test.YtecmclaockmgeaaDoorRes
import Derived.Test.YtecmclaockmgeaaDoorCopy
import Derived.Test.YtecmclaockmgeaaDoorMark
import Derived.Handy
import Derived.Test.YtecmclaockmgeaaDoorTrim
import Derived.Test.YtecmclaockmgeaaDoorApp
import Derived.Test.YtecmclaockmgeaaDoorPolM
import Derived.Deep.RegionWith
namespace Go.Proofs.YtecmclaockmgeaaDoor
open Go.RowKit
theorem infoRes : (Tryd.prog.info? 71).map (fun i => (i.zero, i.size, i.bytes)) = some (some (.agg #[.int .i64 0, .int .i64 0]), 2, 16) := by kernel_rfl
/-- the cells of a row of pairs -/
def two (zs : List (Int × Int)) : List Value := zs.flatMap fun z => [.int .i64 z.1, .int .i64 z.2]
def wp (p : Int) (xs : List Int) : List (Int × Int) := xs.map fun x => (p, x)
theorem two_len : ∀ zs : List (Int × Int), (two zs).length = zs.length * 2
  | [] => rfl
  | z :: zs => by
    have := two_len zs
    simp only [two, List.flatMap_cons, List.length_append, List.length_cons, List.length_nil] at this ⊢
    omega
theorem two_get : ∀ (zs : List (Int × Int)) (i : Nat) (z : Int × Int), zs[i]? = some z → (two zs)[i * 2]? = some (.int .i64 z.1) ∧ (two zs)[i * 2 + 1]? = some (.int .i64 z.2)
  | [], i, z, h => by simp at h
  | y :: zs, 0, z, h => by
    simp only [List.getElem?_cons_zero, Option.some.injEq] at h
    subst h
    exact ⟨rfl, rfl⟩
  | y :: zs, i + 1, z, h => by
    have ih := two_get zs i z (by simpa using h)
    have e : two (y :: zs) = .int .i64 y.1 :: .int .i64 y.2 :: two zs := rfl
    rw [e, show (i + 1) * 2 = i * 2 + 1 + 1 by omega]
    exact ⟨by simpa using ih.1, by simpa using ih.2⟩
theorem two_set : ∀ (zs : List (Int × Int)) (i : Nat) (a b : Int), ((two zs).set (i * 2) (.int .i64 a)).set (i * 2 + 1) (.int .i64 b) = two (zs.set i (a, b))
  | [], i, a, b => by simp [two]
  | y :: zs, 0, a, b => rfl
  | y :: zs, i + 1, a, b => by
    have ih := two_set zs i a b
    have e : two (y :: zs) = .int .i64 y.1 :: .int .i64 y.2 :: two zs := rfl
    rw [e, show (i + 1) * 2 = i * 2 + 1 + 1 by omega, List.set_cons_succ, List.set_cons_succ, List.set_cons_succ, List.set_cons_succ, ih, List.set_cons_succ]
    rfl
/-- a slice of the call's own, of numbers with the prime p -/
def OZ (w : World) (B : Nat) (A : Option Addr) (n c : Nat) (zs : List (Int × Int)) : Prop := w.ownsRow B 71 2 (.slice A n c) n (two zs)
def OT (w : World) (B : Nat) (A : Option Addr) (n c : Nat) (p : Int) (xs : List Int) : Prop := OZ w B A n c (wp p xs)
/-- a slice of such numbers that is read -/
structure IT (w : World) (A : Option Addr) (n c b : Nat) (p : Int) (xs : List Int) : Prop where
  len : xs.length = n
  adr : (A = none ∧ n = 0 ∧ c = 0) ∨ A = some ⟨b, 0, none⟩
  capn : n ≤ c
  big : c ≤ 9223372036854775807
  cell : ∀ i, i < n → ∃ x, xs[i]? = some x ∧ w.cell? ⟨b, i * 2, none⟩ = some (.int .i64 p) ∧ w.cell? ⟨b, i * 2 + 1, none⟩ = some (.int .i64 x)
theorem IT.keep {w w' : World} {A : Option Addr} {n c b : Nat} {p : Int} {xs : List Int} {S : Nat → Prop} (h : IT w A n c b p xs) (k : Keep S w w') (hs : 0 < n → ¬ S b) : IT w' A n c b p xs :=
  ⟨h.len, h.adr, h.capn, h.big, fun i hi => let ⟨x, h1, h2, h3⟩ := h.cell i hi; ⟨x, h1, k.cell h2 (hs (by omega)), k.cell h3 (hs (by omega))⟩⟩
theorem IT.below {w w' : World} {A : Option Addr} {n c b : Nat} {p : Int} {xs : List Int} (h : IT w A n c b p xs) (k : Below w.heap.size w w') : IT w' A n c b p xs := h.keep (keep_of_below k) (fun _ h => h)
theorem wp_len (p : Int) (xs : List Int) : (wp p xs).length = xs.length := by simp [wp]
theorem wp_get {p : Int} {xs : List Int} {i : Nat} {x : Int} (h : xs[i]? = some x) : (wp p xs)[i]? = some (p, x) := by simp [wp, h]
theorem OZ.len {w : World} {B n c : Nat} {A : Option Addr} {zs : List (Int × Int)} (h : OZ w B A n c zs) : zs.length = n := by
  have := h.1; rw [two_len] at this; omega
theorem OT.len {w : World} {B n c : Nat} {A : Option Addr} {p : Int} {xs : List Int} (h : OT w B A n c p xs) : xs.length = n := by have := OZ.len h; rwa [wp_len] at this
theorem OZ.adr {w : World} {B n c : Nat} {A : Option Addr} {zs : List (Int × Int)} (h : OZ w B A n c zs) : (A = none ∧ n = 0 ∧ c = 0) ∨ ∃ g, A = some ⟨g, 0, none⟩ ∧ B ≤ g ∧ g < w.heap.size ∧ n ≤ c ∧ c ≤ 9223372036854775807 := by
  rcases h.2 with ⟨h1, h2⟩ | ⟨g, cap, cur, hv, hb, hg, hn, hm, _⟩
  · simp only [Value.slice.injEq] at h1; exact .inl ⟨h1.1, h2, h1.2.2⟩
  · simp only [Value.slice.injEq] at hv
    obtain ⟨rfl, _, rfl⟩ := hv
    refine .inr ⟨g, rfl, hb, (Array.getElem?_eq_some_iff.1 hg).1, hn, ?_⟩
    unfold maxLen at hm; omega
theorem OT.it {w : World} {B n c : Nat} {A : Option Addr} {p : Int} {xs : List Int} (h : OT w B A n c p xs) : ∃ b, IT w A n c b p xs := by
  have hl := OT.len h
  rcases OZ.adr h with ⟨rfl, rfl, rfl⟩ | ⟨g, rfl, hb, hg, hnc, hc⟩
  · exact ⟨0, hl, .inl ⟨rfl, rfl, rfl⟩, Nat.le_refl _, by omega, fun i hi => by omega⟩
  · refine ⟨g, hl, .inr rfl, hnc, hc, fun i hi => ?_⟩
    obtain ⟨x, hx⟩ : ∃ x, xs[i]? = some x := ⟨xs[i], List.getElem?_eq_getElem (by omega)⟩
    obtain ⟨h1, h2⟩ := two_get _ _ _ (wp_get (p := p) hx)
    exact ⟨x, hx, by rw [World.ownsRow.cellAt h _ (by omega)]; exact h1, by rw [World.ownsRow.cellAt h _ (by omega)]; exact h2⟩
theorem OZ.below {w w' : World} {B n c : Nat} {A : Option Addr} {zs : List (Int × Int)} (h : OZ w B A n c zs) (k : Below w.heap.size w w') : OZ w' B A n c zs := owns_below h k
theorem OZ.mono {w : World} {B B' n c : Nat} {A : Option Addr} {zs : List (Int × Int)} (h : OZ w B A n c zs) (k : B' ≤ B) : OZ w B' A n c zs := owns_mono h k
/-- one element is written -/
theorem OZ.put {w : World} {B g n c : Nat} {zs : List (Int × Int)} (h : OZ w B (some ⟨g, 0, none⟩) n c zs) (i : Nat) (a b : Int) : OZ ((w.setCell ⟨g, i * 2, none⟩ (.int .i64 a)).setCell ⟨g, i * 2 + 1, none⟩ (.int .i64 b)) B (some ⟨g, 0, none⟩) n c (zs.set i (a, b)) := by
  have h1 := (World.ownsRow.stored h (i * 2) (.int .i64 a)).1
  have h2 := (World.ownsRow.stored h1 (i * 2 + 1) (.int .i64 b)).1
  rw [two_set] at h2
  exact h2
theorem madeCells_two (u v : Value) : ∀ n, (madeCells #[u, v] (n * 2)).toList = (List.replicate n [u, v]).flatten := by
  intro n
  induction n with
  | zero => simp [madeCells]
  | succ n ih =>
    have e : madeCells #[u, v] ((n + 1) * 2) = (madeCells #[u, v] (n * 2)) ++ #[u, v] := by
      apply Array.ext
      · simp [madeCells]; omega
      · intro i h1 h2
        simp only [madeCells, Array.size_map, Array.size_range] at h1
        by_cases hi : i < n * 2
        · rw [Array.getElem_append_left (by simpa [madeCells] using hi)]; simp [madeCells]
        · rw [Array.getElem_append_right (by simp [madeCells]; omega)]
          simp only [madeCells, Array.size_map, Array.size_range, Array.getElem_map, Array.getElem_range, List.size_toArray, List.length_cons, List.length_nil]
          have hc : i = n * 2 ∨ i = n * 2 + 1 := by omega
          rcases hc with rfl | rfl
          · simp
          · simp [Nat.add_mod]
    rw [e, Array.toList_append, ih, List.replicate_succ', List.flatten_append]
    rfl
theorem two_zero (n : Nat) : two (List.replicate n (0, 0)) = (List.replicate n [Value.int .i64 0, Value.int .i64 0]).flatten := by
  unfold two
  rw [List.flatMap_def, List.map_replicate]
theorem made_two (w : World) (n : Nat) (hn : n ≤ 9223372036854775807) : OZ (w.alloc (.cells (madeCells #[.int .i64 0, .int .i64 0] (n * 2)) 71)) w.heap.size (some ⟨w.heap.size, 0, none⟩) n n (List.replicate n (0, 0)) := by
  have h := World.ownsRow_lit (e := 71) (base := w.heap.size) (size := 2) w (madeCells #[.int .i64 0, .int .i64 0] (n * 2)) n (Nat.le_refl _) (by unfold maxLen; omega) (by simp [madeCells])
  rw [madeCells_two] at h
  unfold OZ
  rw [two_zero]
  exact h
theorem run_make_two {P : Program} (t e : TypeId) (u v : Value) (bytes : Nat) (ht : P.underlying t = some (.slice e)) (hinfo : (P.info? e).map (fun i => (i.zero, i.size, i.bytes)) = some (some (.agg #[u, v]), 2, bytes))
    (kl kc : IntKind) (n : Nat) (hbytes : bytes * n ≤ 281474976710656) (h63 : n ≤ 9223372036854775807) (w : World) :
    (Instr.makeSlice t (.int kl (n : Int)) (.int kc (n : Int))).run P w = .ok (.slice (some ⟨w.heap.size, 0, none⟩) n n) (w.alloc (.cells (madeCells #[u, v] (n * 2)) e)) := by
  obtain ⟨i, hi, hzz⟩ := Option.map_eq_some_iff.1 hinfo
  simp only [Prod.mk.injEq] at hzz
  obtain ⟨hz, hs, hb⟩ := hzz
  have hb' : (i.bytes : Int) * (n : Int) ≤ 281474976710656 := by
    have h : ((i.bytes * n : Nat) : Int) ≤ 281474976710656 := by rw [hb]; omega
    rwa [Int.natCast_mul] at h
  have hr := run_make (P := P) w t e i (.agg #[u, v]) ht hi hz kl kc n n (by omega) (Int.le_refl _) hb' (by omega)
  simp only [Int.toNat_natCast, hs] at hr
  exact hr
theorem two_mix {zs : List (Int × Int)} {k n : Nat} {z : Int × Int} (hl : zs.length = n) (hz : zs[k]? = some z) :
    (zs.take k ++ List.replicate (n - k) (0, 0)).set k z = zs.take (k + 1) ++ List.replicate (n - (k + 1)) (0, 0) := by
  have h := set_step zs (List.replicate n (0, 0)) k z (by simp [hl]) hz
  simpa using h
/-- a row of numbers with their prime comes back, in memory of the call's own -/
def MadeT (p : Int) (xs : List Int) (w : World) (e : Ending) (w' : World) : Prop :=
  ∃ (A : Option Addr) (c : Nat), e = .returned (.slice A xs.length c) ∧ OT w' w.heap.size A xs.length c p xs ∧ Below w.heap.size w w'
theorem termsOf_any (p : Int) (A : Option Addr) (n c b o : Nat) (xs : List Int) (w : World) (h : IA w A n b o xs) (hn : n ≤ 1048576) :
    Calls Tryd.prog 42 #[.int .i64 p, .slice A n c] w (MadeT p xs w) := by
  have HL := Lib.hid h.len
  have H := Lib.hid h
  have hmk := run_make_two (P := Tryd.prog) 67 71 (.int .i64 0) (.int .i64 0) 16 Tryd.underlying67 infoRes .i64 .i64 n (by omega) (by omega)
  clear h
  go_enter Tryd.func42, Tryd.ntmps42
  go_wp2_with (fail)
  go_loopw [13] (fun i wr => ∃ k : Nat, k ≤ n ∧ i = .int .i64 k ∧ OZ wr w.heap.size (some ⟨w.heap.size, 0, none⟩) n n ((wp p xs).take k ++ List.replicate (n - k) (0, 0)) ∧ Below w.heap.size w wr) (fun i _ => n - (intOf i).toNat)
  case atStart => exact ⟨0, by omega, rfl, by simpa using made_two w n (by omega), (Below.refl _ _).alloc (Nat.le_refl _) _⟩
  case round =>
    obtain ⟨k, hk, rfl, hown, hbel⟩ := hrel
    by_cases hlt : k < n
    · obtain rfl := H.out.adr (by omega)
      obtain ⟨x, hx, hc⟩ := (H.out.below hbel).cell k hlt
      have hlz := OZ.len hown
      have hst := hown.put k p x
      rw [two_mix (by rw [wp_len, HL.out]) (wp_get hx)] at hst
      obtain ⟨z, hz⟩ : ∃ z, ((wp p xs).take k ++ List.replicate (n - k) (0, 0))[k]? = some z := ⟨_, List.getElem?_eq_getElem (by omega)⟩
      obtain ⟨g1, g2⟩ := two_get _ _ _ hz
      have hc1 : wr.cell? ⟨w.heap.size, k * 2, none⟩ = some (.int .i64 z.1) := by rw [World.ownsRow.cellAt hown _ (by omega)]; exact g1
      have hc2 : wr.cell? ⟨w.heap.size, k * 2 + 1, none⟩ = some (.int .i64 z.2) := by rw [World.ownsRow.cellAt hown _ (by omega)]; exact g2
      have hf1 := World.ownsRow.frozenAt hown (k * 2)
      have hf2 := World.ownsRow.frozenAt hown (k * 2 + 1)
      have HO := Lib.hid hst
      have HB := Lib.hid hbel
      clear hx hst hown hbel hz g1 g2 hlz
      go_wp2_with (fail)
      go_roundw
      case rel => exact ⟨k + 1, by omega, by go_num, HO.out, (HB.out.setCell (Nat.le_refl _) _).setCell (Nat.le_refl _) _⟩
      case measure => simp [intOf]; omega
    · have e : (wp p xs).take k ++ List.replicate (n - k) (0, 0) = wp p xs := by
        rw [show n - k = 0 by omega, List.take_of_length_le (by rw [wp_len, HL.out]; omega)]; simp
      rw [e] at hown
      have HO := Lib.hid hown
      clear e hown
      go_wp2_with (fail)
      go_ret
      exact ⟨_, _, by rw [HL.out]; rfl, by rw [HL.out]; exact HO.out, hbel⟩
theorem numbersOf_any (p : Int) (A : Option Addr) (n c b : Nat) (xs : List Int) (w : World) (h : IT w A n c b p xs) (hn : n ≤ 1048576) :
    Calls Tryd.prog 65 #[.slice A n c] w (MadeI xs.length xs w) := by
  have HL := Lib.hid h.len
  have H := Lib.hid h
  have hmk := run_make_row' (P := Tryd.prog) 23 3 (.int .i64 0) 8 Tryd.underlying23 infoInt rfl .i64 .i64 n (by omega) (by omega)
  clear h
  go_enter Tryd.func65, Tryd.ntmps65
  go_wp2_with (fail)
  go_loopw [11] (fun i wr => ∃ k : Nat, k ≤ n ∧ i = .int .i64 k ∧ OI wr w.heap.size (some ⟨w.heap.size, 0, none⟩) n n (xs.take k ++ List.replicate (n - k) 0) ∧ Below w.heap.size w wr) (fun i _ => n - (intOf i).toNat)
  case atStart => exact ⟨0, by omega, rfl, by simpa using made_ints w n (by omega), (Below.refl _ _).alloc (Nat.le_refl _) _⟩
  case round =>
    obtain ⟨k, hk, rfl, hown, hbel⟩ := hrel
    by_cases hlt : k < n
    · obtain rfl : A = some ⟨b, 0, none⟩ := by rcases H.out.adr with ⟨_, h1, _⟩ | h1 <;> first | omega | exact h1
      have hcap := H.out.capn
      obtain ⟨x, hx, hp, hc⟩ := (H.out.below hbel).cell k hlt
      have hcell := World.ownsRow.cellAt hown k (by omega)
      have hfr := World.ownsRow.frozenAt hown k
      have hsz := (hown.lt w.heap.size rfl).2
      have hst := World.ownsRow.stored hown k (.int .i64 x)
      rw [ints_step hlt HL.out hx] at hst
      obtain ⟨v0, hv0⟩ : ∃ v0, wr.cell? ⟨w.heap.size, k, none⟩ = some v0 := by
        rw [hcell]; exact ⟨_, List.getElem?_eq_getElem (by simp [ints]; have := HL.out; omega)⟩
      have HO := Lib.hid hst
      have HB := Lib.hid hbel
      have hbs := hbel.size
      clear hx hcell hst hown hbel
      go_wp2_with (fail)
      go_roundw
      case rel => exact ⟨k + 1, by omega, by go_num, World.ownsRow.alloc HO.out.1 _, (HB.out.setCell (Nat.le_refl _) _).alloc (by simp [World.setCell]; omega) _⟩
      case measure => simp [intOf]; omega
    · have e : xs.take k ++ List.replicate (n - k) 0 = xs := by
        rw [show n - k = 0 by omega, List.take_of_length_le (by have := HL.out; omega)]; simp
      rw [e] at hown
      have HO := Lib.hid hown
      clear e hown
      go_wp2_with (fail)
      go_ret
      exact ⟨_, _, by rw [HL.out]; rfl, by rw [HL.out]; exact HO.out, hbel⟩
end Go.Proofs.YtecmclaockmgeaaDoor
namespace Go.Proofs.YtecmclaockmgeaaDoor
open Go.RowKit
theorem OT.take {w : World} {B n c : Nat} {A : Option Addr} {p : Int} {xs : List Int} (h : OT w B A n c p xs) {k : Nat} (hk : k ≤ n) : OT w B A k c p (xs.take k) := by
  have hl := OT.len h
  have e : two (wp p (xs.take k)) = (two (wp p xs)).take (k * 2) := by
    clear h hl hk
    induction xs generalizing k with
    | nil => simp [wp, two]
    | cons x xs ih =>
      cases k with
      | zero => simp [wp, two]
      | succ k =>
        have := ih (k := k)
        simp only [wp, two, List.take_succ_cons, List.map_cons, List.flatMap_cons, List.cons_append, List.nil_append] at this ⊢
        rw [this, show (k + 1) * 2 = k * 2 + 1 + 1 by omega, List.take_succ_cons, List.take_succ_cons]
  refine ⟨by rw [two_len, wp_len, List.length_take]; omega, ?_⟩
  rcases h.2 with ⟨h1, h2⟩ | ⟨g, cap, cur, hv, hb, hg, hn, hm, hs, ht⟩
  · subst h2
    simp only [Value.slice.injEq] at h1
    obtain ⟨rfl, _, rfl⟩ := h1
    have : k = 0 := by omega
    subst this
    exact .inl ⟨rfl, rfl⟩
  · simp only [Value.slice.injEq] at hv
    obtain ⟨rfl, _, rfl⟩ := hv
    refine .inr ⟨g, c, cur, rfl, hb, hg, by omega, hm, hs, ?_⟩
    rw [e, ← ht, List.take_take]
    congr 1
    omega
theorem trimmed_any (p : Int) (A : Option Addr) (n c b : Nat) (xs : List Int) (w : World) (h : IT w A n c b p xs) :
    Calls Tryd.prog 43 #[.slice A n c] w fun e w' => e = .returned (.slice A (trimL xs).length c) ∧ Below w.heap.size w w' := by
  have HL := Lib.hid h.len
  have H := Lib.hid h
  have hcap := h.capn
  clear h
  go_enter Tryd.func43, Tryd.ntmps43
  go_wp2_with (fail)
  go_loopw [0] (fun v wr => ∃ m : Nat, m ≤ n ∧ v = .slice A m c ∧ Hid (trimN xs m = trimN xs n) ∧ Below w.heap.size w wr) (fun v _ => match v with | .slice _ m _ => m | _ => 0)
  case atStart => exact ⟨n, by omega, rfl, rfl, Below.refl _ _⟩
  case round =>
    obtain ⟨m, hm, rfl, htr, hbel⟩ := hrel
    by_cases h0 : m = 0
    · subst h0
      have HZ := Lib.hid (show (trimL xs).length = 0 by rw [trimL_len, HL.out, ← htr.out]; rfl)
      go_wp2_with (fail)
      go_ret
      rw [HZ.out]
      exact ⟨rfl, hbel⟩
    · obtain rfl : A = some ⟨b, 0, none⟩ := by rcases H.out.adr with ⟨_, h1, _⟩ | h1 <;> first | omega | exact h1
      obtain ⟨x, hx, hp, hc⟩ := (H.out.below hbel).cell (m - 1) (by omega)
      have hst : trimN xs m = if x = 0 then trimN xs (m - 1) else m := by
        obtain ⟨q, rfl⟩ : ∃ q, m = q + 1 := ⟨m - 1, by omega⟩
        show (if xs.getD q 0 = 0 then trimN xs q else q + 1) = _
        rw [List.getD_eq_getElem?_getD, show xs[q]? = some x from hx]; rfl
      have hmi : ((m : Int) - 1).toNat = m - 1 := by omega
      have hbig := H.out.big
      by_cases hx0 : x = 0
      · subst hx0
        have HT := Lib.hid (show trimN xs (m - 1) = trimN xs n by rw [← htr.out, hst]; rfl)
        clear hst hx
        go_wp2_with (go_at_call 73; refine (res_isZero p 0 _).mono ?_; rintro e w' ⟨rfl, hB⟩)
        have hB2 := below_more hbel hB
        clear hbel hB
        go_roundw
        case rel => exact ⟨m - 1, by omega, rfl, HT, hB2⟩
        case measure => simp; omega
      · have hx1 : (x == 0) = false := by simpa using hx0
        have hm2 : trimN xs n = m := by rw [← htr.out, hst, if_neg hx0]
        have HZ := Lib.hid (show (trimL xs).length = m by rw [trimL_len, HL.out, hm2])
        clear hst hx hm2
        go_wp2_with (go_at_call 73; refine (res_isZero p x _).mono ?_; rintro e w' ⟨rfl, hB⟩)
        have hB2 := below_more hbel hB
        clear hbel hB
        go_ret
        rw [HZ.out]
        exact ⟨rfl, hB2⟩
end Go.Proofs.YtecmclaockmgeaaDoor
namespace Go.Proofs.YtecmclaockmgeaaDoor
open Go.RowKit
theorem nilEq1 (A : Addr) (n c : Nat) : ∀ w, (binOp BinOp.eql 67 (Value.slice (some A) n c) (Value.slice none 0 0)).run Tryd.prog w = .ok (.bool false) w := by
  intro w
  first | kernel_rfl | rfl
theorem nilEq0 : ∀ w, (binOp BinOp.eql 67 (Value.slice none 0 0) (Value.slice none 0 0)).run Tryd.prog w = .ok (.bool true) w := by
  intro w
  first | kernel_rfl | rfl
theorem two_one (zs : List (Int × Int)) : ∀ u ∈ two zs, u.oneCell' = true := by
  intro u hu
  simp only [two, List.mem_flatMap, List.mem_cons, List.not_mem_nil, or_false] at hu
  obtain ⟨z, _, rfl | rfl⟩ := hu <;> rfl
theorem IT.src {w : World} {n c b : Nat} {A : Option Addr} {p : Int} {xs : List Int} (h : IT w A n c b p xs) : ∀ j u, (two (wp p xs))[j]? = some u → w.cell? ((⟨b, 0, none⟩ : Addr).add j) = some u := by
  intro j u hu
  have hj : j < n * 2 := by
    have := (List.getElem?_eq_some_iff.1 hu).1
    rw [two_len, wp_len, h.len] at this
    exact this
  obtain ⟨x, hx, h1, h2⟩ := h.cell (j / 2) (by omega)
  obtain ⟨g1, g2⟩ := two_get _ _ _ (wp_get (p := p) hx)
  rw [addrAdd _ _ rfl]
  have hc : j = j / 2 * 2 ∨ j = j / 2 * 2 + 1 := by omega
  rcases hc with e | e
  · rw [e] at hu
    rw [g1] at hu
    obtain rfl := Option.some.inj hu
    show w.cell? ⟨b, 0 + j, none⟩ = _
    rw [Nat.zero_add, e]; exact h1
  · rw [e] at hu
    rw [g2] at hu
    obtain rfl := Option.some.inj hu
    show w.cell? ⟨b, 0 + j, none⟩ = _
    rw [Nat.zero_add, e]; exact h2
theorem clone_any (p : Int) (A : Option Addr) (n c b : Nat) (xs : List Int) (w : World) (h : IT w A n c b p xs) (hn : n ≤ 1000000) :
    Calls Tryd.prog 82 #[.slice A n c] w (MadeT p xs w) := by
  have HL := Lib.hid h.len
  have H := Lib.hid h
  have hcap := h.capn
  have hbig := h.big
  rcases h.adr with ⟨rfl, rfl, rfl⟩ | rfl
  · clear h
    have HX := Lib.hid (List.eq_nil_of_length_eq_zero HL.out)
    have hq := nilEq0
    go_enter Tryd.func82, Tryd.ntmps82
    go_wp2_with (fail)
    go_ret
    rw [HX.out]
    exact ⟨none, 0, rfl, World.ownsRow_nil _ _ _ _, Below.refl _ _⟩
  · clear h
    have hq := nilEq1 ⟨b, 0, none⟩ n c
    obtain ⟨i0, hi, hz0, hz1, hz2⟩ := info_parts infoRes
    go_enter Tryd.func82, Tryd.ntmps82
    go_wp2_with (at_builtin; refine wpList_append_own _ rfl (.tmp 5) (.tmp 6) 67 rfl w.heap.size 71 i0 (.agg #[.int .i64 0, .int .i64 0]) 2 16 Tryd.underlying67 hi hz0 hz1 hz2 rfl (by decide) _ 0 [] rfl (World.ownsRow_made w #[] 0 (Nat.le_refl _) (Nat.zero_le _) rfl) ⟨b, 0, none⟩ n c (two (wp p xs)) rfl (by rw [two_len, wp_len, HL.out]) (H.out.below ((Below.refl _ _).alloc (Nat.le_refl _) _)).src (two_one _) ?_ ?_ ?_ ?_)
    · unfold maxLen; omega
    · omega
    · simp
    · intro v' w' h2 h3 _
      obtain ⟨A', c', rfl⟩ := owns_shape h2
      have HO := Lib.hid (show OT w' w.heap.size A' n c' p xs from h2)
      have HB := Lib.hid (((Below.refl w.heap.size w).alloc (Nat.le_refl _) (.cells #[] 71)).grown h3 (by simp) (by intro k hk; simp [Value.ownBlock] at hk; omega))
      clear h2 h3
      go_wp2_with (fail)
      go_ret
      exact ⟨A', c', by rw [HL.out]; rfl, by rw [HL.out]; exact HO.out, HB.out⟩
end Go.Proofs.YtecmclaockmgeaaDoor
namespace Go.Proofs.YtecmclaockmgeaaDoor
open Go.RowKit
theorem OZ.cells {w : World} {B g n c : Nat} {zs : List (Int × Int)} (h : OZ w B (some ⟨g, 0, none⟩) n c zs) {i : Nat} {z : Int × Int} (hz : zs[i]? = some z) : w.cell? ⟨g, i * 2, none⟩ = some (.int .i64 z.1) ∧ w.cell? ⟨g, i * 2 + 1, none⟩ = some (.int .i64 z.2) ∧ w.frozen? ⟨g, i * 2, none⟩ = false ∧ w.frozen? ⟨g, i * 2 + 1, none⟩ = false := by
  have hl := OZ.len h
  have hi := (List.getElem?_eq_some_iff.1 hz).1
  obtain ⟨g1, g2⟩ := two_get _ _ _ hz
  exact ⟨by rw [World.ownsRow.cellAt h _ (by omega)]; exact g1, by rw [World.ownsRow.cellAt h _ (by omega)]; exact g2, World.ownsRow.frozenAt h _, World.ownsRow.frozenAt h _⟩
theorem wp_set (p : Int) (xs : List Int) (k : Nat) (x : Int) : (wp p xs).set k (p, x) = wp p (xs.set k x) := by simp [wp, List.map_set]
theorem trim_le (R : List Int) : (trimL R).length ≤ R.length := by rw [trimL_len]; exact trimN_le _ _
theorem take_trim (R : List Int) : R.take (trimL R).length = trimL R := by rw [trimL_len]; rfl
theorem mix_hi {α : Type} (xs ys : List α) (k : Nat) (hl : xs.length = ys.length) {i : Nat} (hi : k ≤ i) : (xs.take k ++ ys.drop k)[i]? = ys[i]? := by
  by_cases hk : k ≤ xs.length
  · rw [List.getElem?_append_right (by rw [List.length_take]; omega), List.length_take, List.getElem?_drop]
    congr 1
    omega
  · rw [List.getElem?_eq_none (by simp; omega), List.getElem?_eq_none (by omega)]
theorem addL_comm (p : Int) (f g : List Int) : addL p f g 1 = addL p g f 1 := by
  unfold addL addR addN
  rw [Nat.max_comm]
  congr 1
  apply List.map_congr_left
  intro k _
  rw [Int.one_mul, Int.one_mul, Int.add_comm]
set_option maxHeartbeats 2000000 in
theorem plus_any (p : Int) (A : Option Addr) (n c b : Nat) (f : List Int) (A' : Option Addr) (n' c' b' : Nat) (g : List Int) (w : World) (h : IT w A n c b p f) (h' : IT w A' n' c' b' p g) (hpr : primeB p = true) (hf : ∀ x ∈ f, numB p x = true) (hg : ∀ x ∈ g, numB p x = true) (hn : n ≤ 100000) (hn' : n' ≤ 100000) :
    Calls Tryd.prog 99 #[.slice A n c, .slice A' n' c'] w (MadeT p (addL p f g 1) w) := by
  have HL := Lib.hid h.len
  have H := Lib.hid h
  have hcap := h.capn
  have hbig := h.big
  have HL' := Lib.hid h'.len
  have H' := Lib.hid h'
  have hcap' := h'.capn
  have hbig' := h'.big
  by_cases hlt : n < n'
  · rw [show addL p f g 1 = addL p g f 1 from addL_comm p f g]
    clear h' h
    go_enter Tryd.func99, Tryd.ntmps99
    go_wp2_with (fail)
    refine (clone_any p A' n' c' b' g _ H'.out (by omega)).mono ?_
    rintro e w1 ⟨A1, c1, rfl, hO, hB⟩
    rw [HL'.out] at hO ⊢
    obtain ⟨R, hR⟩ : ∃ R, addR p g f 1 = R := ⟨_, rfl⟩
    have hRl : R.length = n' := by rw [← hR, addR_len, HL'.out, HL.out]; omega
    have HRG := Lib.hid (show ∀ k, k < n' → R[k]? = some (addN p g f 1 k) from fun k hk => by rw [← hR]; exact addR_get p g f 1 (by rw [HL'.out, HL.out]; omega))
    have HRL := Lib.hid hRl
    have HR := Lib.hid hR
    have HG := Lib.hid hg
    have HF := Lib.hid hf
    have hp := prime_ge hpr
    have HPR := Lib.hid hpr
    have HO := Lib.hid hO
    have hsz := hB.size
    clear hR hRl hg hf hpr hO
    go_wp2_with (fail)
    go_loopw [19] (fun i wr => ∃ k : Nat, k ≤ n ∧ i = .int .i64 k ∧ OT wr w.heap.size A1 n' c1 p (R.take k ++ g.drop k) ∧ Below w.heap.size w wr) (fun i _ => n - (intOf i).toNat)
    case atStart => exact ⟨0, by omega, rfl, by simpa using HO.out, hB⟩
    case round =>
      obtain ⟨k, hk, rfl, hown, hbel⟩ := hrel
      by_cases hkk : k < n
      · obtain rfl : A = some ⟨b, 0, none⟩ := by rcases H.out.adr with ⟨_, h1, _⟩ | h1 <;> first | omega | exact h1
        obtain ⟨y, hy, hyp, hyc⟩ := (H.out.below hbel).cell k hkk
        obtain ⟨x, hx⟩ : ∃ x, g[k]? = some x := ⟨_, List.getElem?_eq_getElem (by rw [HL'.out]; omega)⟩
        have hmx : (R.take k ++ g.drop k)[k]? = some x := by rw [mix_get _ _ _ (by rw [HRL.out, HL'.out]) (by rw [HRL.out]; omega), hx]
        obtain ⟨g1, hA1, hg1, hg2, hnc, hcc⟩ : ∃ f, A1 = some ⟨f, 0, none⟩ ∧ w.heap.size ≤ f ∧ f < wr.heap.size ∧ n' ≤ c1 ∧ c1 ≤ 9223372036854775807 := by
          rcases OZ.adr hown with ⟨_, h1, _⟩ | h1
          · omega
          · exact h1
        subst hA1
        obtain ⟨e1, e2, e3, e4⟩ := OZ.cells hown (wp_get (p := p) hmx)
        have hxv := HG.out x (List.mem_of_getElem? hx)
        have hyv := HF.out y (List.mem_of_getElem? hy)
        have hrk := HRG.out k (by omega)
        rw [show addN p g f 1 k = (x + y) % p by unfold addN; rw [getD_at hx, getD_at hy, Int.one_mul]] at hrk
        have HO2 := Lib.hid hown
        have HB2 := Lib.hid hbel
        have HV := Lib.hid (And.intro hxv hyv)
        have HRK := Lib.hid hrk
        have hs1 := hbel.size
        have hb' : b < wr.heap.size := cell_lt hyp
        have hbox := Below.refl wr.heap.size wr |>.alloc (Nat.le_refl _) (.cells #[.int .i64 p, .int .i64 y] 71)
        have q1 := (keep_of_below hbox).cell e1 (fun h' => h')
        have q2 := (keep_of_below hbox).cell e2 (fun h' => h')
        have q3 := ((keep_of_below hbox).frozen (p := ⟨g1, k * 2, none⟩) hg2 (fun h' => h')).trans e3
        have q4 := ((keep_of_below hbox).frozen (p := ⟨g1, k * 2 + 1, none⟩) hg2 (fun h' => h')).trans e4
        have Q := Lib.hid (And.intro q1 (And.intro q2 (And.intro q3 q4)))
        have hg2' : g1 < (wr.alloc (.cells #[.int .i64 p, .int .i64 y] 71)).heap.size := by simp; omega
        clear hown hbel hxv hyv hrk hmx hx hy q1 q2 q3 q4
        go_wp2_with (fail)
        go_region_with (go_at_call 101; refine (res_plus p x y _ HV.out.1 HV.out.2).mono ?_; rintro e w' ⟨rfl, hB⟩; have HBB := Lib.hid (show Below wr.heap.size wr w' from below_more hbox ⟨hB.os, hB.tape, hB.output, hB.size, hB.block⟩); have z1 := (keep_of_below hB).cell (p := ⟨g1, k * 2, none⟩) Q.out.1 (fun h' => h'); have z2 := (keep_of_below hB).cell (p := ⟨g1, k * 2 + 1, none⟩) Q.out.2.1 (fun h' => h'); have z3 := ((keep_of_below hB).frozen (p := ⟨g1, k * 2, none⟩) hg2' (fun h' => h')).trans Q.out.2.2.1; have z4 := ((keep_of_below hB).frozen (p := ⟨g1, k * 2 + 1, none⟩) hg2' (fun h' => h')).trans Q.out.2.2.2; clear hB)
        all_goals
          have hst := (OZ.below HO2.out HBB.out).put k p ((x + y) % p)
          rw [wp_set, set_step R g k _ (by rw [HRL.out, HL'.out]) HRK.out] at hst
          have HST := Lib.hid hst
          have HB3 := Lib.hid (((below_more HB2.out HBB.out).setCell (p := ⟨g1, k * 2, none⟩) hg1 (.int .i64 p)).setCell (p := ⟨g1, k * 2 + 1, none⟩) hg1 (.int .i64 ((x + y) % p)))
          clear hst z1 z2 z3 z4
          go_wp2_with (fail)
          go_roundw
          case rel => exact ⟨k + 1, by omega, by go_num, HST.out, HB3.out⟩
          case measure => simp [intOf]; omega
      · obtain rfl : k = n := by omega
        have e : R.take k ++ g.drop k = R := by
          apply List.ext_getElem?
          intro i
          by_cases hi : i < k
          · rw [List.getElem?_append_left (by rw [List.length_take, HRL.out]; omega), List.getElem?_take, if_pos hi]
          · by_cases hin : i < n'
            · rw [mix_hi _ _ _ (by rw [HRL.out, HL'.out]) (by omega), HRG.out i hin]
              obtain ⟨x, hx⟩ : ∃ x, g[i]? = some x := ⟨_, List.getElem?_eq_getElem (by rw [HL'.out]; omega)⟩
              have hxb := numB_bd (HG.out x (List.mem_of_getElem? hx))
              unfold addN
              rw [getD_at hx, getD_far (xs := f) (by rw [HL.out]; omega), hx, Int.mul_zero, Int.add_zero, Int.emod_eq_of_lt hxb.1 hxb.2.1]
            · rw [List.getElem?_eq_none (by simp [HRL.out, HL'.out]; omega), List.getElem?_eq_none (by rw [HRL.out]; omega)]
        rw [e] at hown
        obtain ⟨b1, hI⟩ := OT.it hown
        have HI := Lib.hid hI
        have HOW := Lib.hid hown
        have HBW := Lib.hid hbel
        have HAL := Lib.hid (show addL p g f 1 = trimL R by rw [← HR.out]; rfl)
        clear e hown hbel hI
        go_wp2_with (fail)
        refine (trimmed_any p A1 n' c1 b1 R _ HI.out).mono ?_
        rintro e w3 ⟨rfl, hB3⟩
        have hT := OT.take (OZ.below HOW.out hB3) (k := (trimL R).length) (by rw [← HRL.out]; exact trim_le R)
        have HT := Lib.hid (show OT w3 w.heap.size A1 (trimL R).length c1 p (trimL R) from by rw [show R.take (trimL R).length = trimL R from take_trim R] at hT; exact hT)
        have HB4 := Lib.hid (below_more HBW.out hB3)
        clear hT hB3
        go_wp2_with (fail)
        go_ret
        rw [HAL.out]
        exact ⟨_, _, rfl, HT.out, HB4.out⟩
  · clear h h'
    go_enter Tryd.func99, Tryd.ntmps99
    go_wp2_with (fail)
    refine (clone_any p A n c b f _ H.out (by omega)).mono ?_
    rintro e w1 ⟨A1, c1, rfl, hO, hB⟩
    rw [HL.out] at hO ⊢
    obtain ⟨R, hR⟩ : ∃ R, addR p f g 1 = R := ⟨_, rfl⟩
    have hRl : R.length = n := by rw [← hR, addR_len, HL.out, HL'.out]; omega
    have HRG := Lib.hid (show ∀ k, k < n → R[k]? = some (addN p f g 1 k) from fun k hk => by rw [← hR]; exact addR_get p f g 1 (by rw [HL.out, HL'.out]; omega))
    have HRL := Lib.hid hRl
    have HR := Lib.hid hR
    have HF := Lib.hid hf
    have HG := Lib.hid hg
    have hp := prime_ge hpr
    have HPR := Lib.hid hpr
    have HO := Lib.hid hO
    have hsz := hB.size
    clear hR hRl hf hg hpr hO
    go_wp2_with (fail)
    go_loopw [19] (fun i wr => ∃ k : Nat, k ≤ n' ∧ i = .int .i64 k ∧ OT wr w.heap.size A1 n c1 p (R.take k ++ f.drop k) ∧ Below w.heap.size w wr) (fun i _ => n' - (intOf i).toNat)
    case atStart => exact ⟨0, by omega, rfl, by simpa using HO.out, hB⟩
    case round =>
      obtain ⟨k, hk, rfl, hown, hbel⟩ := hrel
      by_cases hkk : k < n'
      · obtain rfl : A' = some ⟨b', 0, none⟩ := by rcases H'.out.adr with ⟨_, h1, _⟩ | h1 <;> first | omega | exact h1
        obtain ⟨y, hy, hyp, hyc⟩ := (H'.out.below hbel).cell k hkk
        obtain ⟨x, hx⟩ : ∃ x, f[k]? = some x := ⟨_, List.getElem?_eq_getElem (by rw [HL.out]; omega)⟩
        have hmx : (R.take k ++ f.drop k)[k]? = some x := by rw [mix_get _ _ _ (by rw [HRL.out, HL.out]) (by rw [HRL.out]; omega), hx]
        obtain ⟨g1, hA1, hg1, hg2, hnc, hcc⟩ : ∃ g, A1 = some ⟨g, 0, none⟩ ∧ w.heap.size ≤ g ∧ g < wr.heap.size ∧ n ≤ c1 ∧ c1 ≤ 9223372036854775807 := by
          rcases OZ.adr hown with ⟨_, h1, _⟩ | h1
          · omega
          · exact h1
        subst hA1
        obtain ⟨e1, e2, e3, e4⟩ := OZ.cells hown (wp_get (p := p) hmx)
        have hxv := HF.out x (List.mem_of_getElem? hx)
        have hyv := HG.out y (List.mem_of_getElem? hy)
        have hrk := HRG.out k (by omega)
        rw [show addN p f g 1 k = (x + y) % p by unfold addN; rw [getD_at hx, getD_at hy, Int.one_mul]] at hrk
        have HO2 := Lib.hid hown
        have HB2 := Lib.hid hbel
        have HV := Lib.hid (And.intro hxv hyv)
        have HRK := Lib.hid hrk
        have hs1 := hbel.size
        have hb' : b' < wr.heap.size := cell_lt hyp
        have hbox := Below.refl wr.heap.size wr |>.alloc (Nat.le_refl _) (.cells #[.int .i64 p, .int .i64 y] 71)
        have q1 := (keep_of_below hbox).cell e1 (fun h => h)
        have q2 := (keep_of_below hbox).cell e2 (fun h => h)
        have q3 := ((keep_of_below hbox).frozen (p := ⟨g1, k * 2, none⟩) hg2 (fun h => h)).trans e3
        have q4 := ((keep_of_below hbox).frozen (p := ⟨g1, k * 2 + 1, none⟩) hg2 (fun h => h)).trans e4
        have Q := Lib.hid (And.intro q1 (And.intro q2 (And.intro q3 q4)))
        have hg2' : g1 < (wr.alloc (.cells #[.int .i64 p, .int .i64 y] 71)).heap.size := by simp; omega
        clear hown hbel hxv hyv hrk hmx hx hy q1 q2 q3 q4
        go_wp2_with (fail)
        go_region_with (go_at_call 101; refine (res_plus p x y _ HV.out.1 HV.out.2).mono ?_; rintro e w' ⟨rfl, hB⟩; have HBB := Lib.hid (show Below wr.heap.size wr w' from below_more hbox ⟨hB.os, hB.tape, hB.output, hB.size, hB.block⟩); have z1 := (keep_of_below hB).cell (p := ⟨g1, k * 2, none⟩) Q.out.1 (fun h => h); have z2 := (keep_of_below hB).cell (p := ⟨g1, k * 2 + 1, none⟩) Q.out.2.1 (fun h => h); have z3 := ((keep_of_below hB).frozen (p := ⟨g1, k * 2, none⟩) hg2' (fun h => h)).trans Q.out.2.2.1; have z4 := ((keep_of_below hB).frozen (p := ⟨g1, k * 2 + 1, none⟩) hg2' (fun h => h)).trans Q.out.2.2.2; clear hB)
        all_goals
          have hst := (OZ.below HO2.out HBB.out).put k p ((x + y) % p)
          rw [wp_set, set_step R f k _ (by rw [HRL.out, HL.out]) HRK.out] at hst
          have HST := Lib.hid hst
          have HB3 := Lib.hid (((below_more HB2.out HBB.out).setCell (p := ⟨g1, k * 2, none⟩) hg1 (.int .i64 p)).setCell (p := ⟨g1, k * 2 + 1, none⟩) hg1 (.int .i64 ((x + y) % p)))
          clear hst z1 z2 z3 z4
          go_wp2_with (fail)
          go_roundw
          case rel => exact ⟨k + 1, by omega, by go_num, HST.out, HB3.out⟩
          case measure => simp [intOf]; omega
      · obtain rfl : k = n' := by omega
        have e : R.take k ++ f.drop k = R := by
          apply List.ext_getElem?
          intro i
          by_cases hi : i < k
          · rw [List.getElem?_append_left (by rw [List.length_take, HRL.out]; omega), List.getElem?_take, if_pos hi]
          · by_cases hin : i < n
            · rw [mix_hi _ _ _ (by rw [HRL.out, HL.out]) (by omega), HRG.out i hin]
              obtain ⟨x, hx⟩ : ∃ x, f[i]? = some x := ⟨_, List.getElem?_eq_getElem (by rw [HL.out]; omega)⟩
              have hxb := numB_bd (HF.out x (List.mem_of_getElem? hx))
              unfold addN
              rw [getD_at hx, getD_far (xs := g) (by rw [HL'.out]; omega), hx, Int.mul_zero, Int.add_zero, Int.emod_eq_of_lt hxb.1 hxb.2.1]
            · rw [List.getElem?_eq_none (by simp [HRL.out, HL.out]; omega), List.getElem?_eq_none (by rw [HRL.out]; omega)]
        rw [e] at hown
        obtain ⟨b1, hI⟩ := OT.it hown
        have HI := Lib.hid hI
        have HOW := Lib.hid hown
        have HBW := Lib.hid hbel
        have HAL := Lib.hid (show addL p f g 1 = trimL R by rw [← HR.out]; rfl)
        clear e hown hbel hI
        go_wp2_with (fail)
        refine (trimmed_any p A1 n c1 b1 R _ HI.out).mono ?_
        rintro e w3 ⟨rfl, hB3⟩
        have hT := OT.take (OZ.below HOW.out hB3) (k := (trimL R).length) (by rw [← HRL.out]; exact trim_le R)
        have HT := Lib.hid (show OT w3 w.heap.size A1 (trimL R).length c1 p (trimL R) from by rw [show R.take (trimL R).length = trimL R from take_trim R] at hT; exact hT)
        have HB4 := Lib.hid (below_more HBW.out hB3)
        clear hT hB3
        go_wp2_with (fail)
        go_ret
        rw [HAL.out]
        exact ⟨_, _, rfl, HT.out, HB4.out⟩
end Go.Proofs.YtecmclaockmgeaaDoor

/-
  Slices of numbers with their prime: what they hold; termsOf and numbersOf.
-/
import Derived.Test.YtmmadmfpbancmabRes
import Derived.Test.YtmmadmfpbancmabCopy
import Derived.Test.YtmmadmfpbancmabMark
import Derived.Handy
namespace Go.Proofs.Ytmmadmfpbancmab
open Go.RowKit
theorem infoRes : (Try.prog.info? 61).map (fun i => (i.zero, i.size, i.bytes)) = some (some (.agg #[.int .i64 0, .int .i64 0]), 2, 16) := by kernel_rfl
/-- the cells of a row of pairs -/
def two (zs : List (Int × Int)) : List Value := zs.flatMap fun z => [.int .i64 z.1, .int .i64 z.2]
def wp (p : Int) (xs : List Int) : List (Int × Int) := xs.map fun x => (p, x)
theorem two_len : ∀ zs : List (Int × Int), (two zs).length = zs.length * 2
  | [] => rfl
  | z :: zs => by
    have := two_len zs
    simp only [two, List.flatMap_cons, List.length_append, List.length_cons, List.length_nil] at this ⊢
    omega
theorem two_get : ∀ (zs : List (Int × Int)) (i : Nat) (z : Int × Int), zs[i]? = some z → (two zs)[i * 2]? = some (.int .i64 z.1) ∧ (two zs)[i * 2 + 1]? = some (.int .i64 z.2)
  | [], i, z, h => by simp at h
  | y :: zs, 0, z, h => by
    simp only [List.getElem?_cons_zero, Option.some.injEq] at h
    subst h
    exact ⟨rfl, rfl⟩
  | y :: zs, i + 1, z, h => by
    have ih := two_get zs i z (by simpa using h)
    have e : two (y :: zs) = .int .i64 y.1 :: .int .i64 y.2 :: two zs := rfl
    rw [e, show (i + 1) * 2 = i * 2 + 1 + 1 by omega]
    exact ⟨by simpa using ih.1, by simpa using ih.2⟩
theorem two_set : ∀ (zs : List (Int × Int)) (i : Nat) (a b : Int), ((two zs).set (i * 2) (.int .i64 a)).set (i * 2 + 1) (.int .i64 b) = two (zs.set i (a, b))
  | [], i, a, b => by simp [two]
  | y :: zs, 0, a, b => rfl
  | y :: zs, i + 1, a, b => by
    have ih := two_set zs i a b
    have e : two (y :: zs) = .int .i64 y.1 :: .int .i64 y.2 :: two zs := rfl
    rw [e, show (i + 1) * 2 = i * 2 + 1 + 1 by omega, List.set_cons_succ, List.set_cons_succ, List.set_cons_succ, List.set_cons_succ, ih, List.set_cons_succ]
    rfl
/-- a slice of the call's own, of numbers with the prime p -/
def OZ (w : World) (B : Nat) (A : Option Addr) (n c : Nat) (zs : List (Int × Int)) : Prop := w.ownsRow B 61 2 (.slice A n c) n (two zs)
def OT (w : World) (B : Nat) (A : Option Addr) (n c : Nat) (p : Int) (xs : List Int) : Prop := OZ w B A n c (wp p xs)
/-- a slice of such numbers that is read -/
structure IT (w : World) (A : Option Addr) (n c b : Nat) (p : Int) (xs : List Int) : Prop where
  len : xs.length = n
  adr : (A = none ∧ n = 0 ∧ c = 0) ∨ A = some ⟨b, 0, none⟩
  capn : n ≤ c
  big : c ≤ 9223372036854775807
  cell : ∀ i, i < n → ∃ x, xs[i]? = some x ∧ w.cell? ⟨b, i * 2, none⟩ = some (.int .i64 p) ∧ w.cell? ⟨b, i * 2 + 1, none⟩ = some (.int .i64 x)
theorem IT.keep {w w' : World} {A : Option Addr} {n c b : Nat} {p : Int} {xs : List Int} {S : Nat → Prop} (h : IT w A n c b p xs) (k : Keep S w w') (hs : 0 < n → ¬ S b) : IT w' A n c b p xs :=
  ⟨h.len, h.adr, h.capn, h.big, fun i hi => let ⟨x, h1, h2, h3⟩ := h.cell i hi; ⟨x, h1, k.cell h2 (hs (by omega)), k.cell h3 (hs (by omega))⟩⟩
theorem IT.below {w w' : World} {A : Option Addr} {n c b : Nat} {p : Int} {xs : List Int} (h : IT w A n c b p xs) (k : Below w.heap.size w w') : IT w' A n c b p xs := h.keep (keep_of_below k) (fun _ h => h)
theorem wp_len (p : Int) (xs : List Int) : (wp p xs).length = xs.length := by simp [wp]
theorem wp_get {p : Int} {xs : List Int} {i : Nat} {x : Int} (h : xs[i]? = some x) : (wp p xs)[i]? = some (p, x) := by simp [wp, h]
theorem OZ.len {w : World} {B n c : Nat} {A : Option Addr} {zs : List (Int × Int)} (h : OZ w B A n c zs) : zs.length = n := by
  have := h.1; rw [two_len] at this; omega
theorem OT.len {w : World} {B n c : Nat} {A : Option Addr} {p : Int} {xs : List Int} (h : OT w B A n c p xs) : xs.length = n := by have := OZ.len h; rwa [wp_len] at this
theorem OZ.adr {w : World} {B n c : Nat} {A : Option Addr} {zs : List (Int × Int)} (h : OZ w B A n c zs) : (A = none ∧ n = 0 ∧ c = 0) ∨ ∃ g, A = some ⟨g, 0, none⟩ ∧ B ≤ g ∧ g < w.heap.size ∧ n ≤ c ∧ c ≤ 9223372036854775807 := by
  rcases h.2 with ⟨h1, h2⟩ | ⟨g, cap, cur, hv, hb, hg, hn, hm, _⟩
  · simp only [Value.slice.injEq] at h1; exact .inl ⟨h1.1, h2, h1.2.2⟩
  · simp only [Value.slice.injEq] at hv
    obtain ⟨rfl, _, rfl⟩ := hv
    refine .inr ⟨g, rfl, hb, (Array.getElem?_eq_some_iff.1 hg).1, hn, ?_⟩
    unfold maxLen at hm; omega
theorem OT.it {w : World} {B n c : Nat} {A : Option Addr} {p : Int} {xs : List Int} (h : OT w B A n c p xs) : ∃ b, IT w A n c b p xs := by
  have hl := OT.len h
  rcases OZ.adr h with ⟨rfl, rfl, rfl⟩ | ⟨g, rfl, hb, hg, hnc, hc⟩
  · exact ⟨0, hl, .inl ⟨rfl, rfl, rfl⟩, Nat.le_refl _, by omega, fun i hi => by omega⟩
  · refine ⟨g, hl, .inr rfl, hnc, hc, fun i hi => ?_⟩
    obtain ⟨x, hx⟩ : ∃ x, xs[i]? = some x := ⟨xs[i], List.getElem?_eq_getElem (by omega)⟩
    obtain ⟨h1, h2⟩ := two_get _ _ _ (wp_get (p := p) hx)
    exact ⟨x, hx, by rw [World.ownsRow.cellAt h _ (by omega)]; exact h1, by rw [World.ownsRow.cellAt h _ (by omega)]; exact h2⟩
theorem OZ.below {w w' : World} {B n c : Nat} {A : Option Addr} {zs : List (Int × Int)} (h : OZ w B A n c zs) (k : Below w.heap.size w w') : OZ w' B A n c zs := owns_below h k
theorem OZ.mono {w : World} {B B' n c : Nat} {A : Option Addr} {zs : List (Int × Int)} (h : OZ w B A n c zs) (k : B' ≤ B) : OZ w B' A n c zs := owns_mono h k
/-- one element is written -/
theorem OZ.put {w : World} {B g n c : Nat} {zs : List (Int × Int)} (h : OZ w B (some ⟨g, 0, none⟩) n c zs) (i : Nat) (a b : Int) : OZ ((w.setCell ⟨g, i * 2, none⟩ (.int .i64 a)).setCell ⟨g, i * 2 + 1, none⟩ (.int .i64 b)) B (some ⟨g, 0, none⟩) n c (zs.set i (a, b)) := by
  have h1 := (World.ownsRow.stored h (i * 2) (.int .i64 a)).1
  have h2 := (World.ownsRow.stored h1 (i * 2 + 1) (.int .i64 b)).1
  rw [two_set] at h2
  exact h2
theorem madeCells_two (u v : Value) : ∀ n, (madeCells #[u, v] (n * 2)).toList = (List.replicate n [u, v]).flatten := by
  intro n
  induction n with
  | zero => simp [madeCells]
  | succ n ih =>
    have e : madeCells #[u, v] ((n + 1) * 2) = (madeCells #[u, v] (n * 2)) ++ #[u, v] := by
      apply Array.ext
      · simp [madeCells]; omega
      · intro i h1 h2
        simp only [madeCells, Array.size_map, Array.size_range] at h1
        by_cases hi : i < n * 2
        · rw [Array.getElem_append_left (by simpa [madeCells] using hi)]; simp [madeCells]
        · rw [Array.getElem_append_right (by simp [madeCells]; omega)]
          simp only [madeCells, Array.size_map, Array.size_range, Array.getElem_map, Array.getElem_range, List.size_toArray, List.length_cons, List.length_nil]
          have hc : i = n * 2 ∨ i = n * 2 + 1 := by omega
          rcases hc with rfl | rfl
          · simp
          · simp [Nat.add_mod]
    rw [e, Array.toList_append, ih, List.replicate_succ', List.flatten_append]
    rfl
theorem two_zero (n : Nat) : two (List.replicate n (0, 0)) = (List.replicate n [Value.int .i64 0, Value.int .i64 0]).flatten := by
  unfold two
  rw [List.flatMap_def, List.map_replicate]
theorem made_two (w : World) (n : Nat) (hn : n ≤ 9223372036854775807) : OZ (w.alloc (.cells (madeCells #[.int .i64 0, .int .i64 0] (n * 2)) 61)) w.heap.size (some ⟨w.heap.size, 0, none⟩) n n (List.replicate n (0, 0)) := by
  have h := World.ownsRow_lit (e := 61) (base := w.heap.size) (size := 2) w (madeCells #[.int .i64 0, .int .i64 0] (n * 2)) n (Nat.le_refl _) (by unfold maxLen; omega) (by simp [madeCells])
  rw [madeCells_two] at h
  unfold OZ
  rw [two_zero]
  exact h
theorem run_make_two {P : Program} (t e : TypeId) (u v : Value) (bytes : Nat) (ht : P.underlying t = some (.slice e)) (hinfo : (P.info? e).map (fun i => (i.zero, i.size, i.bytes)) = some (some (.agg #[u, v]), 2, bytes))
    (kl kc : IntKind) (n : Nat) (hbytes : bytes * n ≤ 281474976710656) (h63 : n ≤ 9223372036854775807) (w : World) :
    (Instr.makeSlice t (.int kl (n : Int)) (.int kc (n : Int))).run P w = .ok (.slice (some ⟨w.heap.size, 0, none⟩) n n) (w.alloc (.cells (madeCells #[u, v] (n * 2)) e)) := by
  obtain ⟨i, hi, hzz⟩ := Option.map_eq_some_iff.1 hinfo
  simp only [Prod.mk.injEq] at hzz
  obtain ⟨hz, hs, hb⟩ := hzz
  have hb' : (i.bytes : Int) * (n : Int) ≤ 281474976710656 := by
    have h : ((i.bytes * n : Nat) : Int) ≤ 281474976710656 := by rw [hb]; omega
    rwa [Int.natCast_mul] at h
  have hr := run_make (P := P) w t e i (.agg #[u, v]) ht hi hz kl kc n n (by omega) (Int.le_refl _) hb' (by omega)
  simp only [Int.toNat_natCast, hs] at hr
  exact hr
theorem two_mix {zs : List (Int × Int)} {k n : Nat} {z : Int × Int} (hl : zs.length = n) (hz : zs[k]? = some z) :
    (zs.take k ++ List.replicate (n - k) (0, 0)).set k z = zs.take (k + 1) ++ List.replicate (n - (k + 1)) (0, 0) := by
  have h := set_step zs (List.replicate n (0, 0)) k z (by simp [hl]) hz
  simpa using h
/-- a row of numbers with their prime comes back, in memory of the call's own -/
def MadeT (p : Int) (xs : List Int) (w : World) (e : Ending) (w' : World) : Prop :=
  ∃ (A : Option Addr) (c : Nat), e = .returned (.slice A xs.length c) ∧ OT w' w.heap.size A xs.length c p xs ∧ Below w.heap.size w w'
theorem termsOf_any (p : Int) (A : Option Addr) (n c b o : Nat) (xs : List Int) (w : World) (h : IA w A n b o xs) (hn : n ≤ 1048576) :
    Calls Try.prog 44 #[.int .i64 p, .slice A n c] w (MadeT p xs w) := by
  have HL := Lib.hid h.len
  have H := Lib.hid h
  have hmk := run_make_two (P := Try.prog) 57 61 (.int .i64 0) (.int .i64 0) 16 Try.underlying57 infoRes .i64 .i64 n (by omega) (by omega)
  clear h
  go_enter Try.func44, Try.ntmps44
  go_wp2_with (fail)
  go_loopw [13] (fun i wr => ∃ k : Nat, k ≤ n ∧ i = .int .i64 k ∧ OZ wr w.heap.size (some ⟨w.heap.size, 0, none⟩) n n ((wp p xs).take k ++ List.replicate (n - k) (0, 0)) ∧ Below w.heap.size w wr) (fun i _ => n - (intOf i).toNat)
  case atStart => exact ⟨0, by omega, rfl, by simpa using made_two w n (by omega), (Below.refl _ _).alloc (Nat.le_refl _) _⟩
  case round =>
    obtain ⟨k, hk, rfl, hown, hbel⟩ := hrel
    by_cases hlt : k < n
    · obtain rfl := H.out.adr (by omega)
      obtain ⟨x, hx, hc⟩ := (H.out.below hbel).cell k hlt
      have hlz := OZ.len hown
      have hst := hown.put k p x
      rw [two_mix (by rw [wp_len, HL.out]) (wp_get hx)] at hst
      obtain ⟨z, hz⟩ : ∃ z, ((wp p xs).take k ++ List.replicate (n - k) (0, 0))[k]? = some z := ⟨_, List.getElem?_eq_getElem (by omega)⟩
      obtain ⟨g1, g2⟩ := two_get _ _ _ hz
      have hc1 : wr.cell? ⟨w.heap.size, k * 2, none⟩ = some (.int .i64 z.1) := by rw [World.ownsRow.cellAt hown _ (by omega)]; exact g1
      have hc2 : wr.cell? ⟨w.heap.size, k * 2 + 1, none⟩ = some (.int .i64 z.2) := by rw [World.ownsRow.cellAt hown _ (by omega)]; exact g2
      have hf1 := World.ownsRow.frozenAt hown (k * 2)
      have hf2 := World.ownsRow.frozenAt hown (k * 2 + 1)
      have HO := Lib.hid hst
      have HB := Lib.hid hbel
      clear hx hst hown hbel hz g1 g2 hlz
      go_wp2_with (fail)
      go_roundw
      case rel => exact ⟨k + 1, by omega, by go_num, HO.out, (HB.out.setCell (Nat.le_refl _) _).setCell (Nat.le_refl _) _⟩
      case measure => simp [intOf]; omega
    · have e : (wp p xs).take k ++ List.replicate (n - k) (0, 0) = wp p xs := by
        rw [show n - k = 0 by omega, List.take_of_length_le (by rw [wp_len, HL.out]; omega)]; simp
      rw [e] at hown
      have HO := Lib.hid hown
      clear e hown
      go_wp2_with (fail)
      go_ret
      exact ⟨_, _, by rw [HL.out]; rfl, by rw [HL.out]; exact HO.out, hbel⟩
theorem numbersOf_any (p : Int) (A : Option Addr) (n c b : Nat) (xs : List Int) (w : World) (h : IT w A n c b p xs) (hn : n ≤ 1048576) :
    Calls Try.prog 45 #[.slice A n c] w (MadeI xs.length xs w) := by
  have HL := Lib.hid h.len
  have H := Lib.hid h
  have hmk := run_make_row' (P := Try.prog) 23 3 (.int .i64 0) 8 Try.underlying23 infoInt rfl .i64 .i64 n (by omega) (by omega)
  clear h
  go_enter Try.func45, Try.ntmps45
  go_wp2_with (fail)
  go_loopw [11] (fun i wr => ∃ k : Nat, k ≤ n ∧ i = .int .i64 k ∧ OI wr w.heap.size (some ⟨w.heap.size, 0, none⟩) n n (xs.take k ++ List.replicate (n - k) 0) ∧ Below w.heap.size w wr) (fun i _ => n - (intOf i).toNat)
  case atStart => exact ⟨0, by omega, rfl, by simpa using made_ints w n (by omega), (Below.refl _ _).alloc (Nat.le_refl _) _⟩
  case round =>
    obtain ⟨k, hk, rfl, hown, hbel⟩ := hrel
    by_cases hlt : k < n
    · obtain rfl : A = some ⟨b, 0, none⟩ := by rcases H.out.adr with ⟨_, h1, _⟩ | h1 <;> first | omega | exact h1
      have hcap := H.out.capn
      obtain ⟨x, hx, hp, hc⟩ := (H.out.below hbel).cell k hlt
      have hcell := World.ownsRow.cellAt hown k (by omega)
      have hfr := World.ownsRow.frozenAt hown k
      have hsz := (hown.lt w.heap.size rfl).2
      have hst := World.ownsRow.stored hown k (.int .i64 x)
      rw [ints_step hlt HL.out hx] at hst
      obtain ⟨v0, hv0⟩ : ∃ v0, wr.cell? ⟨w.heap.size, k, none⟩ = some v0 := by
        rw [hcell]; exact ⟨_, List.getElem?_eq_getElem (by simp [ints]; have := HL.out; omega)⟩
      have HO := Lib.hid hst
      have HB := Lib.hid hbel
      have hbs := hbel.size
      clear hx hcell hst hown hbel
      go_wp2_with (fail)
      go_roundw
      case rel => exact ⟨k + 1, by omega, by go_num, World.ownsRow.alloc HO.out.1 _, (HB.out.setCell (Nat.le_refl _) _).alloc (by simp [World.setCell]; omega) _⟩
      case measure => simp [intOf]; omega
    · have e : xs.take k ++ List.replicate (n - k) 0 = xs := by
        rw [show n - k = 0 by omega, List.take_of_length_le (by have := HL.out; omega)]; simp
      rw [e] at hown
      have HO := Lib.hid hown
      clear e hown
      go_wp2_with (fail)
      go_ret
      exact ⟨_, _, by rw [HL.out]; rfl, by rw [HL.out]; exact HO.out, hbel⟩
end Go.Proofs.Ytmmadmfpbancmab

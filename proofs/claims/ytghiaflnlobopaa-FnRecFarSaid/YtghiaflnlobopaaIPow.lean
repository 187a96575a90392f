/-
  The contract of bits.Len at the numbers up to a million.
  Powers, square by square, from the first bit on.
  The contract of the program's PowerRest.
-/
import Derived.Test.YtghiaflnlobopaaRows
import Derived.WalkKit
import Derived.ProofKit
import Derived.Lib.Strings
import Derived.Lib.Small
import Derived.Lib.Walk
import Derived.Lib.BitFns
import Derived.Test.YtghiaflnlobopaaPolN
import Derived.Test.YtghiaflnlobopaaIDiv
import Derived.Test.YtghiaflnlobopaaTi
import Derived.Lib.RabinKarpLaws
namespace Go.Proofs.Ytghiaflnlobopaa
open Go.RowKit
theorem tab_len (b : Int) (h : b.toNat < Lib.len8tab.size) : ((Lib.len8tab[b.toNat]'h).toNat : Int) = Lib.len8 b := by
  unfold Lib.len8; rw [getElem?_pos Lib.len8tab b.toNat h]; rfl
set_option maxHeartbeats 4000000 in
set_option maxRecDepth 100000 in
theorem len64_any (x : Int) (w : World) (h0 : 0 ≤ x) (h1 : x ≤ 1000000) :
    Calls Try.prog 47 #[.int .u64 x] w fun e w' => e = .returned (.int .i64 (Lib.bitLen x.toNat)) ∧ w = w' := by
  go_enter Try.func47, Try.ntmps47
  by_cases c1 : x < 256
  · go_wp2
    go_ret
    refine ⟨congrArg Ending.returned (congrArg (Value.int IntKind.i64) ?_), rfl⟩
    rw [tab_len, Lib.len8_of (x) (by omega) (by omega)]
    have l := Lib.bitLen_le8' x (by omega) (by omega)
    unfold wrap64
    omega
  by_cases c2 : x < 65536
  · have hi : 0 ≤ x / 256 ∧ x / 256 < (Lib.len8tab.size : Int) := by have := Lib.len8tab_size; omega
    go_wp2
    go_ret
    refine ⟨congrArg Ending.returned (congrArg (Value.int IntKind.i64) ?_), rfl⟩
    rw [tab_len, Lib.len8_of (x / 256) (by omega) (by omega)]
    have e : (x / 256).toNat = x.toNat / 256 := by omega
    have l := Lib.bitLen_le8' (x / 256) (by omega) (by omega)
    have s := Lib.bitLen_shift8 x.toNat (by omega) (by omega)
    rw [e] at l ⊢
    unfold wrap64
    omega
  · have hi : 0 ≤ x / 65536 ∧ x / 65536 < (Lib.len8tab.size : Int) := by have := Lib.len8tab_size; omega
    go_wp2
    go_ret
    refine ⟨congrArg Ending.returned (congrArg (Value.int IntKind.i64) ?_), rfl⟩
    rw [tab_len, Lib.len8_of (x / 65536) (by omega) (by omega)]
    have e : (x / 65536).toNat = x.toNat / 65536 := by omega
    have l := Lib.bitLen_le8' (x / 65536) (by omega) (by omega)
    have s := Lib.bitLen_shift16 x.toNat (by omega) (by omega)
    rw [e] at l ⊢
    unfold wrap64
    omega
theorem len_any (x : Int) (w : World) (h0 : 0 ≤ x) (h1 : x ≤ 1000000) :
    Calls Try.prog 31 #[.int .u64 x] w fun e w' => e = .returned (.int .i64 (Lib.bitLen x.toNat)) ∧ w = w' := by
  go_enter Try.func31, Try.ntmps31
  go_wp2_with (fail)
  refine (len64_any x _ h0 h1).mono ?_
  rintro e w' ⟨rfl, rfl⟩
  go_wp2_with (fail)
  go_ret
  exact ⟨rfl, rfl⟩
end Go.Proofs.Ytghiaflnlobopaa
namespace Go.Proofs.Ytghiaflnlobopaa
open Go.RowKit
theorem mulR_law' {p : Int} {g a b : List Int} (hg : polB p g = true) (h1 : 1 ≤ g.length) (hgl : g.length ≤ 12) (ha : polB p a = true) (hb : polB p b = true) (hal : a.length < g.length) (hbl : b.length ≤ g.length) :
    polB p (mulR p g a b) = true ∧ (mulR p g a b).length < g.length ∧ CG p (co g) (co (mulR p g a b)) (cv (co a) (co b)) ∧ trimL (tmsL p a b) = tmsL p a b ∧ polB p (tmsL p a b) = true := by
  have ht : polB p (tmsL p a b) = true := tmsL_pol ha hb (by unfold tmsN; split <;> omega)
  have e := trim_pol (polB_last ht)
  obtain ⟨_, r2, _, r4, _⟩ := div_law (polB_ser ht) hg h1
  unfold mulR
  rw [e]
  refine ⟨r2, r4, (CG.rem (polB_ser ht) hg h1).symm.trans (CG.near fun k => ?_), rfl, ht⟩
  rw [co_tmsL]; exact near_mod _ _
/-- a row is the rest of the power with this exponent -/
def PS (p : Int) (g R : List Int) (e : Nat) : Prop := polB p R = true ∧ R.length < g.length ∧ CG p (co g) (co R) (mono e)
theorem one_pol {p : Int} (hp : primeB p = true) : polB p [1] = true ∧ polB p [0, 1] = true := by
  obtain ⟨h1, h2⟩ := serB_one hp
  exact ⟨polB_of h1 (.inr (by decide)), polB_of h2 (.inr (by decide))⟩
theorem co_one : co [1] = mono 0 := by
  funext k
  match k with
  | 0 => rfl
  | k + 1 => unfold co mono; simp
theorem co_var : co [0, 1] = mono 1 := by
  funext k
  match k with
  | 0 => rfl
  | 1 => rfl
  | k + 2 => unfold co mono; simp
theorem mono_far (k : Nat) : ∀ j, k + 1 ≤ j → mono k j = 0 := fun j hj => by unfold mono; rw [if_neg (by omega)]
theorem ps_one {p : Int} {g : List Int} (hp : primeB p = true) (h2 : 2 ≤ g.length) : PS p g [1] 0 := ⟨(one_pol hp).1, (show 1 < g.length by omega), by rw [co_one]; exact CG.refl _ _ _⟩
theorem ps_sq {p : Int} {g R : List Int} {e : Nat} (hg : polB p g = true) (h1 : 2 ≤ g.length) (hgl : g.length ≤ 12) (h : PS p g R e) : PS p g (mulR p g R R) (e + e) := by
  obtain ⟨r1, r2, r3⟩ := h
  obtain ⟨s1, s2, s3, _⟩ := mulR_law' hg (by omega) hgl r1 r1 r2 (by omega)
  have := s3.trans (r3.mul2 r3 (fun k hk => co_far hk) (mono_far e))
  rw [show cv (mono e) (mono e) = mono (e + e) from funext (mono_cv e e)] at this
  exact ⟨s1, s2, this⟩
theorem ps_var {p : Int} {g R : List Int} {e : Nat} (hg : polB p g = true) (h1 : 2 ≤ g.length) (hgl : g.length ≤ 12) (h : PS p g R e) : PS p g (mulR p g R [0, 1]) (e + 1) := by
  obtain ⟨r1, r2, r3⟩ := h
  have hp := (serB_true (polB_ser hg)).1
  obtain ⟨s1, s2, s3, _⟩ := mulR_law' hg (by omega) hgl r1 (one_pol hp).2 r2 (by simpa using h1)
  have hv : CG p (co g) (co [0, 1]) (mono 1) := by rw [co_var]; exact CG.refl _ _ _
  have := s3.trans (r3.mul2 hv (fun k hk => co_far hk) (mono_far e))
  rw [show cv (mono e) (mono 1) = mono (e + 1) from funext (mono_cv e 1)] at this
  exact ⟨s1, s2, this⟩
theorem ps_end {p : Int} {g R : List Int} {n : Nat} (hg : polB p g = true) (h1 : 2 ≤ g.length) (hgl : g.length ≤ 12) (h : PS p g R n) : R = powR p g n := by
  obtain ⟨r1, r2, r3⟩ := h
  obtain ⟨s1, s2, s3⟩ := powR_law hg (by omega) hgl n
  exact CG.same hg (by omega) r1 s1 r2 s2 (r3.trans s3.symm)
theorem lt_aux : ∀ (f x : Nat), x < 2 ^ f → x < 2 ^ Lib.bitLenAux f x
  | 0, x, h => by simpa [Lib.bitLenAux] using h
  | f + 1, x, h => by
    unfold Lib.bitLenAux
    split
    · rename_i h0; subst h0; simp
    · have := lt_aux f (x / 2) (by rw [Nat.pow_succ] at h; omega)
      rw [Nat.add_comm, Nat.pow_succ]
      omega
theorem lt_bitLen {x : Nat} (h : x ≤ 1000000) : x < 2 ^ Lib.bitLen x := lt_aux 64 x (Nat.lt_of_le_of_lt h (by decide))
theorem bitLen_small {x : Nat} (h : x ≤ 1000000) : Lib.bitLen x ≤ 20 := Lib.bitLenAux_le 64 x 20 (Nat.lt_of_le_of_lt h (by decide))
theorem bit_step (n m : Nat) : n / 2 ^ m = n / 2 ^ (m + 1) + n / 2 ^ (m + 1) + n / 2 ^ m % 2 := by
  rw [Nat.pow_succ, ← Nat.div_div_eq_div_mul]; omega
def powO (p : Int) (g : List Int) (n : Int) : Option (List Int) := if polB p g = true ∧ 2 ≤ g.length ∧ g.length ≤ 12 ∧ 0 ≤ n ∧ n ≤ 1000000 then some (powR p g n.toNat) else none
theorem powO_bd (p : Int) (g : List Int) (n : Int) : ((powO p g n).getD []).length ≤ 1048576 := by
  unfold powO
  split
  · rename_i h
    have := (powR_law h.1 (by omega) h.2.2.1 n.toNat).2.1
    simp only [Option.getD_some]; omega
  · simp
end Go.Proofs.Ytghiaflnlobopaa
namespace Go.Proofs.Ytghiaflnlobopaa
open Go.RowKit
theorem IA.fresh1 {w : World} (x : Int) : IA (w.alloc (.cells #[.int .i64 x] 3)) (some ⟨w.heap.size, 0, none⟩) 1 w.heap.size 0 [x] := by
  have h := World.ownsRow_lit (e := 3) (base := w.heap.size) (size := 1) w #[.int .i64 x] 1 (Nat.le_refl _) (by unfold maxLen; omega) (by simp)
  obtain ⟨b, h1, h2⟩ := OI.iaA (show OI (w.alloc (.cells #[.int .i64 x] 3)) w.heap.size (some ⟨w.heap.size, 0, none⟩) 1 1 [x] by unfold OI ints; exact h)
  rcases h2 with ⟨h3, _⟩ | h3
  · cases h3
  · cases h3; exact h1
theorem IA.fresh2' {w : World} (x y : Int) : IA (w.alloc (.cells #[.int .i64 x, .int .i64 y] 3)) (some ⟨w.heap.size, 0, none⟩) 2 w.heap.size 0 [x, y] := by
  have h := World.ownsRow_lit (e := 3) (base := w.heap.size) (size := 1) w #[.int .i64 x, .int .i64 y] 2 (Nat.le_refl _) (by unfold maxLen; omega) (by simp)
  obtain ⟨b, h1, h2⟩ := OI.iaA (show OI (w.alloc (.cells #[.int .i64 x, .int .i64 y] 3)) w.heap.size (some ⟨w.heap.size, 0, none⟩) 2 2 [x, y] by unfold OI ints; exact h)
  rcases h2 with ⟨h3, _⟩ | h3
  · cases h3
  · cases h3; exact h1
/-- the step of a square, and of a product with the variable: what the two calls want -/
theorem step_facts {p : Int} {g a b : List Int} (hg : polB p g = true) (h2 : 2 ≤ g.length) (hgl : g.length ≤ 12) (ha : polB p a = true) (hb : polB p b = true) (hal : a.length < g.length) (hbl : b.length ≤ g.length) :
    (∀ x ∈ a, numB p x = true) ∧ (∀ x ∈ b, numB p x = true) ∧ (∀ x ∈ trimL (tmsL p a b), numB p x = true) ∧ (trimL (tmsL p a b)).length ≤ 24 ∧ trimL (trimL (tmsL p a b)) = trimL (tmsL p a b) := by
  obtain ⟨_, _, _, e, ht⟩ := mulR_law' hg (by omega) hgl ha hb hal hbl
  rw [e]
  exact ⟨(serB_true (polB_ser ha)).2.2, (serB_true (polB_ser hb)).2.2, (serB_true (polB_ser ht)).2.2, (serB_true (polB_ser ht)).2.1, e⟩
set_option maxRecDepth 100000 in
set_option maxHeartbeats 3000000 in
theorem implPowerRest (p : Int) (A : Option Addr) (n c b o : Nat) (g : List Int) (x : Int) (w : World) (h : IA w A n b o g) :
    Calls Try.prog 14 #[.int .i64 p, .slice A n c, .int .i64 x] w (MadeO (powO p g x) w) := by
  have hl := h.len
  have H := Lib.hid h
  clear h
  rcases hv : polB p g
  · have HV := Lib.hid hv
    have HR := Lib.hid (show powO p g x = none by unfold powO; rw [if_neg (by simp [hv])])
    clear hv
    go_enter Try.func14, Try.ntmps14
    go_wp2_with (fail)
    refine (implPolyValid p A n c b o g _ H.out).mono ?_
    rintro e w1 ⟨rfl, rfl⟩
    rw [HV.out]
    go_wp2_with (fail)
    go_ret2
    rw [HR.out]; exact ⟨none, 0, rfl, World.ownsRow_nil _ _ _ _, Below.refl _ _⟩
  have HV := Lib.hid hv
  by_cases hc : 2 ≤ n ∧ n ≤ 12 ∧ 0 ≤ x ∧ x ≤ 1000000
  case neg =>
    have HR := Lib.hid (show powO p g x = none by unfold powO; rw [if_neg (by rw [hl]; exact fun h => hc h.2)])
    clear hv
    go_enter Try.func14, Try.ntmps14
    go_wp2_with (fail)
    refine (implPolyValid p A n c b o g _ H.out).mono ?_
    rintro e w1 ⟨rfl, rfl⟩
    rw [HV.out]
    by_cases c1 : 2 ≤ n
    · by_cases c2 : n ≤ 12
      · by_cases c3 : 0 ≤ x
        · have c4 : 1000000 < x := by omega
          go_wp2_with (fail)
          go_ret2
          rw [HR.out]; exact ⟨none, 0, rfl, World.ownsRow_nil _ _ _ _, Below.refl _ _⟩
        · go_wp2_with (fail)
          go_ret2
          rw [HR.out]; exact ⟨none, 0, rfl, World.ownsRow_nil _ _ _ _, Below.refl _ _⟩
      · go_wp2_with (fail)
        go_ret2
        rw [HR.out]; exact ⟨none, 0, rfl, World.ownsRow_nil _ _ _ _, Below.refl _ _⟩
    · go_wp2_with (fail)
      go_ret2
      rw [HR.out]; exact ⟨none, 0, rfl, World.ownsRow_nil _ _ _ _, Below.refl _ _⟩
  obtain ⟨hn2, hn12, hx0, hx1⟩ := hc
  obtain ⟨N, rfl⟩ : ∃ N : Nat, x = N := ⟨x.toNat, by omega⟩
  have HR := Lib.hid (show powO p g N = some (powR p g N) by unfold powO; rw [if_pos ⟨hv, by omega, by omega, hx0, hx1⟩]; rfl)
  obtain ⟨hp, _, hgv⟩ := serB_true (polB_ser hv)
  have HP := Lib.hid hp
  have HGV := Lib.hid hgv
  have HGL := Lib.hid (show co g (g.length - 1) ≠ 0 from (polB_last hv).resolve_left (by omega))
  have HG2 := Lib.hid (show 2 ≤ g.length by omega)
  have HG12 := Lib.hid (show g.length ≤ 12 by omega)
  have hbl := bitLen_small (x := N) (by omega)
  have hbt := lt_bitLen (x := N) (by omega)
  obtain ⟨L, hL⟩ : ∃ L, Lib.bitLen N = L := ⟨_, rfl⟩
  rw [hL] at hbl hbt
  have HBT := Lib.hid hbt
  have HL := Lib.hid hL
  have hwL : IntKind.i64.wrap ((L : Int) - 1) = (L : Int) - 1 := IntWalk.i64_in _ ⟨by omega, by omega⟩
  clear hv hp hgv hbt hL
  go_enter Try.func14, Try.ntmps14
  go_wp2_with (fail)
  refine (implPolyValid p A n c b o g _ H.out).mono ?_
  rintro e w1 ⟨rfl, rfl⟩
  rw [HV.out]
  go_wp2_with (fail)
  refine (termsOf_any p A n c b o g _ H.out (by omega)).mono ?_
  rintro e w3 ⟨A3, c3, rfl, hO3, hB3⟩
  rw [hl] at hO3 ⊢
  obtain ⟨b3, hI3⟩ := OT.it hO3
  have HI3 := Lib.hid hI3
  have HB3 := Lib.hid hB3
  clear hO3 hI3 hB3
  go_wp2_with (fail)
  refine (termsOf_any p _ 2 2 _ 0 [0, 1] _ (IA.fresh2' 0 1) (by omega)).mono ?_
  rintro e w4 ⟨A4, c4, rfl, hO4, hB4⟩
  obtain ⟨b4, hI4⟩ := OT.it hO4
  have HI4 := Lib.hid hI4
  have hB4 := ((Below.refl w3.heap.size w3).alloc (Nat.le_refl _) (.cells #[.int .i64 0, .int .i64 1] 3)).trans (hB4.mono (by simp))
  have HI3 := Lib.hid (HI3.out.below hB4)
  have HB4 := Lib.hid (below_more HB3.out hB4)
  clear hO4 hI4 hB4
  go_wp2_with (fail)
  refine (termsOf_any p _ 1 1 _ 0 [1] _ (IA.fresh1 1) (by omega)).mono ?_
  rintro e w5 ⟨A5, c5, rfl, hO5, hB5⟩
  obtain ⟨b5, hI5⟩ := OT.it hO5
  have HI5 := Lib.hid hI5
  have hB5 := ((Below.refl w4.heap.size w4).alloc (Nat.le_refl _) (.cells #[.int .i64 1] 3)).trans (hB5.mono (by simp))
  have HI3 := Lib.hid (HI3.out.below hB5)
  have HI4 := Lib.hid (HI4.out.below hB5)
  have HB5 := Lib.hid (below_more HB4.out hB5)
  clear hO5 hI5 hB5
  go_wp2_with (fail)
  refine (len_any N _ (by omega) (by omega)).mono ?_
  rintro e w6 ⟨rfl, rfl⟩
  rw [show ((N : Int)).toNat = N from rfl, HL.out]
  go_wp2_with (fail)
  go_loopw [10, 11] (fun v i wr => ∃ (m : Nat) (R : List Int) (AR : Option Addr) (cR bR : Nat), m ≤ L ∧ i = .int .i64 ((m : Int) - 1) ∧ v = .slice AR R.length cR ∧ Hid (PS p g R (N / 2 ^ m)) ∧ IT wr AR R.length cR bR p R ∧ Below w5.heap.size w5 wr) (fun _ i _ => (intOf i + 1).toNat)
  case atStart => exact ⟨L, [1], A5, c5, b5, Nat.le_refl _, rfl, rfl, by rw [Nat.div_eq_of_lt HBT.out]; exact ps_one HP.out HG2.out, HI5.out, Below.refl _ _⟩
  case round =>
    obtain ⟨m, R, AR, cR, bR, hm, rfl, rfl, hps, hIR, hBr⟩ := hrel
    have HBR := Lib.hid (below_more HB5.out hBr)
    have HBS := Lib.hid hBr
    have HG3 := Lib.hid (HI3.out.below hBr)
    have HV4 := Lib.hid (HI4.out.below hBr)
    have HIR := Lib.hid hIR
    have hRl := hps.out.2.1
    clear hBr hIR
    cases m with
    | zero =>
      have HE := Lib.hid (show powR p g N = R from (ps_end HV.out HG2.out HG12.out (by have h0 := hps.out; rwa [Nat.pow_zero, Nat.div_one] at h0)).symm)
      go_wp2_with (fail)
      refine (numbersOf_any p AR _ cR bR R _ HIR.out (by omega)).mono ?_
      rintro e w7 ⟨A7, c7, rfl, hO7, hB7⟩
      have HO7 := Lib.hid hO7
      have HB7 := Lib.hid hB7
      clear hO7 hB7
      go_wp2_with (fail)
      go_ret2
      rw [HR.out, HE.out]
      exact ⟨A7, c7, rfl, owns_mono HO7.out HBR.out.size, below_more HBR.out HB7.out⟩
    | succ m =>
      have hgi : ((m + 1 : Nat) : Int) - 1 = (m : Int) := by omega
      rw [hgi]
      have hw2 : IntKind.i64.wrap ((m : Int) - 1) = (m : Int) - 1 := IntWalk.i64_in _ ⟨by omega, by omega⟩
      obtain ⟨f1, _, f3, f4, f5⟩ := step_facts HV.out HG2.out HG12.out hps.out.1 hps.out.1 hRl (by omega)
      obtain ⟨T, hT⟩ : ∃ T, trimL (tmsL p R R) = T := ⟨_, rfl⟩
      rw [hT] at f3 f4 f5
      have HT := Lib.hid hT
      have HF1 := Lib.hid f1
      have HF3 := Lib.hid f3
      have HF5 := Lib.hid f5
      have hq := ps_sq HV.out HG2.out HG12.out hps.out
      obtain ⟨R2, hR2⟩ : ∃ R2, mulR p g R R = R2 := ⟨_, rfl⟩
      have HR2 := Lib.hid (show remL p T g = R2 by rw [← hT]; exact hR2)
      rw [hR2] at hq
      have HQ := Lib.hid hq
      have hR2l := hq.2.1
      have HST := Lib.hid (bit_step N m)
      clear f1 f3 f5 hT hR2 hq
      go_wp2_with (fail)
      refine (times_any p AR _ cR bR R AR _ cR bR R _ HIR.out HIR.out HF1.out HF1.out (by omega) (by omega)).mono ?_
      rw [HT.out]
      rintro e w7 ⟨A7, c7, rfl, hO7, hB7⟩
      obtain ⟨b7, hI7⟩ := OT.it hO7
      have HI7 := Lib.hid hI7
      have HG3 := Lib.hid (HG3.out.below hB7)
      have HV4 := Lib.hid (HV4.out.below hB7)
      have HBR := Lib.hid (below_more HBR.out hB7)
      have HBS := Lib.hid (below_more HBS.out hB7)
      clear hO7 hI7 hB7
      go_wp2_with (fail)
      refine (divide_any p A7 _ c7 b7 T A3 n c3 b3 g _ HI7.out HG3.out HP.out HF3.out HGV.out (by omega) (by omega) (by omega) HGL.out HF5.out).mono ?_
      rw [HR2.out]
      rintro e w8 ⟨A8, c8, A9, c9, rfl, hO8, hO9, hB8⟩
      obtain ⟨b9, hI9⟩ := OT.it hO9
      have HI9 := Lib.hid hI9
      have HG3 := Lib.hid (HG3.out.below hB8)
      have HV4 := Lib.hid (HV4.out.below hB8)
      have HBR := Lib.hid (below_more HBR.out hB8)
      have HBS := Lib.hid (below_more HBS.out hB8)
      clear hO8 hO9 hI9 hB8
      have hbit : bits BinOp.and IntKind.i64 ((N : Int) / 2 ^ m) 1 = ((N / 2 ^ m % 2 : Nat) : Int) := by
        have h0 := and_one (N / 2 ^ m) (by have := Nat.div_le_self N (2 ^ m); omega)
        rwa [Int.natCast_ediv, Int.natCast_pow] at h0
      have HBIT := Lib.hid hbit
      clear hbit
      by_cases h1 : N / 2 ^ m % 2 = 1
      case neg =>
        have h0 : N / 2 ^ m % 2 = 0 := by omega
        have hb1 : (bits BinOp.and IntKind.i64 ((N : Int) / 2 ^ m) 1 == 1) = false := by rw [HBIT.out, h0]; rfl
        have HPS := Lib.hid (show PS p g R2 (N / 2 ^ m) by rw [HST.out, h0]; exact HQ.out)
        clear h0 h1
        go_wp2_with (fail)
        go_roundw
        case rel => exact ⟨m, R2, A9, c9, b9, by omega, rfl, rfl, HPS, HI9.out, HBS.out⟩
        case measure => simp [intOf]
      have hb1 : (bits BinOp.and IntKind.i64 ((N : Int) / 2 ^ m) 1 == 1) = true := by rw [HBIT.out, h1]; rfl
      have HST1 := Lib.hid (show N / 2 ^ m = N / 2 ^ (m + 1) + N / 2 ^ (m + 1) + 1 by have h2 := HST.out; rw [h1] at h2; exact h2)
      clear h1
      obtain ⟨f1, f2, f3, f4, f5⟩ := step_facts (b := [0, 1]) HV.out HG2.out HG12.out HQ.out.1 (one_pol HP.out).2 hR2l HG2.out
      obtain ⟨U, hU⟩ : ∃ U, trimL (tmsL p R2 [0, 1]) = U := ⟨_, rfl⟩
      rw [hU] at f3 f4 f5
      have HU := Lib.hid hU
      have HF1 := Lib.hid f1
      have HF2 := Lib.hid f2
      have HF3 := Lib.hid f3
      have HF5 := Lib.hid f5
      have hq := ps_var HV.out HG2.out HG12.out HQ.out
      obtain ⟨R3, hR3⟩ : ∃ R3, mulR p g R2 [0, 1] = R3 := ⟨_, rfl⟩
      have HR3 := Lib.hid (show remL p U g = R3 by rw [← hU]; exact hR3)
      rw [hR3] at hq
      have hR3l := hq.2.1
      have HPS := Lib.hid (show PS p g R3 (N / 2 ^ m) by rw [HST1.out]; exact hq)
      clear f1 f2 f3 f5 hU hR3 hq
      go_wp2_with (fail)
      refine (times_any p A9 _ c9 b9 R2 A4 _ c4 b4 [0, 1] _ HI9.out HV4.out HF1.out HF2.out (by omega) (by decide)).mono ?_
      rw [HU.out]
      rintro e w10 ⟨A10, c10, rfl, hO10, hB10⟩
      obtain ⟨b10, hI10⟩ := OT.it hO10
      have HI10 := Lib.hid hI10
      have HG3 := Lib.hid (HG3.out.below hB10)
      have HBS := Lib.hid (below_more HBS.out hB10)
      clear hO10 hI10 hB10
      go_wp2_with (fail)
      refine (divide_any p A10 _ c10 b10 U A3 n c3 b3 g _ HI10.out HG3.out HP.out HF3.out HGV.out (by omega) (by omega) (by omega) HGL.out HF5.out).mono ?_
      rw [HR3.out]
      rintro e w11 ⟨A11, c11, A12, c12, rfl, hO11, hO12, hB11⟩
      obtain ⟨b12, hI12⟩ := OT.it hO12
      have HI12 := Lib.hid hI12
      have HBS := Lib.hid (below_more HBS.out hB11)
      clear hO11 hO12 hI12 hB11
      go_wp2_with (fail)
      go_roundw
      case rel => exact ⟨m, R3, A12, c12, b12, by omega, rfl, rfl, HPS, HI12.out, HBS.out⟩
      case measure => simp [intOf]
end Go.Proofs.Ytghiaflnlobopaa

/-
  The contract of the reader's pick: some number in its range; only the reader's own block is written.
  The contracts of the functions that draw primes and numbers: whatever they draw, it is of such a size, and only the reader's own block is written.
  The contract of l20Mat, the drawn matrices.
  The contracts of l20Series and l20Poly, the drawn beginnings and polynomials.
  The contracts of the draws of one and of two beginnings or polynomials.
  The contracts of l20RecOf, l20Rec and of the draws of one recurrence.
  The contracts of l20RecOf and l20Rec.
  The contracts of l20Begin and of the draw of a table's arguments.
-/
import Derived.Test.YtecmclaockmgeaaDoorBase
import Derived.Test.YtecmclaockmgeaaDoorNum
import Derived.BigQuiet
import Derived.Deep.QuietTactic
import Derived.Outline
import Derived.WalkLawsBesides
import Derived.Test.YtecmclaockmgeaaDoorRules
import Derived.Test.YtecmclaockmgeaaDoorTurnS
import Derived.Test.YtecmclaockmgeaaDoorTrim
import Derived.OwnWalk
import Derived.Deep.RegionLaw
import Derived.Maps.AppendAt
import Derived.RangeFuncBox
import Derived.Test.YtecmclaockmgeaaDoorBxs
import Derived.Test.YtecmclaockmgeaaDoorStm
import Derived.Test.YtecmclaockmgeaaDoorSTerms
namespace Go.Proofs.YtecmclaockmgeaaDoor
open Go.RowKit
theorem xor_nat (a b : Nat) (ha : a < 4611686018427387904) (hb : b < 4611686018427387904) : 0 ≤ bits BinOp.xor IntKind.i64 (a : Int) (b : Int) := by
  have e1 : BitVec.ofInt 64 (a : Int) = BitVec.ofNat 64 a := rfl
  have e2 : BitVec.ofInt 64 (b : Int) = BitVec.ofNat 64 b := rfl
  have hx : a ^^^ b < 4611686018427387904 := Nat.xor_lt_two_pow (n := 62) ha hb
  show 0 ≤ IntKind.i64.wrap ((BitVec.ofInt 64 (a : Int) ^^^ BitVec.ofInt 64 (b : Int)).toNat : Int)
  rw [e1, e2, BitVec.toNat_xor, BitVec.toNat_ofNat, BitVec.toNat_ofNat, Nat.mod_eq_of_lt (by omega), Nat.mod_eq_of_lt (by omega), IntWalk.i64_in _ (by omega)]
  omega
theorem xor_pos {a b : Int} (ha : 0 ≤ a) (ha' : a < 4611686018427387904) (hb : 0 ≤ b) (hb' : b < 4611686018427387904) : 0 ≤ bits BinOp.xor IntKind.i64 a b := by
  obtain ⟨x, rfl⟩ := Int.eq_ofNat_of_zero_le ha
  obtain ⟨y, rfl⟩ := Int.eq_ofNat_of_zero_le hb
  exact xor_nat x y (by omega) (by omega)
/-- the post of a call that returns some number from 0 on -/
def SomeNat (Q : Nat → Prop) (R : World → Prop) (e : Ending) (w' : World) : Prop := ∃ j : Nat, e = .returned (.int .i64 (j : Int)) ∧ Q j ∧ R w'
theorem someNat {Q : Nat → Prop} {R : World → Prop} {w' : World} (i : Int) (h0 : 0 ≤ i) (hq : Q i.toNat) (hr : R w') : SomeNat Q R (.returned (.int .i64 i)) w' :=
  ⟨i.toNat, by rw [Int.toNat_of_nonneg h0], hq, hr⟩
theorem pick_any (rb n c cb co N : Nat) (A : Option Addr) (m : Int) (w : World) (h : Rd w rb A n c cb co N) (hN : N ≤ 1000000) :
    Calls Tryd.prog 44 #[.pointer (some ⟨rb, 0, none⟩), .int .i64 m] w
      (SomeNat (fun j => 1 ≤ m → (j : Int) < m) fun w' => Rd w' rb A n c cb co (N + 1) ∧ Keep (· = rb) w w') := by
  have HR := Lib.hid h
  obtain ⟨c0, ⟨k, hk, c1⟩, f1, ha, hcell, hne, hsm⟩ := h
  by_cases hm : m < 1
  · clear ha hcell hne
    go_enter Tryd.func44, Tryd.ntmps44
    go_wp2_with (fail)
    go_ret
    exact someNat 0 (by omega) (by intro _; omega) (HR.out.step hk)
  · by_cases hn : n = 0
    · subst hn
      clear ha hcell hne
      go_enter Tryd.func44, Tryd.ntmps44
      go_wp2_with (fail)
      go_ret
      exact someNat 0 (by omega) (by first | (intro _; simp; omega) | (simp; omega)) (HR.out.step hk)
    · have hn0 : 0 < n := by omega
      obtain rfl := ha hn0
      have hne' := hne hn0
      have hz : ((n : Int) == 0) = false := by simp; omega
      clear hn ha hne
      by_cases hkn : k < n
      · obtain ⟨x, hx, hxc⟩ := hcell k hkn
        clear hcell
        go_enter Tryd.func44, Tryd.ntmps44
        go_wp2_with (fail)
        go_ret
        have he : 0 ≤ (x : Int) % m := Int.emod_nonneg _ (by omega)
        have he2 : (x : Int) % m < m := Int.emod_lt_of_pos _ (by omega)
        exact someNat ((x : Int) % m) he (by first | (intro _; omega) | omega) (HR.out.step hk)
      · obtain ⟨i, hi, ei⟩ : ∃ i : Nat, i < n ∧ k % n = i := ⟨k % n, Nat.mod_lt _ hn0, rfl⟩
        have q1 : (k : Int).tmod (n : Int) = (i : Int) := by rw [← ei]; exact (Int.ofNat_tmod k n).symm
        obtain ⟨x, hx, hxc⟩ := hcell i hi
        obtain ⟨y, hy, hyc⟩ := hcell ((k * 7 + 3) % n) (Nat.mod_lt _ hn0)
        have m1 : 0 ≤ ((k : Int) * 7 + 3) % (n : Int) := Int.emod_nonneg _ (by omega)
        have m2 : ((k : Int) * 7 + 3) % (n : Int) < (n : Int) := Int.emod_lt_of_pos _ (by omega)
        have d1 : 0 ≤ (k : Int) / (n : Int) := Int.ediv_nonneg (by omega) (by omega)
        have d2 : (k : Int) / (n : Int) ≤ (k : Int) := Int.ediv_le_self _ (by omega)
        have HM := Lib.hid (show 1 ≤ m by omega)
        clear hcell ei
        go_enter Tryd.func44, Tryd.ntmps44
        go_wp2_with (fail)
        refine wp_region_quiet_lit (by kernel_rfl) (by kernel_rfl) ?_
        repeat (go_big_quiet_step (fail))
        refine wpQuiet_nil ?_
        intro _ hw'
        obtain ⟨nq, hw''⟩ := hw'
        subst hw''
        go_wp2_with (fail)
        go_ret
        have hX : 0 ≤ bits BinOp.xor IntKind.i64 ((x : Int) * 131 + (y : Int) * 1117 + (k : Int) * 29 + (k : Int) / (n : Int) * 53) (((x : Int) * 131 + (y : Int) * 1117 + (k : Int) * 29 + (k : Int) / (n : Int) * 53) / 64) := xor_pos (by omega) (by omega) (by omega) (by omega)
        have hm1 := HM.out
        rw [Int.tmod_eq_emod_of_nonneg hX]
        have he : 0 ≤ (bits BinOp.xor IntKind.i64 ((x : Int) * 131 + (y : Int) * 1117 + (k : Int) * 29 + (k : Int) / (n : Int) * 53) (((x : Int) * 131 + (y : Int) * 1117 + (k : Int) * 29 + (k : Int) / (n : Int) * 53) / 64)) % m := Int.emod_nonneg _ (by omega)
        have he2 : (bits BinOp.xor IntKind.i64 ((x : Int) * 131 + (y : Int) * 1117 + (k : Int) * 29 + (k : Int) / (n : Int) * 53) (((x : Int) * 131 + (y : Int) * 1117 + (k : Int) * 29 + (k : Int) / (n : Int) * 53) / 64)) % m < m := Int.emod_lt_of_pos _ (by omega)
        exact someNat _ he (by first | (intro _; omega) | omega) ⟨(HR.out.step hk).1.drewN _, (HR.out.step hk).2.drewN _⟩
end Go.Proofs.YtecmclaockmgeaaDoor
namespace Go.Proofs.YtecmclaockmgeaaDoor
open Go.RowKit
def OpenPost (B : Nat) (w : World) (e : Ending) (w' : World) : Prop :=
  ∃ (rb : Nat) (A : Option Addr) (n c cb co : Nat), e = .returned (.pointer (some ⟨rb, 0, none⟩)) ∧ Rd w' rb A n c cb co 0 ∧ Below B w w' ∧ B ≤ rb ∧ (0 < n → cb < B)
theorem rd_made {w : World} {a : Option Addr} {n c cb co : Nat} {t : TypeId} (hn : n ≤ 2000) (ha : 0 < n → a = some ⟨cb, co, none⟩ ∧ cb < w.heap.size) (hc : ∀ i, i < n → ∃ x : Nat, x < 256 ∧ w.cell? ⟨cb, co + i, none⟩ = some (.int .u8 x)) :
    Rd (w.alloc (.cells #[.slice a n c, .int .i64 0] t)) w.heap.size a n c cb co 0 :=
  ⟨by simp, ⟨0, Nat.le_refl _, by simp⟩, by simp, fun h => (ha h).1, fun i hi => let ⟨x, hx, hxc⟩ := hc i hi; ⟨x, hx, by rw [World.cell?_alloc_lt _ _ _ (cell_lt hxc)]; exact hxc⟩, fun h => by have := (ha h).2; omega, hn⟩
theorem open_any (a : Option Addr) (len cap : Nat) (zs : List Int) (w : World) (h : IsRow .u8 w a len cap zs) :
    Calls Tryd.prog 11 #[.slice a len cap] w (OpenPost w.heap.size w) := by
  obtain ⟨hl, hm, cb, co, ha, hc⟩ := rowBytes h
  unfold maxLen at hm
  have HA := Lib.hid ha
  have HC := Lib.hid hc
  clear h ha hc
  by_cases hb : 2000 < len
  · obtain ⟨rfl, hcb⟩ := HA.out (by omega)
    go_enter Tryd.func11, Tryd.ntmps11
    go_wp2_with (fail)
    go_ret
    exact ⟨_, _, _, _, cb, co, rfl, rd_made (by omega) (fun _ => ⟨rfl, hcb⟩) (fun i hi => HC.out i (by omega)), (Below.refl _ _).alloc (Nat.le_refl _) _, Nat.le_refl _, fun _ => hcb⟩
  · go_enter Tryd.func11, Tryd.ntmps11
    go_wp2_with (fail)
    go_ret
    exact ⟨_, _, _, _, cb, co, rfl, rd_made (by omega) HA.out HC.out, (Below.refl _ _).alloc (Nat.le_refl _) _, Nat.le_refl _, fun h => (HA.out h).2⟩
def SomeBool (R : World → Prop) (e : Ending) (w' : World) : Prop := ∃ b : Bool, e = .returned (.bool b) ∧ R w'
theorem odd_any (rb n c cb co N : Nat) (A : Option Addr) (m : Int) (w : World) (h : Rd w rb A n c cb co N) (hN : N ≤ 1000000) (hm : 1 ≤ m) (hm' : m ≤ 1000000) :
    Calls Tryd.prog 45 #[.pointer (some ⟨rb, 0, none⟩), .int .i64 m] w
      (SomeBool fun w' => Rd w' rb A n c cb co (N + 1) ∧ Keep (· = rb) w w') := by
  have h0 : 0 < m := by omega
  go_enter Tryd.func45, Tryd.ntmps45
  go_wp2_with (go_at_call 44; refine (pick_any rb n c cb co N A _ _ h hN).mono ?_; rintro e w1 ⟨j, rfl, hj, hR, hK⟩)
  go_ret
  exact ⟨_, rfl, hR, hK⟩
def PrimePost (Q : Int → Prop) (R : World → Prop) (e : Ending) (w' : World) : Prop := ∃ p : Int, e = .returned (.int .i64 p) ∧ Q p ∧ R w'
theorem tab5 (j : Nat) (h : j < 5) : ∃ q : Int, 0 ≤ q ∧ q ≤ 17 ∧ (#[Value.int .i64 0, .int .i64 1, .int .i64 4, .int .i64 9, .int .i64 17] : Array Value)[j]? = some (.int .i64 q) := by
  match j, h with
  | 0, _ => exact ⟨0, by decide, by decide, rfl⟩
  | 1, _ => exact ⟨1, by decide, by decide, rfl⟩
  | 2, _ => exact ⟨4, by decide, by decide, rfl⟩
  | 3, _ => exact ⟨9, by decide, by decide, rfl⟩
  | 4, _ => exact ⟨17, by decide, by decide, rfl⟩
theorem tab9 (j : Nat) (h : j < 9) : ∃ q : Int, 0 ≤ q ∧ q ≤ 17 ∧ (#[Value.int .i64 2, .int .i64 3, .int .i64 3, .int .i64 5, .int .i64 5, .int .i64 7, .int .i64 7, .int .i64 11, .int .i64 13] : Array Value)[j]? = some (.int .i64 q) := by
  match j, h with
  | 0, _ => exact ⟨2, by decide, by decide, rfl⟩
  | 1, _ => exact ⟨3, by decide, by decide, rfl⟩
  | 2, _ => exact ⟨3, by decide, by decide, rfl⟩
  | 3, _ => exact ⟨5, by decide, by decide, rfl⟩
  | 4, _ => exact ⟨5, by decide, by decide, rfl⟩
  | 5, _ => exact ⟨7, by decide, by decide, rfl⟩
  | 6, _ => exact ⟨7, by decide, by decide, rfl⟩
  | 7, _ => exact ⟨11, by decide, by decide, rfl⟩
  | 8, _ => exact ⟨13, by decide, by decide, rfl⟩
/-- a block that was just made, read behind a later call -/
theorem made_cell {rb : Nat} {w w1 : World} {C : Array Value} {t : TypeId} {j : Nat} {v : Value} (hk : Keep (· = rb) (w.alloc (.cells C t)) w1) (hr : rb < w.heap.size) (hv : C[j]? = some v) : w1.cell? ⟨w.heap.size, j, none⟩ = some v :=
  hk.cell (by rw [World.cell?_alloc_at (w := w) C t w.heap.size j rfl]; exact hv) (by simp; omega)
theorem prime_any (rb n c cb co N : Nat) (A : Option Addr) (m : Int) (w : World) (h : Rd w rb A n c cb co N) (hN : N ≤ 999000) (hm : 1 ≤ m) (hm' : m ≤ 1000000) :
    Calls Tryd.prog 25 #[.pointer (some ⟨rb, 0, none⟩), .int .i64 m] w
      (PrimePost (fun p => 0 ≤ p ∧ p ≤ 17) fun w' => Rd w' rb A n c cb co (N + 2) ∧ Keep (· = rb) w w') := by
  have hrb := cell_lt h.c0
  simp only at hrb
  go_enter Tryd.func25, Tryd.ntmps25
  go_wp2_with (go_at_call 45; refine (odd_any rb n c cb co N A _ _ h (by omega) hm hm').mono ?_; rintro e w1 ⟨b, rfl, hR, hK⟩; have hs := hK.size; rcases b)
  all_goals
    have hRx := fun o => hR.keep ((Keep.refl (fun _ => False) w1).alloc o) (fun h => h) (fun _ h => h)
    go_wp2_with (go_at_call 44; refine (pick_any rb n c cb co (N + 1) A _ _ (hRx _) (by omega)).mono ?_; rintro e w2 ⟨j, rfl, hj, hR2, hK2⟩; have hj := hj (by omega); first | (obtain ⟨q, hq0, hq1, hq⟩ := tab9 j (by omega); have hcell := made_cell hK2 (by omega) hq; clear hq) | (obtain ⟨q, hq0, hq1, hq⟩ := tab5 j (by omega); have hcell := made_cell hK2 (by omega) hq; clear hq))
    go_ret
    exact ⟨q, rfl, ⟨hq0, hq1⟩, hR2, hK.trans (((Keep.refl _ _).alloc _).trans hK2)⟩
theorem tab2 (p : Int) (j : Nat) (h : j < 2) (hp : 0 ≤ p) (hp' : p ≤ 1000000) : ∃ q : Int, -1 ≤ q ∧ q ≤ 1000000 ∧ (#[Value.int .i64 (-1), .int .i64 p] : Array Value)[j]? = some (.int .i64 q) := by
  match j, h with
  | 0, _ => exact ⟨-1, by decide, by decide, rfl⟩
  | 1, _ => exact ⟨p, by omega, by omega, rfl⟩
/-- the post of a call that draws two numbers -/
def Post2 (Q : Int → Int → Prop) (R : World → Prop) (e : Ending) (w' : World) : Prop := ∃ p a : Int, e = .returned (.tuple #[.int .i64 p, .int .i64 a]) ∧ Q p a ∧ R w'
def Post3 (Q : Int → Int → Int → Prop) (R : World → Prop) (e : Ending) (w' : World) : Prop := ∃ p a b : Int, e = .returned (.tuple #[.int .i64 p, .int .i64 a, .int .i64 b]) ∧ Q p a b ∧ R w'
theorem below_of {B rb : Nat} {w w1 w2 : World} (h : Below B w w1) (hk : Keep (· = rb) w1 w2) (hB : B ≤ w.heap.size) (hr : B ≤ rb) : Below B w w2 :=
  h.trans (hk.below (Nat.le_trans hB h.size) (fun k hk => by omega))
end Go.Proofs.YtecmclaockmgeaaDoor
namespace Go.Proofs.YtecmclaockmgeaaDoor
open Go.RowKit
/-- a drawn row: not long, of small numbers -/
def RowS (row : List Int) : Prop := row.length ≤ 30 ∧ ∀ x ∈ row, 0 ≤ x ∧ x ≤ 17
/-- what was changed: the reader, and what is new -/
def Drw (rb B : Nat) (g : Nat) : Prop := g = rb ∨ B ≤ g
theorem Drw.mono {rb B B' g : Nat} (h : Drw rb B' g) (hB : B ≤ B') : Drw rb B g := Or.elim h .inl (fun h => .inr (Nat.le_trans hB h))
/-- as OM, but two rows may share a block -/
structure OMW (w : World) (B : Nat) (A : Option Addr) (n c : Nat) (M : List (List Int)) (vs : List Value) : Prop where
  out : w.ownsRow B 23 1 (.slice A n c) n vs
  len : M.length = n
  row : ∀ (r : Nat) (row : List Int), M[r]? = some row → ∃ (A' : Option Addr) (c' : Nat), vs[r]? = some (Value.slice A' row.length c') ∧ OI w B A' row.length c' row
def MatPost (rb n c cb co N : Nat) (A : Option Addr) (w : World) (e : Ending) (w' : World) : Prop :=
  ∃ (Ao : Option Addr) (co' : Nat) (M : List (List Int)) (vs : List Value), e = .returned (.slice Ao M.length co') ∧ M.length ≤ 20 ∧ (∀ row ∈ M, RowS row) ∧ OMW w' w.heap.size Ao M.length co' M vs ∧ Rd w' rb A n c cb co N ∧ Keep (Drw rb w.heap.size) w w'
theorem Rd.lt {w : World} {rb n c cb co N : Nat} {A : Option Addr} (h : Rd w rb A n c cb co N) : rb < w.heap.size := cell_lt (p := ⟨rb, 0, none⟩) h.c0
theorem Rd.ltc {w : World} {rb n c cb co N : Nat} {A : Option Addr} (h : Rd w rb A n c cb co N) (hn : 0 < n) : cb < w.heap.size := by
  obtain ⟨x, _, hx⟩ := h.cell 0 hn; exact cell_lt (p := ⟨cb, co + 0, none⟩) hx
/-- the reader is kept by whatever changes blocks from some size on alone -/
theorem Rd.far {w w' : World} {rb n c cb co N B : Nat} {A : Option Addr} {S : Nat → Prop} (h : Rd w rb A n c cb co N) (k : Keep S w w') (hrb : rb < B) (hcb : 0 < n → cb < B) (hS : ∀ g, S g → B ≤ g) : Rd w' rb A n c cb co N :=
  h.keep k (fun hs => by have := hS _ hs; omega) (fun hn hs => by have := hS _ hs; have := hcb hn; omega)
theorem Rd.alloc {w : World} {rb n c cb co N : Nat} {A : Option Addr} (h : Rd w rb A n c cb co N) (ob : Obj) : Rd (w.alloc ob) rb A n c cb co N := h.keep ((Keep.refl (fun _ => False) w).alloc ob) (fun h => h) (fun _ h => h)
theorem Keep.drwR {rb B : Nat} {w w' : World} (h : Keep (· = rb) w w') : Keep (Drw rb B) w w' := h.mono (fun _ _ h => .inl h)
theorem Keep.drwB {rb B : Nat} {S : Nat → Prop} {w w' : World} (h : Keep S w w') (hS : ∀ g, S g → B ≤ g) : Keep (Drw rb B) w w' := h.mono (fun g _ h => .inr (hS g h))
theorem mul_bd2 {x y : Int} (hx : 0 ≤ x) (hx' : x ≤ 17) (hy : 0 ≤ y) (hy' : y ≤ 2) : 0 ≤ x * y ∧ x * y ≤ 34 :=
  ⟨Int.mul_nonneg hx hy, Int.le_trans (Int.mul_le_mul hx' hy' hy (by omega)) (by decide)⟩
theorem cellNew (w : World) (v : Value) (t : TypeId) : (w.alloc (.cells #[v] t)).cell? ⟨w.heap.size, 0, none⟩ = some v := by simp
theorem RowS.snoc {row : List Int} {x : Int} (h : RowS row) (hl : row.length + 1 ≤ 30) (h0 : 0 ≤ x) (h1 : x ≤ 17) : RowS (row ++ [x]) :=
  ⟨by simp; omega, fun y hy => by
    rcases List.mem_append.1 hy with hy | hy
    · exact h.2 y hy
    · simp at hy; rw [hy]; exact ⟨h0, h1⟩⟩
theorem OM.weak {w : World} {B n c : Nat} {A : Option Addr} {M : List (List Int)} {vs : List Value} (h : OM w B A n c M vs) : OMW w B A n c M vs := ⟨h.out, h.len, h.row⟩
theorem OMW.adr {w : World} {B n c : Nat} {A : Option Addr} {M : List (List Int)} {vs : List Value} (h : OMW w B A n c M vs) : (A = none ∧ n = 0 ∧ c = 0) ∨ ∃ g, A = some ⟨g, 0, none⟩ ∧ B ≤ g ∧ g < w.heap.size := by
  rcases h.out.2 with ⟨h1, h2⟩ | ⟨g, cap, cur, hv, hb, hg, _⟩
  · simp only [Value.slice.injEq] at h1
    exact .inl ⟨h1.1, h1.2.1, h1.2.2⟩
  · simp only [Value.slice.injEq, true_and] at hv
    exact .inr ⟨g, hv.1, hb, (Array.getElem?_eq_some_iff.1 hg).1⟩
theorem OMW.keep {w w' : World} {B n c : Nat} {A : Option Addr} {M : List (List Int)} {vs : List Value} {S : Nat → Prop} (h : OMW w B A n c M vs) (k : Keep S w w') (hs : ∀ g, B ≤ g → g < w.heap.size → ¬ S g) : OMW w' B A n c M vs :=
  ⟨owns_keep h.out k (fun g hg => let ⟨a, b⟩ := h.out.lt g hg; hs g a b), h.len, fun r row hr => let ⟨A', c', h1, h2⟩ := h.row r row hr; ⟨A', c', h1, owns_keep h2 k (fun g hg => let ⟨a, b⟩ := h2.lt g hg; hs g a b)⟩⟩
theorem OMW.below {w w' : World} {B n c : Nat} {A : Option Addr} {M : List (List Int)} {vs : List Value} (h : OMW w B A n c M vs) (k : Below w.heap.size w w') : OMW w' B A n c M vs := h.keep (keep_of_below k) (fun _ _ _ h => h)
theorem OMW.mono {w : World} {B B' n c : Nat} {A : Option Addr} {M : List (List Int)} {vs : List Value} (h : OMW w B A n c M vs) (hB : B' ≤ B) : OMW w B' A n c M vs :=
  ⟨owns_mono h.out hB, h.len, fun r row hr => let ⟨a, b, g1, g2⟩ := h.row r row hr; ⟨a, b, g1, owns_mono g2 hB⟩⟩
/-- the slice of slices, as a law reads it -/
theorem OMW.ra {w : World} {B n c : Nat} {A : Option Addr} {M : List (List Int)} {vs : List Value} (h : OMW w B A n c M vs) : ∃ b, RA w A n b 0 M := by
  have hl := h.len
  have hvl : vs.length = n := by simpa using h.out.1
  rcases h.adr with ⟨rfl, rfl, rfl⟩ | ⟨g, rfl, hb, hg⟩
  · exact ⟨0, hl, by omega, by omega, by omega⟩
  · refine ⟨g, hl, fun _ => rfl, ?_, fun i hi => ?_⟩
    · rcases h.out.2 with ⟨h1, _⟩ | ⟨g', cap, cur, hv, _, _, hnc, hcm, _⟩
      · simp at h1
      · unfold maxLen at hcm; omega
    · have hrow : M[i]? = some (M[i]'(by omega)) := List.getElem?_eq_getElem (by omega)
      obtain ⟨A', c', h1, h2⟩ := h.row i _ hrow
      obtain ⟨b', hia⟩ := h2.ia
      have hc := World.ownsRow.cellAt h.out i (by omega)
      rw [h1] at hc
      exact ⟨_, A', c', b', 0, hrow, by rw [Nat.zero_add]; exact hc, hia⟩
/-- a row of a made matrix is replaced by another one -/
theorem OM.swapRow {w w1 : World} {B g n c : Nat} {M : List (List Int)} {vs : List Value} (h : OM w B (some ⟨g, 0, none⟩) n c M vs) {r : Nat} {row : List Int} {A0 : Option Addr} {c0 : Nat} (hv : vs[r]? = some (Value.slice A0 row.length c0)) (hr : M[r]? = some row)
    (hI0 : OI w B A0 row.length c0 row) (hk : Keep (fun q => (Value.slice A0 row.length c0).ownBlock = some q) w w1) {new : List Int} {A' : Option Addr} {c' : Nat} (hI : OI w1 B A' new.length c' new) :
    OMW (w1.setCell ⟨g, r, none⟩ (.slice A' new.length c')) B (some ⟨g, 0, none⟩) n c (M.set r new) (vs.set r (.slice A' new.length c')) := by
  have hvl := h.vlen
  have hM := h.len
  have hrl : r < M.length := (List.getElem?_eq_some_iff.1 hr).1
  have ho1 : w1.ownsRow B 23 1 (.slice (some ⟨g, 0, none⟩) n c) n vs := owns_keep h.out hk (fun q hq hs => block_elem h.out hI0 (by decide) q hq hs)
  have hsk := setCell_keep w1 ⟨g, r, none⟩ (.slice A' new.length c')
  have far : ∀ (A2 : Option Addr) (m c2 : Nat) (xs : List Int), OI w1 B A2 m c2 xs → OI (w1.setCell ⟨g, r, none⟩ (.slice A' new.length c')) B A2 m c2 xs := fun A2 m c2 xs hx =>
    owns_keep hx hsk (fun q hq hs => block_elem hx ho1 (by decide) q hq (by rw [hs]; rfl))
  refine ⟨(World.ownsRow.stored ho1 r _).1, by simp [hM], fun q row' hq => ?_⟩
  by_cases e : q = r
  · subst e
    rw [List.getElem?_set_self hrl] at hq
    obtain rfl := Option.some.inj hq
    exact ⟨A', c', List.getElem?_set_self (by omega), far _ _ _ _ hI⟩
  · rw [List.getElem?_set_ne (fun e' => e e'.symm)] at hq
    obtain ⟨A2, c2, g1, g2⟩ := h.row q row' hq
    refine ⟨A2, c2, by rw [List.getElem?_set_ne (fun e' => e e'.symm)]; exact g1, far _ _ _ _ (owns_keep g2 hk (fun k hk' hs => ?_))⟩
    rcases Nat.lt_or_gt_of_ne e with hh | hh
    · rcases h.apart q r _ _ hh g1 hv with h1 | h1
      · rw [hk'] at h1; simp at h1
      · exact h1 (by rw [hk', hs])
    · rcases h.apart r q _ _ hh hv g1 with h1 | h1
      · rw [hs] at h1; simp at h1
      · exact h1 (by rw [hk', hs])
theorem OMW.single {w : World} {B L g : Nat} {A : Option Addr} {c : Nat} {row : List Int} (h : OI w B A L c row) (hL : row.length = L) (hB : B ≤ w.heap.size) (hg : g = w.heap.size) : OMW (w.alloc (.cells #[.slice A L c] 23)) B (some ⟨g, 0, none⟩) 1 1 [row] [.slice A L c] := by
  subst hL hg
  refine ⟨World.ownsRow_lit (size := 1) w #[.slice A row.length c] 1 hB (by decide) (by simp), rfl, fun r row' hr => ?_⟩
  match r, hr with
  | 0, hr =>
    simp at hr; subst hr
    exact ⟨A, c, rfl, World.ownsRow.alloc h _⟩
theorem OM.mono0 {w : World} {B B' n c : Nat} {A : Option Addr} {M : List (List Int)} {vs : List Value} (h : OM w B A n c M vs) (hB : B' ≤ B) : OM w B' A n c M vs :=
  ⟨owns_mono h.out hB, h.len, fun r row hr => let ⟨a, b, g1, g2⟩ := h.row r row hr; ⟨a, b, g1, owns_mono g2 hB⟩, h.apart⟩
theorem OM.pushK {w w1 w2 : World} {B n c : Nat} {A : Option Addr} {M : List (List Int)} {vs : List Value} {T : Nat → Prop} (h : OM w B A n c M vs) (hk0 : Keep T w w1) (hT : ∀ g, B ≤ g → g < w.heap.size → ¬ T g) {row : List Int} {A1 : Option Addr} {c1 : Nat}
    (hI : OI w1 w.heap.size A1 row.length c1 row) {A' : Option Addr} {c' : Nat} (ho : w2.ownsRow B 23 1 (.slice A' (n + 1) c') (n + 1) (vs ++ [.slice A1 row.length c1])) (hk : Keep (fun k => (Value.slice A n c).ownBlock = some k) w1 w2) (hB : B ≤ w.heap.size) :
    OM w2 B A' (n + 1) c' (M ++ [row]) (vs ++ [.slice A1 row.length c1]) := by
  have h1 := h.keep hk0 hT
  have hvl := h.vlen
  have hM := h.len
  have keepI : ∀ (A2 : Option Addr) (m c2 : Nat) (xs : List Int), OI w1 B A2 m c2 xs → OI w2 B A2 m c2 xs := fun A2 m c2 xs hx => owns_keep hx hk (fun g hg hs => block_elem hx h1.out (by decide) g hg hs)
  refine ⟨ho, by simp [hM], fun r row' hr => ?_, fun r s u u' hrs hu hu' => ?_⟩
  · by_cases e : r = n
    · subst e
      rw [List.getElem?_append_right (by omega)] at hr
      simp [hM] at hr
      subst hr
      exact ⟨A1, c1, by rw [List.getElem?_append_right (by omega)]; simp [hvl], keepI _ _ _ _ (owns_mono hI hB)⟩
    · have hlt : r < n := by
        have := (List.getElem?_eq_some_iff.1 hr).1
        simp [hM] at this; omega
      rw [List.getElem?_append_left (by omega)] at hr
      obtain ⟨A2, c2, g1, g2⟩ := h1.row r row' hr
      exact ⟨A2, c2, by rw [List.getElem?_append_left (by omega)]; exact g1, keepI _ _ _ _ g2⟩
  · by_cases e : s = n
    · subst e
      rw [List.getElem?_append_right (by omega)] at hu'
      simp [hvl] at hu'
      subst hu'
      rw [List.getElem?_append_left (by omega)] at hu
      rcases ho' : u.ownBlock with _ | g
      · exact .inl ho'
      · right
        rw [ho']
        intro e2
        have hf := (h.foot r u g hu ho').2
        rcases hI.adr with ⟨rfl, _, _⟩ | ⟨g', rfl, hg', _⟩
        · simp [Value.ownBlock] at e2
        · simp only [Value.ownBlock, Option.some.injEq] at e2
          omega
    · have hs' : s < n := by
        have := (List.getElem?_eq_some_iff.1 hu').1
        simp [hvl] at this; omega
      rw [List.getElem?_append_left (by omega)] at hu hu'
      exact h.apart r s u u' hrs hu hu'
end Go.Proofs.YtecmclaockmgeaaDoor
namespace Go.Proofs.YtecmclaockmgeaaDoor
open Go.RowKit
/-- a drawn row: numbers of such a size -/
def RowP (row : List Int) : Prop := ∀ x ∈ row, -1 ≤ x ∧ x ≤ 17
/-- numbers that any prime bears -/
def RowQ (p : Int) (row : List Int) : Prop := ∀ x ∈ row, 0 ≤ x ∧ x < max p 1
def SerPost (rb n c cb co N L : Nat) (A : Option Addr) (p m : Int) (w : World) (e : Ending) (w' : World) : Prop :=
  ∃ (Ao : Option Addr) (ca : Nat) (xs : List Int), e = .returned (.slice Ao xs.length ca) ∧ xs.length ≤ L ∧ RowP xs ∧ (m = 0 → RowQ p xs) ∧ OI w' w.heap.size Ao xs.length ca xs ∧ Rd w' rb A n c cb co N ∧ Keep (Drw rb w.heap.size) w w'
theorem RowQ.snoc {p : Int} {row : List Int} {x : Int} (h : RowQ p row) (h0 : 0 ≤ x) (h1 : x < max p 1) : RowQ p (row ++ [x]) := fun y hy => by
  rcases List.mem_append.1 hy with hy | hy
  · exact h y hy
  · simp at hy; rw [hy]; exact ⟨h0, h1⟩
theorem RowP.snoc {row : List Int} {x : Int} (h : RowP row) (h0 : -1 ≤ x) (h1 : x ≤ 17) : RowP (row ++ [x]) := fun y hy => by
  rcases List.mem_append.1 hy with hy | hy
  · exact h y hy
  · simp at hy; rw [hy]; exact ⟨h0, h1⟩
def OddPost (m : Int) (R : World → Prop) (e : Ending) (w' : World) : Prop := ∃ b : Bool, e = .returned (.bool b) ∧ (m = 0 → b = false) ∧ R w'
theorem odd_any0 (rb n c cb co N : Nat) (A : Option Addr) (m : Int) (w : World) (h : Rd w rb A n c cb co N) (hN : N ≤ 1000000) (hm : 0 ≤ m) (hm' : m ≤ 1000000) :
    Calls Tryd.prog 45 #[.pointer (some ⟨rb, 0, none⟩), .int .i64 m] w
      (OddPost m fun w' => Rd w' rb A n c cb co (N + 1) ∧ Keep (· = rb) w w') := by
  by_cases h0 : 1 ≤ m
  · exact (odd_any rb n c cb co N A m w h hN h0 hm').mono fun e w' ⟨b, he, hr⟩ => ⟨b, he, fun h1 => by omega, hr⟩
  · obtain rfl : m = 0 := by omega
    go_enter Tryd.func45, Tryd.ntmps45
    go_wp2_with (fail)
    go_ret
    exact ⟨_, rfl, fun _ => rfl, h.mono (by omega), Keep.refl _ _⟩
theorem wpList_app_int2 {ops : Array Oper} {rest : List Oper} {o : Oper} {a : Act} {Q : Exit → Act → World → Prop} {w : World} (hgd : o.guard = none) (s x : Operand)
    (ho : o.op = .call { callee := .builtin .append, args := #[s, x], argTypes := #[23, 23] })
    (B : Nat) (A : Option Addr) (n c : Nat) (xs : List Int) (hs : a.eval s = .slice A n c) (hown : OI w B A n c xs) (z1 z2 : Int) (g c1 : Nat) (hx : a.eval x = .slice (some ⟨g, 0, none⟩) 2 c1) (hcell : w.cell? ⟨g, 0, none⟩ = some (.int .i64 z1)) (hcell2 : w.cell? ⟨g, 1, none⟩ = some (.int .i64 z2))
    (hn : n ≤ 1000000000) (hB : B ≤ w.heap.size)
    (h : ∀ (A' : Option Addr) (c' : Nat) (w' : World), OI w' B A' (n + 2) c' (xs ++ [z1, z2]) → Keep (fun k => (Value.slice A n c).ownBlock = some k) w w' → wpList Tryd.prog ops Q rest (a.put o.dst (.slice A' (n + 2) c')) w') :
    wpList Tryd.prog ops Q (o :: rest) a w := by
  obtain ⟨i0, hi, hz0, hz1, hz2⟩ := info_parts infoInt
  refine wpList_append_own w hgd s x 23 ho B 3 i0 (.int .i64 0) 1 8 Tryd.underlying23 hi hz0 hz1 hz2 rfl (by decide) _ n (ints xs) hs hown ⟨g, 0, none⟩ 2 c1 [.int .i64 z1, .int .i64 z2] hx rfl ?_ ?_ ?_ ?_ hB ?_
  · intro j u hj
    match j, hj with
    | 0, hj => simp at hj; subst hj; simpa [Addr.add] using hcell
    | 1, hj => simp at hj; subst hj; simpa [Addr.add] using hcell2
    | j + 2, hj => simp at hj
  · intro u hu; simp at hu; rcases hu with rfl | rfl <;> rfl
  · unfold maxLen; omega
  · omega
  · intro v' w' h2 h3 _
    obtain ⟨A', c', rfl⟩ := owns_shape h2
    exact h A' c' w' (by unfold OI; simpa [ints] using h2) (keep_grown h3)
theorem trim_mem2 {xs : List Int} (h : RowP xs) : RowP (trimL xs) := fun x hx => h x (List.mem_of_mem_take hx)
theorem trim_le2 (xs : List Int) : (trimL xs).length ≤ xs.length := by rw [trimL_len]; exact trimN_le _ _
end Go.Proofs.YtecmclaockmgeaaDoor
namespace Go.Proofs.YtecmclaockmgeaaDoor
open Go.RowKit
/-- a prime and a row -/
def PR (L : Nat) (w : World) (e : Ending) (w' : World) : Prop :=
  ∃ (p : Int) (A : Option Addr) (c : Nat) (xs : List Int), e = .returned (.tuple #[.int .i64 p, .slice A xs.length c]) ∧ 0 ≤ p ∧ p ≤ 17 ∧ xs.length ≤ L ∧ OI w' w.heap.size A xs.length c xs ∧ Below w.heap.size w w'
/-- a prime and two rows -/
def PRR (L : Nat) (w : World) (e : Ending) (w' : World) : Prop :=
  ∃ (p : Int) (A : Option Addr) (c : Nat) (xs : List Int) (A2 : Option Addr) (c2 : Nat) (ys : List Int), e = .returned (.tuple #[.int .i64 p, .slice A xs.length c, .slice A2 ys.length c2]) ∧ 0 ≤ p ∧ p ≤ 17 ∧ xs.length ≤ L ∧ ys.length ≤ L ∧ OI w' w.heap.size A xs.length c xs ∧ OI w' w.heap.size A2 ys.length c2 ys ∧ Below w.heap.size w w'
theorem below_drw {B rb B2 : Nat} {w w1 w2 : World} (h : Below B w w1) (hk : Keep (Drw rb B2) w1 w2) (hB : B ≤ w.heap.size) (hr : B ≤ rb) (hB2 : B ≤ B2) : Below B w w2 :=
  h.trans (hk.below (Nat.le_trans hB h.size) (fun k hk => by rcases hk with h1 | h1 <;> omega))
end Go.Proofs.YtecmclaockmgeaaDoor
namespace Go.Proofs.YtecmclaockmgeaaDoor
open Go.RowKit
theorem run_app_own1 (w : World) (B : Nat) (A : Option Addr) (n c : Nat) (xs : List Int) (hown : OI w B A n c xs) (z : Int) (g c1 : Nat) (hcell : w.cell? ⟨g, 0, none⟩ = some (.int .i64 z)) (hn : n ≤ 1000000000) (hB : B ≤ w.heap.size) :
    ∃ (q c' : Nat) (w' : World), (Builtin.append_ #[23, 23] 23 #[.slice A n c, .slice (some ⟨g, 0, none⟩) 1 c1]).run Tryd.prog w = .ok (.slice (some ⟨q, 0, none⟩) (n + 1) c') w' ∧ OI w' B (some ⟨q, 0, none⟩) (n + 1) c' (xs ++ [z]) ∧ Keep (fun k => (Value.slice A n c).ownBlock = some k) w w' ∧ ((Value.slice A n c).ownBlock = some q ∨ q = w.heap.size) := by
  obtain ⟨i0, hi, hz0, hz1, hz2⟩ := info_parts infoInt
  obtain ⟨v', w', hr, h3, h4, _, h5⟩ := run_append_own_at (P := Tryd.prog) w B 23 23 3 i0 (.int .i64 0) 1 8 Tryd.underlying23 hi hz0 hz1 hz2 rfl (by decide) _ n (ints xs) hown ⟨g, 0, none⟩ 1 c1 [.int .i64 z] (by simp) (fun j u hj => by
    match j, hj with
    | 0, hj => simp at hj; subst hj; simpa [Addr.add] using hcell) (fun u hu => by simp at hu; subst hu; rfl) (by unfold maxLen; omega) (by omega) hB
  obtain ⟨q, c', rfl⟩ := ownsRow_succ h3
  refine ⟨q, c', w', hr, by unfold OI; simpa [ints] using h3, keep_grown h4, ?_⟩
  rcases h5 with h5 | h5
  · exact .inl h5.symm
  · right; simpa [Value.ownBlock] using h5
theorem step_app_own {ops : Array Oper} {o : Oper} {a : Act} {w : World} {K : Act → World → Prop} {Q : Exit → Act → World → Prop} {E : Prop} (hg : o.guard = none) (s x : Operand)
    (ho : o.op = .call { callee := .builtin .append, args := #[s, x], argTypes := #[23, 23] }) (hty : o.type = 23)
    (B : Nat) (A : Option Addr) (n c : Nat) (xs : List Int) (hs : a.eval s = .slice A n c) (hown : OI w B A n c xs) (z : Int) (g c1 : Nat) (hx : a.eval x = .slice (some ⟨g, 0, none⟩) 1 c1) (hcell : w.cell? ⟨g, 0, none⟩ = some (.int .i64 z))
    (hn : n ≤ 1000000000) (hB : B ≤ w.heap.size)
    (h : ∀ (q c' : Nat) (w' : World), OI w' B (some ⟨q, 0, none⟩) (n + 1) c' (xs ++ [z]) → Keep (fun k => (Value.slice A n c).ownBlock = some k) w w' → ((Value.slice A n c).ownBlock = some q ∨ q = w.heap.size) → K (a.put o.dst (.slice (some ⟨q, 0, none⟩) (n + 1) c')) w') :
    if Region.wanted o (yielded ops a.tmps) = true then Oper.wp Tryd.prog o a w K Q else E := by
  have hw : Region.wanted o (yielded ops a.tmps) = true := by simp [Region.wanted, hg]
  rw [if_pos hw]
  obtain ⟨q, c', w', hr, h3, h4, h5⟩ := run_app_own1 w B A n c xs hown z g c1 hcell hn hB
  unfold Oper.wp execOp
  simp only [ho, hty, resolve, invoke, builtin, Sem.run_bind, Sem.run_pure, Result.andThen_ok, List.map_toArray, List.map_cons, List.map_nil, hs, hx, hr]
  exact h q c' w' h3 h4 h5
theorem wpList_app_own {ops : Array Oper} {rest : List Oper} {o : Oper} {a : Act} {Q : Exit → Act → World → Prop} {w : World} (hgd : o.guard = none) (s x : Operand)
    (ho : o.op = .call { callee := .builtin .append, args := #[s, x], argTypes := #[23, 23] }) (hty : o.type = 23)
    (B : Nat) (A : Option Addr) (n c : Nat) (xs : List Int) (hs : a.eval s = .slice A n c) (hown : OI w B A n c xs) (z : Int) (g c1 : Nat) (hx : a.eval x = .slice (some ⟨g, 0, none⟩) 1 c1) (hcell : w.cell? ⟨g, 0, none⟩ = some (.int .i64 z))
    (hn : n ≤ 1000000000) (hB : B ≤ w.heap.size)
    (h : ∀ (q c' : Nat) (w' : World), OI w' B (some ⟨q, 0, none⟩) (n + 1) c' (xs ++ [z]) → Keep (fun k => (Value.slice A n c).ownBlock = some k) w w' → ((Value.slice A n c).ownBlock = some q ∨ q = w.heap.size) → wpList Tryd.prog ops Q rest (a.put o.dst (.slice (some ⟨q, 0, none⟩) (n + 1) c')) w') :
    wpList Tryd.prog ops Q (o :: rest) a w := by
  refine wpList_plain hgd fun K hK => ?_
  obtain ⟨q, c', w', hr, h3, h4, h5⟩ := run_app_own1 w B A n c xs hown z g c1 hcell hn hB
  unfold Oper.wp execOp
  simp only [ho, hty, resolve, invoke, builtin, Sem.run_bind, Sem.run_pure, Result.andThen_ok, List.map_toArray, List.map_cons, List.map_nil, hs, hx, hr]
  exact hK _ _ (h q c' w' h3 h4 h5)
/-- the reader, the two boxes and the two rows of a recurrence that is drawn -/
structure DR (w wr : World) (rb : Nat) (A : Option Addr) (n c cb co M : Nat) (p : Int) (A1 : Option Addr) (m1 c1 : Nat) (T : List Int) (A2 : Option Addr) (m2 c2 : Nat) (F : List Int) : Prop where
  rd : Rd wr rb A n c cb co M
  res : BxW wr w.heap.size (.int .i64 0) (.slice none 0 0) (.slice none 0 0)
  box : BxW wr (w.heap.size + 1) (.int .i64 p) (.slice A1 m1 c1) (.slice A2 m2 c2)
  t : OI wr (w.heap.size + 2) A1 m1 c1 T
  f : OI wr (w.heap.size + 2) A2 m2 c2 F
  ap : Apart (.slice A1 m1 c1) (.slice A2 m2 c2)
  k : Keep (Drw rb w.heap.size) w wr
  hrb : rb < w.heap.size
  hcb : 0 < n → cb < w.heap.size
section
variable {w wr : World} {rb : Nat} {A : Option Addr} {n c cb co M : Nat} {p : Int} {A1 : Option Addr} {m1 c1 : Nat} {T : List Int} {A2 : Option Addr} {m2 c2 : Nat} {F : List Int}
theorem DR.lt (h : DR w wr rb A n c cb co M p A1 m1 c1 T A2 m2 c2 F) : w.heap.size + 1 < wr.heap.size := h.box.c.lt
theorem DR.pick (h : DR w wr rb A n c cb co M p A1 m1 c1 T A2 m2 c2 F) {w' : World} {M' : Nat} (hR : Rd w' rb A n c cb co M') (hK : Keep (· = rb) wr w') : DR w w' rb A n c cb co M' p A1 m1 c1 T A2 m2 c2 F := by
  have hr := h.hrb
  exact ⟨hR, h.res.keep hK (by omega), h.box.keep hK (by omega), OIk h.t hK (fun g hg e => by have := (h.t.lt g hg).1; omega), OIk h.f hK (fun g hg e => by have := (h.f.lt g hg).1; omega), h.ap, h.k.trans hK.drwR, h.hrb, h.hcb⟩
theorem DR.draw (h : DR w wr rb A n c cb co M p A1 m1 c1 T A2 m2 c2 F) : DR w wr.drew rb A n c cb co M p A1 m1 c1 T A2 m2 c2 F := by
  have hb := below_new_drew wr
  have hk := keep_of_below hb
  exact ⟨h.rd.keep hk (fun h => h) (fun _ h => h), h.res.drew, h.box.drew, OIb h.t hb, OIb h.f hb, h.ap, h.k.trans (hk.mono (fun _ _ h => h.elim)), h.hrb, h.hcb⟩
theorem DR.own1 (h : DR w wr rb A n c cb co M p A1 m1 c1 T A2 m2 c2 F) (z : Int) : OI (wr.alloc (.cells #[.int .i64 z] 3)) (w.heap.size + 2) A1 m1 c1 T := World.ownsRow.alloc h.t _
theorem DR.own2 (h : DR w wr rb A n c cb co M p A1 m1 c1 T A2 m2 c2 F) (z : Int) : OI (wr.alloc (.cells #[.int .i64 z] 3)) (w.heap.size + 2) A2 m2 c2 F := World.ownsRow.alloc h.f _
theorem DR.mid (h : DR w wr rb A n c cb co M p A1 m1 c1 T A2 m2 c2 F) {o : Obj} {w' : World} {S : Nat → Prop} (hK : Keep S (wr.alloc o) w') (hS : ∀ g, S g → w.heap.size + 2 ≤ g) : BxW w' (w.heap.size + 1) (.int .i64 p) (.slice A1 m1 c1) (.slice A2 m2 c2) :=
  (h.box.below (below_new wr o)).keep hK (fun hs => by have := hS _ hs; omega)
theorem DR.app1 (h : DR w wr rb A n c cb co M p A1 m1 c1 T A2 m2 c2 F) {o : Obj} {w' : World} {q c' : Nat} {z : Int} (hO : OI w' (w.heap.size + 2) (some ⟨q, 0, none⟩) (m1 + 1) c' (T ++ [z])) (hK : Keep (fun k => (Value.slice A1 m1 c1).ownBlock = some k) (wr.alloc o) w') (hq : (Value.slice A1 m1 c1).ownBlock = some q ∨ q = (wr.alloc o).heap.size) :
    DR w (w'.setCell ⟨w.heap.size + 1, 1, none⟩ (.slice (some ⟨q, 0, none⟩) (m1 + 1) c')) rb A n c cb co M p (some ⟨q, 0, none⟩) (m1 + 1) c' (T ++ [z]) A2 m2 c2 F := by
  have hst : ∀ g, (Value.slice A1 m1 c1).ownBlock = some g → w.heap.size + 2 ≤ g := fun g hg => (h.t.lt g hg).1
  have hr := h.hrb
  have hmid := h.mid hK hst
  have hsc := setCell_keep w' ⟨w.heap.size + 1, 1, none⟩ (.slice (some ⟨q, 0, none⟩) (m1 + 1) c')
  have hkk : Keep (fun g => (Value.slice A1 m1 c1).ownBlock = some g ∨ g = w.heap.size + 1) (wr.alloc o) (w'.setCell ⟨w.heap.size + 1, 1, none⟩ (.slice (some ⟨q, 0, none⟩) (m1 + 1) c')) := (hK.mono (fun _ _ h => .inl h)).trans (hsc.mono (fun _ _ h => .inr h))
  have hk2 : Keep (fun g => (Value.slice A1 m1 c1).ownBlock = some g ∨ g = w.heap.size + 1) wr (w'.setCell ⟨w.heap.size + 1, 1, none⟩ (.slice (some ⟨q, 0, none⟩) (m1 + 1) c')) := (keep_of_below (below_new wr o) |>.mono (fun _ _ h => h.elim)).trans hkk
  refine ⟨h.rd.keep hk2 (fun e => ?_) (fun hn e => ?_), h.res.keep hk2 (fun e => ?_), ⟨⟨?_, ?_, ?_⟩, fun o' => ?_⟩, ?_, OIk h.f hk2 (fun g hg e => ?_), ?_, h.k.trans (hk2.drwB (fun g e => ?_)), h.hrb, h.hcb⟩
  · rcases e with e | e
    · have := hst _ e; omega
    · omega
  · have := h.hcb hn
    rcases e with e | e
    · have := hst _ e; omega
    · omega
  · rcases e with e | e
    · have := hst _ e; omega
    · omega
  · exact (World.cell?_setCell_other w' ⟨w.heap.size + 1, 1, none⟩ ⟨w.heap.size + 1, 0, none⟩ _ (by simp)).trans hmid.c.1
  · exact World.cell?_setCell_same' w' ⟨w.heap.size + 1, 1, none⟩ _ (by rw [hmid.c.2.1]; rfl)
  · exact (World.cell?_setCell_other w' ⟨w.heap.size + 1, 1, none⟩ ⟨w.heap.size + 1, 2, none⟩ _ (by simp)).trans hmid.c.2.2
  · exact (World.frozen?_setCell w' ⟨w.heap.size + 1, 1, none⟩ ⟨w.heap.size + 1, o', none⟩ _).trans (hmid.fz o')
  · exact OIk hO hsc (fun g hg e => by have := (hO.lt g hg).1; have e' : g = w.heap.size + 1 := e; omega)
  · rcases e with e | e
    · exact ap1 h.ap e hg
    · have := (h.f.lt g hg).1; omega
  · right
    intro e
    have e' : (Value.slice A2 m2 c2).ownBlock = some q := e.symm
    rcases hq with hq | hq
    · exact ap1 h.ap hq e'
    · have := (h.f.lt q e').2
      rw [World.size_alloc] at hq
      omega
  · rcases e with e | e
    · have := hst _ e; omega
    · omega
theorem DR.app2 (h : DR w wr rb A n c cb co M p A1 m1 c1 T A2 m2 c2 F) {o : Obj} {w' : World} {q c' : Nat} {z : Int} (hO : OI w' (w.heap.size + 2) (some ⟨q, 0, none⟩) (m2 + 1) c' (F ++ [z])) (hK : Keep (fun k => (Value.slice A2 m2 c2).ownBlock = some k) (wr.alloc o) w') (hq : (Value.slice A2 m2 c2).ownBlock = some q ∨ q = (wr.alloc o).heap.size) :
    DR w (w'.setCell ⟨w.heap.size + 1, 2, none⟩ (.slice (some ⟨q, 0, none⟩) (m2 + 1) c')) rb A n c cb co M p A1 m1 c1 T (some ⟨q, 0, none⟩) (m2 + 1) c' (F ++ [z]) := by
  have hst : ∀ g, (Value.slice A2 m2 c2).ownBlock = some g → w.heap.size + 2 ≤ g := fun g hg => (h.f.lt g hg).1
  have hr := h.hrb
  have hmid := h.mid hK hst
  have hsc := setCell_keep w' ⟨w.heap.size + 1, 2, none⟩ (.slice (some ⟨q, 0, none⟩) (m2 + 1) c')
  have hkk : Keep (fun g => (Value.slice A2 m2 c2).ownBlock = some g ∨ g = w.heap.size + 1) (wr.alloc o) (w'.setCell ⟨w.heap.size + 1, 2, none⟩ (.slice (some ⟨q, 0, none⟩) (m2 + 1) c')) := (hK.mono (fun _ _ h => .inl h)).trans (hsc.mono (fun _ _ h => .inr h))
  have hk2 : Keep (fun g => (Value.slice A2 m2 c2).ownBlock = some g ∨ g = w.heap.size + 1) wr (w'.setCell ⟨w.heap.size + 1, 2, none⟩ (.slice (some ⟨q, 0, none⟩) (m2 + 1) c')) := (keep_of_below (below_new wr o) |>.mono (fun _ _ h => h.elim)).trans hkk
  refine ⟨h.rd.keep hk2 (fun e => ?_) (fun hn e => ?_), h.res.keep hk2 (fun e => ?_), ⟨⟨?_, ?_, ?_⟩, fun o' => ?_⟩, OIk h.t hk2 (fun g hg e => ?_), ?_, ?_, h.k.trans (hk2.drwB (fun g e => ?_)), h.hrb, h.hcb⟩
  · rcases e with e | e
    · have := hst _ e; omega
    · omega
  · have := h.hcb hn
    rcases e with e | e
    · have := hst _ e; omega
    · omega
  · rcases e with e | e
    · have := hst _ e; omega
    · omega
  · exact (World.cell?_setCell_other w' ⟨w.heap.size + 1, 2, none⟩ ⟨w.heap.size + 1, 0, none⟩ _ (by simp)).trans hmid.c.1
  · exact (World.cell?_setCell_other w' ⟨w.heap.size + 1, 2, none⟩ ⟨w.heap.size + 1, 1, none⟩ _ (by simp)).trans hmid.c.2.1
  · exact World.cell?_setCell_same' w' ⟨w.heap.size + 1, 2, none⟩ _ (by rw [hmid.c.2.2]; rfl)
  · exact (World.frozen?_setCell w' ⟨w.heap.size + 1, 2, none⟩ ⟨w.heap.size + 1, o', none⟩ _).trans (hmid.fz o')
  · rcases e with e | e
    · exact ap1 h.ap hg e
    · have := (h.t.lt g hg).1; omega
  · exact OIk hO hsc (fun g hg e => by have := (hO.lt g hg).1; have e' : g = w.heap.size + 1 := e; omega)
  · rcases hg : (Value.slice A1 m1 c1).ownBlock with _ | g
    · exact .inl hg
    · right
      rw [hg]
      intro e
      have e' : g = q := Option.some.inj e
      subst e'
      rcases hq with hq | hq
      · exact ap1 h.ap hg hq
      · have := (h.t.lt g hg).2
        rw [World.size_alloc] at hq
        omega
  · rcases e with e | e
    · have := hst _ e; omega
    · omega
theorem DR.prime (h : DR w wr rb A n c cb co M p A1 m1 c1 T A2 m2 c2 F) (q : Int) : DR w (wr.setCell ⟨w.heap.size + 1, 0, none⟩ (.int .i64 q)) rb A n c cb co M q A1 m1 c1 T A2 m2 c2 F := by
  have hr := h.hrb
  have hsc := setCell_keep wr ⟨w.heap.size + 1, 0, none⟩ (.int .i64 q)
  refine ⟨h.rd.keep hsc (by simp; omega) (fun hn => by have := h.hcb hn; simp; omega), h.res.keep hsc (by simp), ⟨⟨?_, ?_, ?_⟩, fun o' => ?_⟩, OIk h.t hsc (fun g hg e => by have := (h.t.lt g hg).1; have e' : g = w.heap.size + 1 := e; omega), OIk h.f hsc (fun g hg e => by have := (h.f.lt g hg).1; have e' : g = w.heap.size + 1 := e; omega), h.ap, h.k.trans (hsc.drwB (fun g e => by have e' : g = w.heap.size + 1 := e; omega)), h.hrb, h.hcb⟩
  · exact World.cell?_setCell_same' wr ⟨w.heap.size + 1, 0, none⟩ _ (by rw [h.box.c.1]; rfl)
  · exact (World.cell?_setCell_other wr ⟨w.heap.size + 1, 0, none⟩ ⟨w.heap.size + 1, 1, none⟩ _ (by simp)).trans h.box.c.2.1
  · exact (World.cell?_setCell_other wr ⟨w.heap.size + 1, 0, none⟩ ⟨w.heap.size + 1, 2, none⟩ _ (by simp)).trans h.box.c.2.2
  · exact (World.frozen?_setCell wr ⟨w.heap.size + 1, 0, none⟩ ⟨w.heap.size + 1, o', none⟩ _).trans (h.box.fz o')
/-- a drawn recurrence -/
def RecPost (rb n c cb co N L : Nat) (A : Option Addr) (w : World) (e : Ending) (w' : World) : Prop :=
  ∃ (v : Value) (q : Int) (T F : List Int), e = .returned v ∧ RO w' w.heap.size v q T F ∧ T.length ≤ L ∧ F.length ≤ L ∧ 0 ≤ q ∧ q ≤ 17 ∧ Rd w' rb A n c cb co N ∧ Keep (Drw rb w.heap.size) w w'
def RecPostV (V : Int → List Int → List Int → Prop) (rb n c cb co N L : Nat) (A : Option Addr) (w : World) (e : Ending) (w' : World) : Prop :=
  ∃ (v : Value) (q : Int) (T F : List Int), e = .returned v ∧ RO w' w.heap.size v q T F ∧ T.length ≤ L ∧ F.length ≤ L ∧ 0 ≤ q ∧ q ≤ 17 ∧ Rd w' rb A n c cb co N ∧ Keep (Drw rb w.heap.size) w w' ∧ V q T F
theorem RecPostV.weak {V : Int → List Int → List Int → Prop} {rb n c cb co N L : Nat} {A : Option Addr} {w w' : World} {e : Ending} (h : RecPostV V rb n c cb co N L A w e w') : RecPost rb n c cb co N L A w e w' := by
  obtain ⟨v, q, T, F, h1, h2, h3, h4, h5, h6, h7, h8, _⟩ := h
  exact ⟨v, q, T, F, h1, h2, h3, h4, h5, h6, h7, h8⟩
theorem DR.done (h : DR w wr rb A n c cb co M p A1 m1 c1 T A2 m2 c2 F) {N L : Nat} (hT : T.length ≤ L) (hF : F.length ≤ L) (hN : M ≤ N) (hp : 0 ≤ p) (hp' : p ≤ 17) :
    RecPost rb n c cb co N L A w (.returned (.agg #[.int .i64 p, .slice A1 m1 c1, .slice A2 m2 c2])) (set3 wr w.heap.size (.int .i64 p) (.slice A1 m1 c1) (.slice A2 m2 c2)) := by
  have hr := h.hrb
  have hk := set3_keep wr w.heap.size (.int .i64 p) (.slice A1 m1 c1) (.slice A2 m2 c2)
  have h1 := h.t.len
  have h2 := h.f.len
  subst h1; subst h2
  refine ⟨_, p, T, F, rfl, ⟨A1, c1, A2, c2, rfl, owns_mono (OIk h.t hk (fun g hg e => by have := (h.t.lt g hg).1; omega)) (by omega), owns_mono (OIk h.f hk (fun g hg e => by have := (h.f.lt g hg).1; omega)) (by omega), h.ap⟩, hT, hF, hp, hp', (h.rd.keep hk (by omega) (fun hn => by have := h.hcb hn; omega)).mono hN, h.k.trans (hk.drwB (fun g e => by omega))⟩
theorem DR.doneV {V : Int → List Int → List Int → Prop} (h : DR w wr rb A n c cb co M p A1 m1 c1 T A2 m2 c2 F) {N L : Nat} (hT : T.length ≤ L) (hF : F.length ≤ L) (hN : M ≤ N) (hp : 0 ≤ p) (hp' : p ≤ 17) (hV : V p T F) :
    RecPostV V rb n c cb co N L A w (.returned (.agg #[.int .i64 p, .slice A1 m1 c1, .slice A2 m2 c2])) (set3 wr w.heap.size (.int .i64 p) (.slice A1 m1 c1) (.slice A2 m2 c2)) := by
  have hr := h.hrb
  have hk := set3_keep wr w.heap.size (.int .i64 p) (.slice A1 m1 c1) (.slice A2 m2 c2)
  have h1 := h.t.len
  have h2 := h.f.len
  subst h1; subst h2
  refine ⟨_, p, T, F, rfl, ⟨A1, c1, A2, c2, rfl, owns_mono (OIk h.t hk (fun g hg e => by have := (h.t.lt g hg).1; omega)) (by omega), owns_mono (OIk h.f hk (fun g hg e => by have := (h.f.lt g hg).1; omega)) (by omega), h.ap⟩, hT, hF, hp, hp', (h.rd.keep hk (by omega) (fun hn => by have := h.hcb hn; omega)).mono hN, h.k.trans (hk.drwB (fun g e => by omega)), hV⟩
end
end Go.Proofs.YtecmclaockmgeaaDoor
namespace Go.Proofs.YtecmclaockmgeaaDoor
open Go.RowKit
theorem numB_mk2 {p x : Int} (hp : primeB p = true) (h : 0 ≤ x ∧ x < max p 1) : numB p x = true := by
  have h2 := prime_ge hp
  have := numB_emod hp x
  rwa [Int.emod_eq_of_lt h.1 (by omega)] at this
set_option maxRecDepth 100000 in
set_option maxHeartbeats 4000000 in
theorem recOf_anyV (rb n c cb co N : Nat) (A : Option Addr) (p : Int) (most : Nat) (m : Int) (w : World) (h : Rd w rb A n c cb co N) (hN : N ≤ 900000) (hp : 0 ≤ p) (hp' : p ≤ 17) (hmost : most ≤ 6) (hm : 0 ≤ m) (hm' : m ≤ 1000000) :
    Calls Tryd.prog 24 #[.pointer (some ⟨rb, 0, none⟩), .int .i64 p, .int .i64 (most : Int), .int .i64 m] w (RecPostV (fun q T F => m = 0 → primeB p = true → recB q T F = true ∧ q = p) rb n c cb co (N + 40) 8 A w) := by
  have hrb := h.lt
  have hcb := fun hn => h.ltc hn
  have hmax : 1 ≤ max p 1 ∧ max p 1 ≤ 17 := by omega
  obtain ⟨W0, hW0⟩ : ∃ W0, (w.alloc (.cells #[.int .i64 0, .slice none 0 0, .slice none 0 0] 25)).alloc (.cells #[.int .i64 p, .slice none 0 0, .slice none 0 0] 25) = W0 := ⟨_, rfl⟩
  have hB0 : Below w.heap.size w W0 := by rw [← hW0]; exact ((Below.refl _ w).alloc (Nat.le_refl _) _).alloc (by simp) _
  have hs0 : W0.heap.size = w.heap.size + 2 := by rw [← hW0]; simp
  have hbw : BxW W0 (w.heap.size + 1) (.int .i64 p) (.slice none 0 0) (.slice none 0 0) := by
    have := BxW.new (w.alloc (.cells #[.int .i64 0, .slice none 0 0, .slice none 0 0] 25)) (.int .i64 p) (.slice none 0 0) (.slice none 0 0) 25
    rw [World.size_alloc] at this
    rw [← hW0]; exact this
  have hrw : BxW W0 w.heap.size (.int .i64 0) (.slice none 0 0) (.slice none 0 0) := by rw [← hW0]; exact (BxW.new w _ _ _ _).below (below_new _ _)
  have hD0 : DR w W0 rb A n c cb co N p none 0 0 [] none 0 0 [] := ⟨h.keep (keep_of_below hB0) (fun h => h) (fun _ h => h), hrw, hbw, World.ownsRow_nil _ _ _ _, World.ownsRow_nil _ _ _ _, .inl rfl, (keep_of_below hB0).mono (fun _ _ h => h.elim), hrb, hcb⟩
  rw [← hW0] at hD0
  have HD0 := Lib.hid hD0
  have HRB := Lib.hid hrb
  clear h hcb hbw hrw hD0 hB0 hs0 hrb hW0
  go_enter Tryd.func24, Tryd.ntmps24
  go_wp2_with (fail)
  have hD := HD0.out
  refine (pick_any rb n c cb co N A _ _ hD.rd (by omega)).mono ?_
  rintro e w1 ⟨j0, rfl, hj0, hR1, hK1⟩
  have hj0 := hj0 (by omega)
  have HD1 := Lib.hid (hD.pick hR1 hK1)
  clear hR1 hK1 hD
  go_wp2_with (fail)
  go_loopw [10] (fun i wr => ∃ (k q : Nat) (A1 : Option Addr) (c1 : Nat) (T : List Int) (A2 : Option Addr) (c2 : Nat) (F : List Int), k + q = j0 ∧ i = .int .i64 (k : Int) ∧ Hid (DR w wr rb A n c cb co (N + 1 + 2 * q) p A1 q c1 T A2 q c2 F) ∧ Hid (RowQ p T ∧ RowQ p F)) (fun i _ => (intOf i).toNat)
  case atStart => exact ⟨j0, 0, _, _, _, _, _, _, by omega, rfl, HD1.out, ⟨fun x hx => (by cases hx), fun x hx => (by cases hx)⟩⟩
  case round =>
    obtain ⟨k, q, A1, c1, T, A2, c2, F, hkq, rfl, hd, hq⟩ := hrel
    obtain ⟨wo, rfl⟩ : ∃ wo : World, wo = wr := ⟨_, rfl⟩
    obtain ⟨x0, x1, x2⟩ := hd.out.box.c
    have fz := hd.out.box.fz
    by_cases hk0 : 0 < k
    · go_wp2_with (fail)
      have HDd := Lib.hid hd.out.draw
      obtain ⟨d0, d1, d2⟩ := hd.out.draw.box.c
      go_region_law (first
        | (refine step_app_own rfl (.tmp 22) (.tmp 27) rfl rfl (w.heap.size + 2) A1 q c1 T rfl (HDp.out.own1 _) _ _ _ rfl (cellNew _ _ _) (by omega) (by simp; omega) ?_; intro q5 c5 w5 hO5 hK5 hq5; have hm5 := HDp.out.mid hK5 (fun g hg => (HDp.out.t.lt g hg).1); have z0 := hm5.c.1; have z1 := hm5.c.2.1; have z2 := hm5.c.2.2; have zf := hm5.fz; have HD5 := Lib.hid (HDp.out.app1 hO5 hK5 hq5); clear hO5 hK5 hq5 hm5)
        | (go_simp; go_at_call 44; refine (pick_any rb n c cb co _ A _ _ HDd.out.rd (by omega)).mono ?_; rintro e w2 ⟨j1, rfl, hj1, hR2, hK2⟩; have hj1 := hj1 (by omega); have hdp := HDd.out.pick hR2 hK2; have y0 := hdp.box.c.1; have y1 := hdp.box.c.2.1; have y2 := hdp.box.c.2.2; have hlt := hdp.lt; have HDp := Lib.hid hdp; clear hR2 hK2 hdp))
      all_goals
        clear x0 x1 x2 d0 d1 d2 y0 y1 y2 fz z0 z1 z2 zf hlt
        go_wp2_with (fail)
        all_goals
          generalize w5.setCell ⟨w.heap.size + 1, 1, none⟩ (.slice (some ⟨q5, 0, none⟩) (q + 1) c5) = W5 at HD5 ⊢
          obtain ⟨x0, x1, x2⟩ := HD5.out.box.c
          have fz := HD5.out.box.fz
          have HDd2 := Lib.hid HD5.out.draw
          obtain ⟨d0, d1, d2⟩ := HD5.out.draw.box.c
          go_region_law (first
            | (refine step_app_own rfl (.tmp 31) (.tmp 36) rfl rfl (w.heap.size + 2) A2 q c2 F rfl (HDq.out.own2 _) _ _ _ rfl (cellNew _ _ _) (by omega) (by simp; omega) ?_; intro q6 c6 w6 hO6 hK6 hq6; have hm6 := HDq.out.mid hK6 (fun g hg => (HDq.out.f.lt g hg).1); have z0 := hm6.c.1; have z1 := hm6.c.2.1; have z2 := hm6.c.2.2; have zf := hm6.fz; have HD6 := Lib.hid (HDq.out.app2 hO6 hK6 hq6); clear hO6 hK6 hq6 hm6)
            | (go_simp; go_at_call 44; refine (pick_any rb n c cb co _ A _ _ HDd2.out.rd (by omega)).mono ?_; rintro e w2' ⟨j2, rfl, hj2, hR2, hK2⟩; have hj2 := hj2 (by omega); have hdp := HDd2.out.pick hR2 hK2; have y0 := hdp.box.c.1; have y1 := hdp.box.c.2.1; have y2 := hdp.box.c.2.2; have hlt := hdp.lt; have HDq := Lib.hid hdp; clear hR2 hK2 hdp))
          all_goals
            clear x0 x1 x2 d0 d1 d2 y0 y1 y2 fz z0 z1 z2 zf hlt
            go_wp2_with (fail)
            go_roundw
            case rel => exact ⟨k - 1, q + 1, _, _, _, _, _, _, by omega, by go_num, by rw [show N + 1 + 2 * (q + 1) = N + 1 + 2 * q + 1 + 1 by omega]; exact HD6.out, ⟨hq.out.1.snoc (by omega) (by omega), hq.out.2.snoc (by omega) (by omega)⟩⟩
            case measure => simp [intOf]; omega
    · obtain rfl : k = 0 := by omega
      have hTl := hd.out.t.len
      have hFl := hd.out.f.len
      clear x0 x1 x2 fz
      go_wp2_with (fail)
      refine (odd_any0 rb n c cb co _ A m _ hd.out.rd (by omega) hm hm').mono ?_
      rintro e w2 ⟨b, rfl, hodd, hR2, hK2⟩
      have HD2 := Lib.hid (hd.out.pick hR2 hK2)
      clear hR2 hK2
      cases b
      · obtain ⟨x0, x1, x2⟩ := HD2.out.box.c
        obtain ⟨r0, r1, r2⟩ := HD2.out.res.c
        have rf := HD2.out.res.fz
        go_wp2_with (fail)
        refine bodyPost_ret (v := .agg #[.int .i64 p, .slice A1 q c1, .slice A2 q c2]) (by simp [results, Tryd.f24, go_sem, r0, r1, r2]) rfl ?_
        have hTl2 := hTl
        refine HD2.out.doneV (by omega) (by omega) (by omega) hp hp' (fun h0 hpr => ⟨recB_mk hpr (by omega) (by omega) (fun x hx => ?_) (fun x hx => ?_), rfl⟩)
        · have := hq.out.1 x hx
          exact numB_mk2 hpr this
        · have := hq.out.2 x hx
          exact numB_mk2 hpr this
      · go_wp2_with (fail)
        refine (pick_any rb n c cb co _ A _ _ HD2.out.rd (by omega)).mono ?_
        rintro e w3 ⟨j3, rfl, hj3, hR3, hK3⟩
        have hj3 := hj3 (by omega)
        have HD3 := Lib.hid (HD2.out.pick hR3 hK3)
        clear hR3 hK3
        obtain ⟨x0, x1, x2⟩ := HD3.out.box.c
        have fz := HD3.out.box.fz
        have hlt := HD3.out.lt
        by_cases e0 : (j3 : Int) = 0
        · have hq0 : ((j3 : Int) == 0) = true := by simp [e0]
          go_wp2_with (at_builtin; refine wpList_app_own rfl (.tmp 58) (.tmp 59) rfl rfl (w.heap.size + 2) A2 q c2 F rfl (HD3.out.own2 _) _ _ _ rfl (cellNew _ _ _) (by omega) (by simp; omega) ?_)
          intro q6 c6 w6 hO6 hK6 hq6
          have hm6 := HD3.out.mid hK6 (fun g hg => (HD3.out.f.lt g hg).1)
          have HD6 := Lib.hid (HD3.out.app2 hO6 hK6 (by simpa using hq6))
          clear hO6 hK6 hq6 x0 x1 x2 fz
          obtain ⟨z0, z1, z2⟩ := hm6.c
          have zf := hm6.fz
          clear hm6
          obtain ⟨x0, x1, x2⟩ := HD6.out.box.c
          obtain ⟨r0, r1, r2⟩ := HD6.out.res.c
          have rf := HD6.out.res.fz
          go_wp2_with (fail)
          refine bodyPost_ret (v := .agg #[.int .i64 p, .slice A1 q c1, .slice (some ⟨q6, 0, none⟩) (q + 1) c6]) (by simp [results, Tryd.f24, go_sem, r0, r1, r2]) rfl ?_
          exact HD6.out.doneV (by omega) (by simp; omega) (by omega) hp hp' (fun h0 => by have := hodd h0; cases this)
        · have hq0 : ((j3 : Int) == 0) = false := by simp; omega
          by_cases e1 : (j3 : Int) = 1
          · have hq1 : ((j3 : Int) == 1) = true := by simp [e1]
            have HD6 := Lib.hid (HD3.out.prime 9)
            obtain ⟨x0', x1', x2'⟩ := HD6.out.box.c
            obtain ⟨r0', r1', r2'⟩ := HD6.out.res.c
            have rf' := HD6.out.res.fz
            obtain ⟨r0, r1, r2⟩ := HD3.out.res.c
            have rf := HD3.out.res.fz
            go_wp2_with (fail)
            refine bodyPost_ret (v := .agg #[.int .i64 9, .slice A1 q c1, .slice A2 q c2]) (by simp [results, Tryd.f24, go_sem, r0, r1, r2]) rfl ?_
            exact HD6.out.doneV (by omega) (by omega) (by omega) (by decide) (by decide) (fun h0 => by have := hodd h0; cases this)
          · have hq1 : ((j3 : Int) == 1) = false := by simp; omega
            go_wp2_with (at_builtin; refine wpList_app_own rfl (.tmp 45) (.tmp 47) rfl rfl (w.heap.size + 2) A1 q c1 T rfl (HD3.out.own1 _) _ _ _ rfl (cellNew _ _ _) (by omega) (by simp; omega) ?_)
            intro q6 c6 w6 hO6 hK6 hq6
            have hm6 := HD3.out.mid hK6 (fun g hg => (HD3.out.t.lt g hg).1)
            have HD6 := Lib.hid (HD3.out.app1 hO6 hK6 (by simpa using hq6))
            clear hO6 hK6 hq6 x0 x1 x2 fz
            obtain ⟨z0, z1, z2⟩ := hm6.c
            have zf := hm6.fz
            clear hm6
            obtain ⟨x0, x1, x2⟩ := HD6.out.box.c
            have fz := HD6.out.box.fz
            have hlt6 := HD6.out.lt
            go_wp2_with (at_builtin; refine wpList_app_own rfl (.tmp 51) (.tmp 52) rfl rfl (w.heap.size + 2) A2 q c2 F rfl (HD6.out.own2 _) 0 w6.heap.size 1 rfl (by simp [go_sem]) (by omega) (Nat.le_trans (Nat.succ_le_of_lt HD6.out.lt) (below_new _ _).size) ?_)
            intro q7 c7 w7 hO7 hK7 hq7
            have hm7 := HD6.out.mid hK7 (fun g hg => (HD6.out.f.lt g hg).1)
            have HD7 := Lib.hid (HD6.out.app2 hO7 hK7 (by simpa using hq7))
            clear hO7 hK7 hq7 x0 x1 x2 fz z0 z1 z2 zf
            obtain ⟨z0, z1, z2⟩ := hm7.c
            have zf := hm7.fz
            clear hm7
            obtain ⟨x0, x1, x2⟩ := HD7.out.box.c
            obtain ⟨r0, r1, r2⟩ := HD7.out.res.c
            have rf := HD7.out.res.fz
            go_wp2_with (fail)
            refine bodyPost_ret (v := .agg #[.int .i64 p, .slice (some ⟨q6, 0, none⟩) (q + 1) c6, .slice (some ⟨q7, 0, none⟩) (q + 1) c7]) (by simp [results, Tryd.f24, go_sem, r0, r1, r2]) rfl ?_
            exact HD7.out.doneV (by simp; omega) (by simp; omega) (by omega) hp hp' (fun h0 => by have := hodd h0; cases this)
theorem recOf_any (rb n c cb co N : Nat) (A : Option Addr) (p : Int) (most : Nat) (m : Int) (w : World) (h : Rd w rb A n c cb co N) (hN : N ≤ 900000) (hp : 0 ≤ p) (hp' : p ≤ 17) (hmost : most ≤ 6) (hm : 0 ≤ m) (hm' : m ≤ 1000000) :
    Calls Tryd.prog 24 #[.pointer (some ⟨rb, 0, none⟩), .int .i64 p, .int .i64 (most : Int), .int .i64 m] w (RecPost rb n c cb co (N + 40) 8 A w) :=
  (recOf_anyV rb n c cb co N A p most m w h hN hp hp' hmost hm hm').mono fun _ _ h => h.weak
theorem prime_any0 (rb n c cb co N : Nat) (A : Option Addr) (m : Int) (w : World) (h : Rd w rb A n c cb co N) (hN : N ≤ 999000) (hm : 0 ≤ m) (hm' : m ≤ 1000000) :
    Calls Tryd.prog 25 #[.pointer (some ⟨rb, 0, none⟩), .int .i64 m] w
      (PrimePost (fun p => 0 ≤ p ∧ p ≤ 17) fun w' => Rd w' rb A n c cb co (N + 2) ∧ Keep (· = rb) w w') := by
  have hrb := cell_lt h.c0
  simp only at hrb
  go_enter Tryd.func25, Tryd.ntmps25
  go_wp2_with (go_at_call 45; refine (odd_any0 rb n c cb co N A _ _ h (by omega) hm hm').mono ?_; rintro e w1 ⟨b, rfl, _, hR, hK⟩; have hs := hK.size; rcases b)
  all_goals
    have hRx := fun o => hR.keep ((Keep.refl (fun _ => False) w1).alloc o) (fun h => h) (fun _ h => h)
    go_wp2_with (go_at_call 44; refine (pick_any rb n c cb co (N + 1) A _ _ (hRx _) (by omega)).mono ?_; rintro e w2 ⟨j, rfl, hj, hR2, hK2⟩; have hj := hj (by omega); first | (obtain ⟨q, hq0, hq1, hq⟩ := tab9 j (by omega); have hcell := made_cell hK2 (by omega) hq; clear hq) | (obtain ⟨q, hq0, hq1, hq⟩ := tab5 j (by omega); have hcell := made_cell hK2 (by omega) hq; clear hq))
    go_ret
    exact ⟨q, rfl, ⟨hq0, hq1⟩, hR2, hK.trans (((Keep.refl _ _).alloc _).trans hK2)⟩
set_option maxRecDepth 100000 in
set_option maxHeartbeats 1000000 in
theorem rec_any (rb n c cb co N : Nat) (A : Option Addr) (most : Nat) (m : Int) (w : World) (h : Rd w rb A n c cb co N) (hN : N ≤ 800000) (hmost : most ≤ 6) (hm : 0 ≤ m) (hm' : m ≤ 1000000) :
    Calls Tryd.prog 10 #[.pointer (some ⟨rb, 0, none⟩), .int .i64 (most : Int), .int .i64 m] w (RecPost rb n c cb co (N + 50) 8 A w) := by
  have HR := Lib.hid h
  have hrb := h.lt
  have hcb := fun hn => h.ltc hn
  have HCB := Lib.hid hcb
  have HW := Lib.hid (BxW.new w (.int .i64 0) (.slice none 0 0) (.slice none 0 0) 25)
  clear h hcb
  go_enter Tryd.func10, Tryd.ntmps10
  go_wp2_with (fail)
  refine (prime_any0 rb n c cb co N A _ _ (HR.out.alloc _) (by omega) (by decide) (by decide)).mono ?_
  rintro e w1 ⟨p, rfl, ⟨hp0, hp1⟩, hR1, hK1⟩
  have hs1 := hK1.size
  rw [World.size_alloc] at hs1
  have HW1 := Lib.hid (HW.out.keep hK1 (by omega))
  have HK1 := Lib.hid (((Keep.refl (Drw rb w.heap.size) w).alloc (.cells #[.int .i64 0, .slice none 0 0, .slice none 0 0] 25)).trans hK1.drwR)
  have HR1 := Lib.hid hR1
  clear hR1 hK1
  go_wp2_with (fail)
  refine (recOf_any rb n c cb co _ A p most m _ HR1.out (by omega) hp0 hp1 hmost hm hm').mono ?_
  rintro e w2 ⟨v, q, T, F, rfl, hO, hT, hF, hq0, hq1, hR2, hK2⟩
  have hlt1 := hK2.size
  have HW2 := Lib.hid (HW1.out.keep hK2 (fun hs => by rcases hs with hs | hs <;> omega))
  have HO := Lib.hid hO
  obtain ⟨A1, c1, A2, c2, rfl, hO1, hO2, hap⟩ := hO
  have HO1 := Lib.hid hO1
  have HO2 := Lib.hid hO2
  have HAP := Lib.hid hap
  have HR2 := Lib.hid hR2
  have HK2 := Lib.hid (HK1.out.trans (hK2.mono (fun _ _ hg => Or.elim hg .inl (fun h => .inr (by omega)))))
  clear hO1 hO2 hap hR2 hK2
  obtain ⟨r0, r1, r2⟩ := HW2.out.c
  have rf := HW2.out.fz
  go_wp2_with (fail)
  refine bodyPost_ret (v := .agg #[.int .i64 q, .slice A1 T.length c1, .slice A2 F.length c2]) (by simp [results, Tryd.f10, go_sem, r0, r1, r2]) rfl ?_
  have hk := set3_keep w2 w.heap.size (.int .i64 q) (.slice A1 T.length c1) (.slice A2 F.length c2)
  exact ⟨_, q, T, F, rfl, ⟨A1, c1, A2, c2, rfl, owns_mono (OIk HO1.out hk (fun g hg e => by have := (HO1.out.lt g hg).1; omega)) (by omega), owns_mono (OIk HO2.out hk (fun g hg e => by have := (HO2.out.lt g hg).1; omega)) (by omega), HAP.out⟩, hT, hF, hq0, hq1, (HR2.out.keep hk (by omega) (fun hn => by have := HCB.out hn; omega)).mono (by omega), HK2.out.trans (hk.drwB (fun g e => by omega))⟩
end Go.Proofs.YtecmclaockmgeaaDoor
namespace Go.Proofs.YtecmclaockmgeaaDoor
open Go.RowKit
theorem keep_drwF {rb B : Nat} {w w1 w2 : World} (h : Keep (Drw rb B) w w1) (hb : Below w1.heap.size w1 w2) : Keep (Drw rb B) w w2 := h.trans ((keep_of_below hb).mono (fun _ _ h => h.elim))
theorem keep_drwT {rb B B2 : Nat} {w w1 w2 : World} (h : Keep (Drw rb B) w w1) (h2 : Keep (Drw rb B2) w1 w2) (hB : B ≤ B2) : Keep (Drw rb B) w w2 := h.trans (h2.mono (fun _ _ hg => Or.elim hg .inl (fun h => .inr (Nat.le_trans hB h))))
def BegPost (rb n c cb co N : Nat) (A : Option Addr) (w : World) (e : Ending) (w' : World) : Prop :=
  ∃ (p : Int) (Ao : Option Addr) (ca : Nat) (xs : List Int), e = .returned (.tuple #[.int .i64 p, .slice Ao xs.length ca]) ∧ 0 ≤ p ∧ p ≤ 17 ∧ xs.length ≤ 31 ∧ OI w' w.heap.size Ao xs.length ca xs ∧ Rd w' rb A n c cb co N ∧ Keep (Drw rb w.heap.size) w w'
theorem results_tmp4 {fn : Func} {t u v x : Tmp} (h : fn.results = #[.tmp t, .tmp u, .tmp v, .tmp x]) (tmps : Array Value) (P : Program) (w : World) :
    (results fn tmps).run P w = .ok (.tuple #[tmps.getD t undef, tmps.getD u undef, tmps.getD v undef, tmps.getD x undef]) w := by
  simp [results, h]
end Go.Proofs.YtecmclaockmgeaaDoor

/-
  The contracts of the functions that draw primes and numbers: whatever they draw, it is of such a size, and only the reader's own block is written.
-/
import Derived.Test.YtegkmolffemkpaaBase
import Derived.Test.YtegkmolffemkpaaNum
import Derived.Test.YtegkmolffemkpaaPick
import Derived.Outline
import Derived.WalkLawsBesides
namespace Go.Proofs.Ytegkmolffemkpaa
open Go.RowKit
def OpenPost (B : Nat) (w : World) (e : Ending) (w' : World) : Prop :=
  ∃ (rb : Nat) (A : Option Addr) (n c cb co : Nat), e = .returned (.pointer (some ⟨rb, 0, none⟩)) ∧ Rd w' rb A n c cb co 0 ∧ Below B w w' ∧ B ≤ rb ∧ (0 < n → cb < B)
theorem rd_made {w : World} {a : Option Addr} {n c cb co : Nat} {t : TypeId} (hn : n ≤ 2000) (ha : 0 < n → a = some ⟨cb, co, none⟩ ∧ cb < w.heap.size) (hc : ∀ i, i < n → ∃ x : Nat, x < 256 ∧ w.cell? ⟨cb, co + i, none⟩ = some (.int .u8 x)) :
    Rd (w.alloc (.cells #[.slice a n c, .int .i64 0] t)) w.heap.size a n c cb co 0 :=
  ⟨by simp, ⟨0, Nat.le_refl _, by simp⟩, by simp, fun h => (ha h).1, fun i hi => let ⟨x, hx, hxc⟩ := hc i hi; ⟨x, hx, by rw [World.cell?_alloc_lt _ _ _ (cell_lt hxc)]; exact hxc⟩, fun h => by have := (ha h).2; omega, hn⟩
theorem open_any (a : Option Addr) (len cap : Nat) (zs : List Int) (w : World) (h : IsRow .u8 w a len cap zs) :
    Calls Try.prog 48 #[.slice a len cap] w (OpenPost w.heap.size w) := by
  obtain ⟨hl, hm, cb, co, ha, hc⟩ := rowBytes h
  unfold maxLen at hm
  have HA := Lib.hid ha
  have HC := Lib.hid hc
  clear h ha hc
  by_cases hb : 2000 < len
  · obtain ⟨rfl, hcb⟩ := HA.out (by omega)
    go_enter Try.func48, Try.ntmps48
    go_wp2_with (fail)
    go_ret
    exact ⟨_, _, _, _, cb, co, rfl, rd_made (by omega) (fun _ => ⟨rfl, hcb⟩) (fun i hi => HC.out i (by omega)), (Below.refl _ _).alloc (Nat.le_refl _) _, Nat.le_refl _, fun _ => hcb⟩
  · go_enter Try.func48, Try.ntmps48
    go_wp2_with (fail)
    go_ret
    exact ⟨_, _, _, _, cb, co, rfl, rd_made (by omega) HA.out HC.out, (Below.refl _ _).alloc (Nat.le_refl _) _, Nat.le_refl _, fun h => (HA.out h).2⟩
def SomeBool (R : World → Prop) (e : Ending) (w' : World) : Prop := ∃ b : Bool, e = .returned (.bool b) ∧ R w'
theorem odd_any (rb n c cb co N : Nat) (A : Option Addr) (m : Int) (w : World) (h : Rd w rb A n c cb co N) (hN : N ≤ 1000000) (hm : 1 ≤ m) (hm' : m ≤ 1000000) :
    Calls Try.prog 86 #[.pointer (some ⟨rb, 0, none⟩), .int .i64 m] w
      (SomeBool fun w' => Rd w' rb A n c cb co (N + 1) ∧ Keep (· = rb) w w') := by
  have h0 : 0 < m := by omega
  go_enter Try.func86, Try.ntmps86
  go_wp2_with (go_at_call 85; refine (pick_any rb n c cb co N A _ _ h hN).mono ?_; rintro e w1 ⟨j, rfl, hj, hR, hK⟩)
  go_ret
  exact ⟨_, rfl, hR, hK⟩
def PrimePost (Q : Int → Prop) (R : World → Prop) (e : Ending) (w' : World) : Prop := ∃ p : Int, e = .returned (.int .i64 p) ∧ Q p ∧ R w'
theorem tab5 (j : Nat) (h : j < 5) : ∃ q : Int, 0 ≤ q ∧ q ≤ 17 ∧ (#[Value.int .i64 0, .int .i64 1, .int .i64 4, .int .i64 9, .int .i64 17] : Array Value)[j]? = some (.int .i64 q) := by
  match j, h with
  | 0, _ => exact ⟨0, by decide, by decide, rfl⟩
  | 1, _ => exact ⟨1, by decide, by decide, rfl⟩
  | 2, _ => exact ⟨4, by decide, by decide, rfl⟩
  | 3, _ => exact ⟨9, by decide, by decide, rfl⟩
  | 4, _ => exact ⟨17, by decide, by decide, rfl⟩
theorem tab9 (j : Nat) (h : j < 9) : ∃ q : Int, 0 ≤ q ∧ q ≤ 17 ∧ (#[Value.int .i64 2, .int .i64 3, .int .i64 3, .int .i64 5, .int .i64 5, .int .i64 7, .int .i64 7, .int .i64 11, .int .i64 13] : Array Value)[j]? = some (.int .i64 q) := by
  match j, h with
  | 0, _ => exact ⟨2, by decide, by decide, rfl⟩
  | 1, _ => exact ⟨3, by decide, by decide, rfl⟩
  | 2, _ => exact ⟨3, by decide, by decide, rfl⟩
  | 3, _ => exact ⟨5, by decide, by decide, rfl⟩
  | 4, _ => exact ⟨5, by decide, by decide, rfl⟩
  | 5, _ => exact ⟨7, by decide, by decide, rfl⟩
  | 6, _ => exact ⟨7, by decide, by decide, rfl⟩
  | 7, _ => exact ⟨11, by decide, by decide, rfl⟩
  | 8, _ => exact ⟨13, by decide, by decide, rfl⟩
/-- a block that was just made, read behind a later call -/
theorem made_cell {rb : Nat} {w w1 : World} {C : Array Value} {t : TypeId} {j : Nat} {v : Value} (hk : Keep (· = rb) (w.alloc (.cells C t)) w1) (hr : rb < w.heap.size) (hv : C[j]? = some v) : w1.cell? ⟨w.heap.size, j, none⟩ = some v :=
  hk.cell (by rw [World.cell?_alloc_at (w := w) C t w.heap.size j rfl]; exact hv) (by simp; omega)
theorem prime_any (rb n c cb co N : Nat) (A : Option Addr) (m : Int) (w : World) (h : Rd w rb A n c cb co N) (hN : N ≤ 999000) (hm : 1 ≤ m) (hm' : m ≤ 1000000) :
    Calls Try.prog 82 #[.pointer (some ⟨rb, 0, none⟩), .int .i64 m] w
      (PrimePost (fun p => 0 ≤ p ∧ p ≤ 17) fun w' => Rd w' rb A n c cb co (N + 2) ∧ Keep (· = rb) w w') := by
  have hrb := cell_lt h.c0
  simp only at hrb
  go_enter Try.func82, Try.ntmps82
  go_wp2_with (go_at_call 86; refine (odd_any rb n c cb co N A _ _ h (by omega) hm hm').mono ?_; rintro e w1 ⟨b, rfl, hR, hK⟩; have hs := hK.size; rcases b)
  all_goals
    have hRx := fun o => hR.keep ((Keep.refl (fun _ => False) w1).alloc o) (fun h => h) (fun _ h => h)
    go_wp2_with (go_at_call 85; refine (pick_any rb n c cb co (N + 1) A _ _ (hRx _) (by omega)).mono ?_; rintro e w2 ⟨j, rfl, hj, hR2, hK2⟩; have hj := hj (by omega); first | (obtain ⟨q, hq0, hq1, hq⟩ := tab9 j (by omega); have hcell := made_cell hK2 (by omega) hq; clear hq) | (obtain ⟨q, hq0, hq1, hq⟩ := tab5 j (by omega); have hcell := made_cell hK2 (by omega) hq; clear hq))
    go_ret
    exact ⟨q, rfl, ⟨hq0, hq1⟩, hR2, hK.trans (((Keep.refl _ _).alloc _).trans hK2)⟩
theorem tab2 (p : Int) (j : Nat) (h : j < 2) (hp : 0 ≤ p) (hp' : p ≤ 1000000) : ∃ q : Int, -1 ≤ q ∧ q ≤ 1000000 ∧ (#[Value.int .i64 (-1), .int .i64 p] : Array Value)[j]? = some (.int .i64 q) := by
  match j, h with
  | 0, _ => exact ⟨-1, by decide, by decide, rfl⟩
  | 1, _ => exact ⟨p, by omega, by omega, rfl⟩
/-- the post of a call that draws two numbers -/
def Post2 (Q : Int → Int → Prop) (R : World → Prop) (e : Ending) (w' : World) : Prop := ∃ p a : Int, e = .returned (.tuple #[.int .i64 p, .int .i64 a]) ∧ Q p a ∧ R w'
def Post3 (Q : Int → Int → Int → Prop) (R : World → Prop) (e : Ending) (w' : World) : Prop := ∃ p a b : Int, e = .returned (.tuple #[.int .i64 p, .int .i64 a, .int .i64 b]) ∧ Q p a b ∧ R w'
theorem below_of {B rb : Nat} {w w1 w2 : World} (h : Below B w w1) (hk : Keep (· = rb) w1 w2) (hB : B ≤ w.heap.size) (hr : B ≤ rb) : Below B w w2 :=
  h.trans (hk.below (Nat.le_trans hB h.size) (fun k hk => by omega))
end Go.Proofs.Ytegkmolffemkpaa

/-
  The contract of the reader's pick: some number in its range; only the reader's own block is written.
-/
import Derived.Test.YtegkmolffemkpaaBase
import Derived.Test.YtegkmolffemkpaaNum
import Derived.BigQuiet
import Derived.Deep.QuietTactic
import Derived.Outline
import Derived.WalkLawsBesides
namespace Go.Proofs.Ytegkmolffemkpaa
open Go.RowKit
theorem xor_nat (a b : Nat) (ha : a < 4611686018427387904) (hb : b < 4611686018427387904) : 0 ≤ bits BinOp.xor IntKind.i64 (a : Int) (b : Int) := by
  have e1 : BitVec.ofInt 64 (a : Int) = BitVec.ofNat 64 a := rfl
  have e2 : BitVec.ofInt 64 (b : Int) = BitVec.ofNat 64 b := rfl
  have hx : a ^^^ b < 4611686018427387904 := Nat.xor_lt_two_pow (n := 62) ha hb
  show 0 ≤ IntKind.i64.wrap ((BitVec.ofInt 64 (a : Int) ^^^ BitVec.ofInt 64 (b : Int)).toNat : Int)
  rw [e1, e2, BitVec.toNat_xor, BitVec.toNat_ofNat, BitVec.toNat_ofNat, Nat.mod_eq_of_lt (by omega), Nat.mod_eq_of_lt (by omega), IntWalk.i64_in _ (by omega)]
  omega
theorem xor_pos {a b : Int} (ha : 0 ≤ a) (ha' : a < 4611686018427387904) (hb : 0 ≤ b) (hb' : b < 4611686018427387904) : 0 ≤ bits BinOp.xor IntKind.i64 a b := by
  obtain ⟨x, rfl⟩ := Int.eq_ofNat_of_zero_le ha
  obtain ⟨y, rfl⟩ := Int.eq_ofNat_of_zero_le hb
  exact xor_nat x y (by omega) (by omega)
/-- the post of a call that returns some number from 0 on -/
def SomeNat (Q : Nat → Prop) (R : World → Prop) (e : Ending) (w' : World) : Prop := ∃ j : Nat, e = .returned (.int .i64 (j : Int)) ∧ Q j ∧ R w'
theorem someNat {Q : Nat → Prop} {R : World → Prop} {w' : World} (i : Int) (h0 : 0 ≤ i) (hq : Q i.toNat) (hr : R w') : SomeNat Q R (.returned (.int .i64 i)) w' :=
  ⟨i.toNat, by rw [Int.toNat_of_nonneg h0], hq, hr⟩
theorem pick_any (rb n c cb co N : Nat) (A : Option Addr) (m : Int) (w : World) (h : Rd w rb A n c cb co N) (hN : N ≤ 1000000) :
    Calls Try.prog 85 #[.pointer (some ⟨rb, 0, none⟩), .int .i64 m] w
      (SomeNat (fun j => 1 ≤ m → (j : Int) < m) fun w' => Rd w' rb A n c cb co (N + 1) ∧ Keep (· = rb) w w') := by
  have HR := Lib.hid h
  obtain ⟨c0, ⟨k, hk, c1⟩, f1, ha, hcell, hne, hsm⟩ := h
  by_cases hm : m < 1
  · clear ha hcell hne
    go_enter Try.func85, Try.ntmps85
    go_wp2_with (fail)
    go_ret
    exact someNat 0 (by omega) (by intro _; omega) (HR.out.step hk)
  · by_cases hn : n = 0
    · subst hn
      clear ha hcell hne
      go_enter Try.func85, Try.ntmps85
      go_wp2_with (fail)
      go_ret
      exact someNat 0 (by omega) (by first | (intro _; simp; omega) | (simp; omega)) (HR.out.step hk)
    · have hn0 : 0 < n := by omega
      obtain rfl := ha hn0
      have hne' := hne hn0
      have hz : ((n : Int) == 0) = false := by simp; omega
      clear hn ha hne
      by_cases hkn : k < n
      · obtain ⟨x, hx, hxc⟩ := hcell k hkn
        clear hcell
        go_enter Try.func85, Try.ntmps85
        go_wp2_with (fail)
        go_ret
        have he : 0 ≤ (x : Int) % m := Int.emod_nonneg _ (by omega)
        have he2 : (x : Int) % m < m := Int.emod_lt_of_pos _ (by omega)
        exact someNat ((x : Int) % m) he (by first | (intro _; omega) | omega) (HR.out.step hk)
      · obtain ⟨i, hi, ei⟩ : ∃ i : Nat, i < n ∧ k % n = i := ⟨k % n, Nat.mod_lt _ hn0, rfl⟩
        have q1 : (k : Int).tmod (n : Int) = (i : Int) := by rw [← ei]; exact (Int.ofNat_tmod k n).symm
        obtain ⟨x, hx, hxc⟩ := hcell i hi
        obtain ⟨y, hy, hyc⟩ := hcell ((k * 7 + 3) % n) (Nat.mod_lt _ hn0)
        have m1 : 0 ≤ ((k : Int) * 7 + 3) % (n : Int) := Int.emod_nonneg _ (by omega)
        have m2 : ((k : Int) * 7 + 3) % (n : Int) < (n : Int) := Int.emod_lt_of_pos _ (by omega)
        have d1 : 0 ≤ (k : Int) / (n : Int) := Int.ediv_nonneg (by omega) (by omega)
        have d2 : (k : Int) / (n : Int) ≤ (k : Int) := Int.ediv_le_self _ (by omega)
        have HM := Lib.hid (show 1 ≤ m by omega)
        clear hcell ei
        go_enter Try.func85, Try.ntmps85
        go_wp2_with (fail)
        refine wp_region_quiet_lit (by kernel_rfl) (by kernel_rfl) ?_
        repeat (go_big_quiet_step (fail))
        refine wpQuiet_nil ?_
        intro _ hw'
        obtain ⟨nq, hw''⟩ := hw'
        subst hw''
        go_wp2_with (fail)
        go_ret
        have hX : 0 ≤ bits BinOp.xor IntKind.i64 ((x : Int) * 131 + (y : Int) * 1117 + (k : Int) * 29 + (k : Int) / (n : Int) * 53) (((x : Int) * 131 + (y : Int) * 1117 + (k : Int) * 29 + (k : Int) / (n : Int) * 53) / 64) := xor_pos (by omega) (by omega) (by omega) (by omega)
        have hm1 := HM.out
        rw [Int.tmod_eq_emod_of_nonneg hX]
        have he : 0 ≤ (bits BinOp.xor IntKind.i64 ((x : Int) * 131 + (y : Int) * 1117 + (k : Int) * 29 + (k : Int) / (n : Int) * 53) (((x : Int) * 131 + (y : Int) * 1117 + (k : Int) * 29 + (k : Int) / (n : Int) * 53) / 64)) % m := Int.emod_nonneg _ (by omega)
        have he2 : (bits BinOp.xor IntKind.i64 ((x : Int) * 131 + (y : Int) * 1117 + (k : Int) * 29 + (k : Int) / (n : Int) * 53) (((x : Int) * 131 + (y : Int) * 1117 + (k : Int) * 29 + (k : Int) / (n : Int) * 53) / 64)) % m < m := Int.emod_lt_of_pos _ (by omega)
        exact someNat _ he (by first | (intro _; omega) | omega) ⟨(HR.out.step hk).1.drewN _, (HR.out.step hk).2.drewN _⟩
end Go.Proofs.Ytegkmolffemkpaa

/-
  The walk of the exact law of GuessOf.
-/
import Derived.Deep.RegionHeld3
import Derived.Test.YtcjpjcigjljplaaGuZ
import Derived.Test.YtcjpjcigjljplaaEx
namespace Go.Proofs.Ytcjpjcigjljplaa
open Go.RowKit
set_option maxRecDepth 100000 in
set_option maxHeartbeats 2000000 in
set_option linter.unusedVariables false in
theorem walkFnExactGuessOf (a0 : Int) (a1 : Option Addr) (len1 cap1 : Nat) (z1 : List Int) (a2 : Int) (w : World) (w0 : (Lit.int .i64 a0).wf = true) (w1 : IsRow .i64 w a1 len1 cap1 z1) (w2 : (Lit.int .i64 a2).wf = true) :
    Calls Try.prog 8 #[.int .i64 a0, .slice a1 len1 cap1, .int .i64 a2] w fun e w' => e = .returned (.bool true) ∧ Below w.heap.size w w' := by
  obtain ⟨b1, o1, hR1⟩ := w1.ia
  obtain ⟨M1, hM1⟩ : ∃ M, z1.take len1 = M := ⟨_, rfl⟩
  rw [hM1] at hR1
  have hbg1 := hR1.big
  have H1 := Lib.hid hR1
  clear hR1 hM1
  clear w0 w1 w2
  go_enter Try.func8, Try.ntmps8
  have hBw0 := Below.refl w.heap.size w
  by_cases hn1 : len1 ≤ 1048576
  case neg =>
    have hg1 : decide (1048576 < (len1 : Int)) = true := decide_eq_true (by omega)
    go_wp2_with (fail)
    go_ret
    exact ⟨rfl, Below.refl _ _⟩
  have hg1 : decide (1048576 < (len1 : Int)) = false := decide_eq_false (by omega)
  obtain ⟨RV0, hRV⟩ : ∃ RV, guessR a0 M1 a2 = RV := ⟨_, rfl⟩
  obtain ⟨E1, hE1⟩ : ∃ E, RV0.1 = E := ⟨_, rfl⟩
  obtain ⟨E2, hE2⟩ : ∃ E, RV0.2 = E := ⟨_, rfl⟩
  have hq1 : (E1 != E1) = false := by simp
  have hq2 : (E2 != E2) = false := by cases E2 <;> rfl
  have HE1 := Lib.hid hE1
  have HE2 := Lib.hid hE2
  clear hE1 hE2
  have HRV := Lib.hid hRV
  clear hRV
  go_wp2_with (fail)
  refine (toIntS a1 len1 cap1 b1 o1 M1 _ (H1.out.below hBw0) hn1).mono ?_
  rintro e ws1 ⟨As1, cs1, rfl, hO, hN⟩
  have hBw_1 := below_more hBw0 hN
  clear hBw0
  have hzws1 := hN.size
  clear hN
  have hcaps1 := OI.capLe hO
  have HLs1 := Lib.hid (show ∀ g, (Value.slice As1 len1 cs1).ownBlock = some g → _ from fun g hg => hO.lt g hg)
  have HOs1 := Lib.hid hO
  obtain ⟨bs1, hRa⟩ := hO.ia
  have HRs1 := Lib.hid hRa
  clear hO hRa
  have hBws1_2 := Below.refl ws1.heap.size ws1
  go_wp2_with (fail)
  refine (specGuessOf a0 As1 len1 cs1 bs1 0 M1 a2 _ (HRs1.out.below hBws1_2) hcaps1).mono ?_
  rw [HRV.out]
  rintro e wb ⟨rfl, hN⟩
  rw [HE1.out, HE2.out]
  have hBw_3 := below_more hBw_1 hN
  clear hBw_1
  have hBws1_3 := below_more hBws1_2 hN
  clear hBws1_2
  have hzwb := hN.size
  clear hN
  go_wp2_with (fail)
  refine (toIntS a1 len1 cap1 b1 o1 M1 _ (H1.out.below hBw_3) hn1).mono ?_
  rintro e wx1 ⟨Ax1, cx1, rfl, hO, hN⟩
  have hBw_4 := below_more hBw_3 hN
  clear hBw_3
  have hzwx1 := hN.size
  clear hN
  have hcapx1 := OI.capLe hO
  have HLx1 := Lib.hid (show ∀ g, (Value.slice Ax1 len1 cx1).ownBlock = some g → _ from fun g hg => hO.lt g hg)
  have HOx1 := Lib.hid hO
  obtain ⟨bx1, hRa⟩ := hO.ia
  have HRx1 := Lib.hid hRa
  clear hO hRa
  have hBwx1_5 := Below.refl wx1.heap.size wx1
  go_wp2_with (fail)
  refine (implGuessOf a0 Ax1 len1 cx1 bx1 0 M1 a2 _ (HRx1.out.below hBwx1_5) hcapx1).mono ?_
  rw [HRV.out]
  rintro e wd ⟨rfl, hN⟩
  rw [HE1.out, HE2.out]
  have hBw_6 := below_more hBw_4 hN
  clear hBw_4
  have hBwx1_6 := below_more hBwx1_5 hN
  clear hBwx1_5
  have hzwd := hN.size
  clear hN
  go_wp2_with (fail)
  refine (toIntS a1 len1 cap1 b1 o1 M1 _ (H1.out.below hBw_6) hn1).mono ?_
  rintro e wf1 ⟨Af1, cf1, rfl, hO, hN⟩
  have hBw_7 := below_more hBw_6 hN
  clear hBw_6
  have hBwx1_7 := below_more hBwx1_6 hN
  clear hBwx1_6
  have hzwf1 := hN.size
  clear hN
  have hcapf1 := OI.capLe hO
  have HLf1 := Lib.hid (show ∀ g, (Value.slice Af1 len1 cf1).ownBlock = some g → _ from fun g hg => hO.lt g hg)
  have HOf1 := Lib.hid hO
  obtain ⟨bf1, hRa⟩ := hO.ia
  have HRf1 := Lib.hid hRa
  clear hO hRa
  have hBwf1_8 := Below.refl wf1.heap.size wf1
  go_wp2_with (fail)
  refine (eqIntS Ax1 len1 cx1 bx1 0 M1 Af1 len1 cf1 bf1 0 M1 _ (HRx1.out.below hBwx1_7) (HRf1.out.below hBwf1_8)).mono ?_
  rintro e we9 ⟨rfl, hm⟩
  rw [decide_eq_true (rfl : M1 = M1)]
  have hN := below_drawn (Below.refl wf1.heap.size wf1) hm
  clear hm
  have hBw_10 := below_more hBw_7 hN
  clear hBw_7
  have hBwx1_10 := below_more hBwx1_7 hN
  clear hBwx1_7
  have hBwf1_10 := below_more hBwf1_8 hN
  clear hBwf1_8
  have hzwe9 := hN.size
  clear hN
  go_wp2_with (fail)
  go_ret
  exact ⟨rfl, hBw_10⟩
end Go.Proofs.Ytcjpjcigjljplaa

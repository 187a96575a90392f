/-
  The walk of the exact law of PolyAt.
-/
import Derived.Test.YtmmadmfpbancmabIAt
import Derived.Test.YtmmadmfpbancmabCopy
import Derived.Test.YtmmadmfpbancmabEq
namespace Go.Proofs.Ytmmadmfpbancmab
open Go.RowKit
set_option maxRecDepth 100000 in
set_option maxHeartbeats 800000 in
set_option linter.unusedVariables false in
theorem walkFnExactPolyAt (a0 : Int) (a1 : Option Addr) (len1 cap1 : Nat) (z1 : List Int) (a2 : Int) (w : World) (w0 : (Lit.int .i64 a0).wf = true) (w1 : IsRow .i64 w a1 len1 cap1 z1) (w2 : (Lit.int .i64 a2).wf = true) :
    Calls Try.prog 4 #[.int .i64 a0, .slice a1 len1 cap1, .int .i64 a2] w fun e w' => e = .returned (.bool true) ∧ Below w.heap.size w w' := by
  obtain ⟨b1, o1, hR1⟩ := w1.ia
  obtain ⟨M1, hM1⟩ : ∃ M, z1.take len1 = M := ⟨_, rfl⟩
  rw [hM1] at hR1
  have hbg1 := hR1.big
  have H1 := Lib.hid hR1
  clear w0 w1 w2 hR1
  go_enter Try.func4, Try.ntmps4
  by_cases hn1 : len1 ≤ 1048576
  case neg =>
    have hg1 : decide (1048576 < (len1 : Int)) = true := decide_eq_true (by omega)
    go_wp2_with (fail)
    go_ret
    exact ⟨rfl, Below.refl _ _⟩
  have hg1 : decide (1048576 < (len1 : Int)) = false := decide_eq_false (by omega)
  obtain ⟨RV, hRV⟩ : ∃ RV, polAt a0 M1 a2 = RV := ⟨_, rfl⟩
  have hqb : (RV != RV) = false := by simp
  have hrb := polAt_bd a0 M1 a2
  rw [hRV] at hrb
  have HRV := Lib.hid hRV
  clear hRV
  have hBw0 := Below.refl w.heap.size w
  go_wp2_with (fail)
  refine (toIntS a1 len1 cap1 b1 o1 M1 _ (H1.out.below hBw0) hn1).mono ?_
  rintro e ws1 ⟨As1, cs1, rfl, hO, hN⟩
  have hBw1 := below_more hBw0 hN
  have hzws1 := hN.size
  clear hN
  have HLs1 := Lib.hid (show ∀ g, (Value.slice As1 len1 cs1).ownBlock = some g → _ from fun g hg => hO.lt g hg)
  have HOs1 := Lib.hid hO
  obtain ⟨bs1, hRa⟩ := hO.ia
  have HRs1 := Lib.hid hRa
  clear hO hRa
  have hBws12 := Below.refl ws1.heap.size ws1
  go_wp2_with (fail)
  refine (specPolyAt a0 As1 len1 cs1 bs1 0 M1 a2 _ (HRs1.out.below hBws12)).mono ?_
  rw [HRV.out]
  rintro e wb ⟨rfl, hN⟩
  have hBw3 := below_more hBw1 hN
  have hBws13 := below_more hBws12 hN
  have hzwb := hN.size
  clear hN
  go_wp2_with (fail)
  refine (toIntS a1 len1 cap1 b1 o1 M1 _ (H1.out.below hBw3) hn1).mono ?_
  rintro e wx1 ⟨Ax1, cx1, rfl, hO, hN⟩
  have hBw4 := below_more hBw3 hN
  have hzwx1 := hN.size
  clear hN
  have HLx1 := Lib.hid (show ∀ g, (Value.slice Ax1 len1 cx1).ownBlock = some g → _ from fun g hg => hO.lt g hg)
  have HOx1 := Lib.hid hO
  obtain ⟨bx1, hRa⟩ := hO.ia
  have HRx1 := Lib.hid hRa
  clear hO hRa
  have hBwx15 := Below.refl wx1.heap.size wx1
  go_wp2_with (fail)
  refine (implPolyAt a0 Ax1 len1 cx1 bx1 0 M1 a2 _ (HRx1.out.below hBwx15)).mono ?_
  rw [HRV.out]
  rintro e wd ⟨rfl, hN⟩
  have hBw6 := below_more hBw4 hN
  have hBwx16 := below_more hBwx15 hN
  have hzwd := hN.size
  clear hN
  go_wp2_with (fail)
  refine (toIntS a1 len1 cap1 b1 o1 M1 _ (H1.out.below hBw6) hn1).mono ?_
  rintro e wf1 ⟨Af1, cf1, rfl, hO, hN⟩
  have hBw7 := below_more hBw6 hN
  have hBwx17 := below_more hBwx16 hN
  have hzwf1 := hN.size
  clear hN
  have HLf1 := Lib.hid (show ∀ g, (Value.slice Af1 len1 cf1).ownBlock = some g → _ from fun g hg => hO.lt g hg)
  have HOf1 := Lib.hid hO
  obtain ⟨bf1, hRa⟩ := hO.ia
  have HRf1 := Lib.hid hRa
  clear hO hRa
  have hBwf18 := Below.refl wf1.heap.size wf1
  go_wp2_with (fail)
  refine (eqIntS Ax1 len1 cx1 bx1 0 M1 Af1 len1 cf1 bf1 0 M1 _ (HRx1.out.below hBwx17) (HRf1.out.below hBwf18)).mono ?_
  rintro e we9 ⟨rfl, hm⟩
  rw [decide_eq_true (rfl : M1 = M1)]
  have hBw10 := below_drawn hBw7 hm
  have hBwx110 := below_drawn hBwx17 hm
  have hBwf110 := below_drawn hBwf18 hm
  clear hm
  go_wp2_with (fail)
  go_ret
  exact ⟨rfl, hBw10⟩
end Go.Proofs.Ytmmadmfpbancmab

/-
  The walk of the exact law of WordOk.
-/
import Derived.Test.YtegkmolffemkpaaWord
import Derived.Test.YtegkmolffemkpaaCopy
import Derived.Test.YtegkmolffemkpaaEq
namespace Go.Proofs.Ytegkmolffemkpaa
open Go.RowKit
set_option maxRecDepth 100000 in
set_option maxHeartbeats 800000 in
set_option linter.unusedVariables false in
theorem walkFnExactWordOk (a0 : Option Addr) (len0 cap0 : Nat) (z0 : List Int) (w : World) (w0 : IsRow .i64 w a0 len0 cap0 z0) :
    Calls Try.prog 6 #[.slice a0 len0 cap0] w fun e w' => e = .returned (.bool true) ∧ Below w.heap.size w w' := by
  obtain ⟨b0, o0, hR0⟩ := w0.ia
  obtain ⟨M0, hM0⟩ : ∃ M, z0.take len0 = M := ⟨_, rfl⟩
  rw [hM0] at hR0
  have hbg0 := hR0.big
  have H0 := Lib.hid hR0
  clear w0 hR0
  go_enter Try.func6, Try.ntmps6
  by_cases hn0 : len0 ≤ 1048576
  case neg =>
    have hg0 : decide (1048576 < (len0 : Int)) = true := decide_eq_true (by omega)
    go_wp2_with (fail)
    go_ret
    exact ⟨rfl, Below.refl _ _⟩
  have hg0 : decide (1048576 < (len0 : Int)) = false := decide_eq_false (by omega)
  obtain ⟨RV, hRV⟩ : ∃ RV, wordB M0 = RV := ⟨_, rfl⟩
  have hqb : (RV != RV) = false := by cases RV <;> rfl
  have HRV := Lib.hid hRV
  clear hRV
  have hBw0 := Below.refl w.heap.size w
  go_wp2_with (fail)
  refine (toIntS a0 len0 cap0 b0 o0 M0 _ (H0.out.below hBw0) hn0).mono ?_
  rintro e ws0 ⟨As0, cs0, rfl, hO, hN⟩
  have hBw1 := below_more hBw0 hN
  have hzws0 := hN.size
  clear hN
  have HLs0 := Lib.hid (show ∀ g, (Value.slice As0 len0 cs0).ownBlock = some g → _ from fun g hg => hO.lt g hg)
  have HOs0 := Lib.hid hO
  obtain ⟨bs0, hRa⟩ := hO.ia
  have HRs0 := Lib.hid hRa
  clear hO hRa
  have hBws02 := Below.refl ws0.heap.size ws0
  go_wp2_with (fail)
  refine (specWordOk As0 len0 cs0 bs0 0 M0 _ (HRs0.out.below hBws02)).mono ?_
  rw [HRV.out]
  rintro e wb ⟨rfl, hN⟩
  have hBw3 := below_more hBw1 hN
  have hBws03 := below_more hBws02 hN
  have hzwb := hN.size
  clear hN
  go_wp2_with (fail)
  refine (toIntS a0 len0 cap0 b0 o0 M0 _ (H0.out.below hBw3) hn0).mono ?_
  rintro e wx0 ⟨Ax0, cx0, rfl, hO, hN⟩
  have hBw4 := below_more hBw3 hN
  have hzwx0 := hN.size
  clear hN
  have HLx0 := Lib.hid (show ∀ g, (Value.slice Ax0 len0 cx0).ownBlock = some g → _ from fun g hg => hO.lt g hg)
  have HOx0 := Lib.hid hO
  obtain ⟨bx0, hRa⟩ := hO.ia
  have HRx0 := Lib.hid hRa
  clear hO hRa
  have hBwx05 := Below.refl wx0.heap.size wx0
  go_wp2_with (fail)
  refine (implWordOk Ax0 len0 cx0 bx0 0 M0 _ (HRx0.out.below hBwx05)).mono ?_
  rw [HRV.out]
  rintro e wd ⟨rfl, hN⟩
  have hBw6 := below_more hBw4 hN
  have hBwx06 := below_more hBwx05 hN
  have hzwd := hN.size
  clear hN
  go_wp2_with (fail)
  refine (toIntS a0 len0 cap0 b0 o0 M0 _ (H0.out.below hBw6) hn0).mono ?_
  rintro e wf0 ⟨Af0, cf0, rfl, hO, hN⟩
  have hBw7 := below_more hBw6 hN
  have hBwx07 := below_more hBwx06 hN
  have hzwf0 := hN.size
  clear hN
  have HLf0 := Lib.hid (show ∀ g, (Value.slice Af0 len0 cf0).ownBlock = some g → _ from fun g hg => hO.lt g hg)
  have HOf0 := Lib.hid hO
  obtain ⟨bf0, hRa⟩ := hO.ia
  have HRf0 := Lib.hid hRa
  clear hO hRa
  have hBwf08 := Below.refl wf0.heap.size wf0
  go_wp2_with (fail)
  refine (eqIntS Ax0 len0 cx0 bx0 0 M0 Af0 len0 cf0 bf0 0 M0 _ (HRx0.out.below hBwx07) (HRf0.out.below hBwf08)).mono ?_
  rintro e we9 ⟨rfl, hm⟩
  rw [decide_eq_true (rfl : M0 = M0)]
  have hBw10 := below_drawn hBw7 hm
  have hBwx010 := below_drawn hBwx07 hm
  have hBwf010 := below_drawn hBwf08 hm
  clear hm
  go_wp2_with (fail)
  go_ret
  exact ⟨rfl, hBw10⟩
end Go.Proofs.Ytegkmolffemkpaa

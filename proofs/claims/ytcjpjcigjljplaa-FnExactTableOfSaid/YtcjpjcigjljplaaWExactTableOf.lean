/-
  The walk of the exact law of TableOf.
-/
import Derived.Test.YtcjpjcigjljplaaTab
import Derived.Test.YtcjpjcigjljplaaEx
namespace Go.Proofs.Ytcjpjcigjljplaa
open Go.RowKit
set_option maxRecDepth 100000 in
set_option maxHeartbeats 800000 in
set_option linter.unusedVariables false in
theorem walkFnExactTableOf (a0 : Int) (a1 : Option Addr) (len1 cap1 : Nat) (z1 : List Int) (a2 : Int) (a3 : Int) (w : World) (w0 : (Lit.int .i64 a0).wf = true) (w1 : IsRow .i64 w a1 len1 cap1 z1) (w2 : (Lit.int .i64 a2).wf = true) (w3 : (Lit.int .i64 a3).wf = true) :
    Calls Try.prog 4 #[.int .i64 a0, .slice a1 len1 cap1, .int .i64 a2, .int .i64 a3] w fun e w' => e = .returned (.bool true) ∧ Below w.heap.size w w' := by
  obtain ⟨b1, o1, hR1⟩ := w1.ia
  obtain ⟨M1, hM1⟩ : ∃ M, z1.take len1 = M := ⟨_, rfl⟩
  rw [hM1] at hR1
  have hbg1 := hR1.big
  have H1 := Lib.hid hR1
  clear w0 w1 w2 w3 hR1
  go_enter Try.func4, Try.ntmps4
  by_cases hn1 : len1 ≤ 1048576
  case neg =>
    have hg1 : decide (1048576 < (len1 : Int)) = true := decide_eq_true (by omega)
    go_wp2_with (fail)
    go_ret
    exact ⟨rfl, Below.refl _ _⟩
  have hg1 : decide (1048576 < (len1 : Int)) = false := decide_eq_false (by omega)
  obtain ⟨RV, hRV⟩ : ∃ RV, tabR a0 M1 a2 a3 = RV := ⟨_, rfl⟩
  have hbd := tabR_bd a0 M1 a2 a3
  rw [hRV] at hbd
  obtain ⟨RS, hRS⟩ : ∃ RS, RV = RS := ⟨_, rfl⟩
  rw [hRS] at hRV hbd
  clear hRS
  have HRV := Lib.hid hRV
  clear hRV
  have hBw0 := Below.refl w.heap.size w
  go_wp2_with (fail)
  refine (toIntS a1 len1 cap1 b1 o1 M1 _ (H1.out.below hBw0) hn1).mono ?_
  rintro e ws1 ⟨As1, cs1, rfl, hO, hN⟩
  have hBw1 := below_more hBw0 hN
  have hzws1 := hN.size
  clear hN
  have hcaps1 := OI.capLe hO
  have HLs1 := Lib.hid (show ∀ g, (Value.slice As1 len1 cs1).ownBlock = some g → _ from fun g hg => hO.lt g hg)
  have HOs1 := Lib.hid hO
  obtain ⟨bs1, hRa⟩ := hO.ia
  have HRs1 := Lib.hid hRa
  clear hO hRa
  have hBws12 := Below.refl ws1.heap.size ws1
  go_wp2_with (fail)
  refine (specTableOfG a0 As1 len1 cs1 bs1 0 M1 a2 a3 _ (HRs1.out.below hBws12) hcaps1).mono ?_
  rw [HRV.out]
  rintro e wb ⟨As, cs, bs, os, rfl, hS, hN⟩
  have hBw3 := below_more hBw1 hN
  have hBws13 := below_more hBws12 hN
  have hzwb := hN.size
  clear hN
  have HS := Lib.hid hS
  clear hS
  have hBwb4 := Below.refl wb.heap.size wb
  go_wp2_with (fail)
  refine (toIntS a1 len1 cap1 b1 o1 M1 _ (H1.out.below hBw3) hn1).mono ?_
  rintro e wx1 ⟨Ax1, cx1, rfl, hO, hN⟩
  have hBw5 := below_more hBw3 hN
  have hBwb5 := below_more hBwb4 hN
  have hzwx1 := hN.size
  clear hN
  have hcapx1 := OI.capLe hO
  have HLx1 := Lib.hid (show ∀ g, (Value.slice Ax1 len1 cx1).ownBlock = some g → _ from fun g hg => hO.lt g hg)
  have HOx1 := Lib.hid hO
  obtain ⟨bx1, hRa⟩ := hO.ia
  have HRx1 := Lib.hid hRa
  clear hO hRa
  have hBwx16 := Below.refl wx1.heap.size wx1
  go_wp2_with (fail)
  refine (implTableOfG a0 Ax1 len1 cx1 bx1 0 M1 a2 a3 _ (HRx1.out.below hBwx16) hcapx1).mono ?_
  rw [HRV.out]
  rintro e wd ⟨Ag, cg, vg, rfl, hO, hN⟩
  have hBw7 := below_more hBw5 hN
  have hBwb7 := below_more hBwb5 hN
  have hBwx17 := below_more hBwx16 hN
  have hzwd := hN.size
  clear hN
  obtain ⟨bg, hRa⟩ := hO.ra
  have HRg := Lib.hid hRa
  have HOg := Lib.hid hO
  have HFg := hO.foot
  clear hO hRa
  have hBwd8 := Below.refl wd.heap.size wd
  go_wp2_with (fail)
  refine (eqIntSS Ag RS.length cg bg 0 RS As RS.length cs bs os RS _ (HRg.out.below hBwd8) (HS.out.below hBwb7)).mono ?_
  rintro e we9 ⟨rfl, hm⟩
  rw [decide_eq_true (rfl : RS = RS)]
  have hBw10 := below_drawn hBw7 hm
  have hBwb10 := below_drawn hBwb7 hm
  have hBwx110 := below_drawn hBwx17 hm
  have hBwd10 := below_drawn hBwd8 hm
  clear hm
  go_wp2_with (fail)
  refine (toIntS a1 len1 cap1 b1 o1 M1 _ (H1.out.below hBw10) hn1).mono ?_
  rintro e wf1 ⟨Af1, cf1, rfl, hO, hN⟩
  have hBw11 := below_more hBw10 hN
  have hBwb11 := below_more hBwb10 hN
  have hBwx111 := below_more hBwx110 hN
  have hBwd11 := below_more hBwd10 hN
  have hzwf1 := hN.size
  clear hN
  have hcapf1 := OI.capLe hO
  have HLf1 := Lib.hid (show ∀ g, (Value.slice Af1 len1 cf1).ownBlock = some g → _ from fun g hg => hO.lt g hg)
  have HOf1 := Lib.hid hO
  obtain ⟨bf1, hRa⟩ := hO.ia
  have HRf1 := Lib.hid hRa
  clear hO hRa
  have hBwf112 := Below.refl wf1.heap.size wf1
  go_wp2_with (fail)
  refine (eqIntS Ax1 len1 cx1 bx1 0 M1 Af1 len1 cf1 bf1 0 M1 _ (HRx1.out.below hBwx111) (HRf1.out.below hBwf112)).mono ?_
  rintro e we13 ⟨rfl, hm⟩
  rw [decide_eq_true (rfl : M1 = M1)]
  have hBw14 := below_drawn hBw11 hm
  have hBwb14 := below_drawn hBwb11 hm
  have hBwx114 := below_drawn hBwx111 hm
  have hBwd14 := below_drawn hBwd11 hm
  have hBwf114 := below_drawn hBwf112 hm
  clear hm
  go_wp2_with (fail)
  have hown := OIb HOx1.out hBwx114
  refine (markIntS wb.heap.size Ax1 len1 cx1 M1 (1) _ hown (by omega) (by omega)).mono ?_
  rintro e wm1 ⟨rfl, _, hK0⟩
  have hK := hK0.mono (T := fun g => wb.heap.size ≤ g ∧ g < wx1.heap.size) (fun g _ hg => HLx1.out g hg)
  clear hK0 hown
  have hzzwm1 := hK.size
  have hX := hK.below (B := wb.heap.size) (by have h1 := (hBwb14).size; omega) (fun k hk => by omega)
  have hBwb15 := (hBwb14).trans hX
  have hBw15 := (hBw14).trans (hX.mono (by omega))
  have hOg := (HOg.out.below hBwd14).keep hK (fun g hg _ hs => by omega)
  obtain ⟨bg0, hRa⟩ := hOg.ra
  clear HOg HRg
  have HOg := Lib.hid hOg
  have HRg := Lib.hid hRa
  clear hOg hRa hK hX
  have hBwd_16 := Below.refl wm1.heap.size wm1
  have hpos : 0 ≤ 1 + (len1 : Int) := by omega
  go_wp2_with (fail)
  refine (eqIntSS Ag RS.length cg bg0 0 RS As RS.length cs bs os RS _ (HRg.out.below hBwd_16) (HS.out.below hBwb15)).mono ?_
  rintro e we17 ⟨rfl, hm⟩
  rw [decide_eq_true (rfl : RS = RS)]
  have hBw18 := below_drawn hBw15 hm
  have hBwb18 := below_drawn hBwb15 hm
  have hBwd18 := below_drawn hBwd_16 hm
  clear hm
  go_wp2_with (fail)
  refine (markIntSS wx1.heap.size wd.heap.size Ag RS.length cg RS vg 1 _ (HOg.out.below hBwd18) HFg (by omega) (by omega)).mono ?_
  rintro e wj ⟨rfl, hO, hK⟩
  have hX := hK.below (B := wb.heap.size) (by have h1 := (hBwb18).size; omega) (fun k hk => by omega)
  have hBwb19 := (hBwb18).trans hX
  have hBw19 := (hBw18).trans (hX.mono (by omega))
  obtain ⟨bj, hRa⟩ := hO.ra
  have HRj := Lib.hid hRa
  clear hO hRa hK hX
  have hBwj20 := Below.refl wj.heap.size wj
  go_wp2_with (fail)
  refine (heldIntSS Ag RS.length cg bj 0 1 RS _ (HRj.out.below hBwj20) (by omega) (by omega)).mono ?_
  rintro e w' ⟨rfl, rfl⟩
  have hqg : ((1 + (tot RS : Int)) != (1 + (tot RS : Int))) = false := by simp
  have hposg : 0 ≤ 1 + (tot RS : Int) := by omega
  go_wp2_with (fail)
  refine (toIntS a1 len1 cap1 b1 o1 M1 _ (H1.out.below hBw19) hn1).mono ?_
  rintro e wy1 ⟨Ay1, cy1, rfl, hO, hN⟩
  have hBw21 := below_more hBw19 hN
  have hBwb21 := below_more hBwb19 hN
  have hBwj21 := below_more hBwj20 hN
  have hzwy1 := hN.size
  clear hN
  have hcapy1 := OI.capLe hO
  have HLy1 := Lib.hid (show ∀ g, (Value.slice Ay1 len1 cy1).ownBlock = some g → _ from fun g hg => hO.lt g hg)
  have HOy1 := Lib.hid hO
  obtain ⟨by1, hRa⟩ := hO.ia
  have HRy1 := Lib.hid hRa
  clear hO hRa
  have hBwy122 := Below.refl wy1.heap.size wy1
  go_wp2_with (fail)
  refine (implTableOfG a0 Ay1 len1 cy1 by1 0 M1 a2 a3 _ (HRy1.out.below hBwy122) hcapy1).mono ?_
  rw [HRV.out]
  rintro e wl ⟨Al, cl, vl, rfl, hO, hN⟩
  have hBw23 := below_more hBw21 hN
  have hBwb23 := below_more hBwb21 hN
  have hBwj23 := below_more hBwj21 hN
  have hBwy123 := below_more hBwy122 hN
  have hzwl := hN.size
  clear hN
  obtain ⟨bl, hRa⟩ := hO.ra
  have HRl := Lib.hid hRa
  clear hO hRa
  have hBwl24 := Below.refl wl.heap.size wl
  go_wp2_with (fail)
  refine (eqIntSS Al RS.length cl bl 0 RS As RS.length cs bs os RS _ (HRl.out.below hBwl24) (HS.out.below hBwb23)).mono ?_
  rintro e we25 ⟨rfl, hm⟩
  rw [decide_eq_true (rfl : RS = RS)]
  have hBw26 := below_drawn hBw23 hm
  have hBwb26 := below_drawn hBwb23 hm
  have hBwj26 := below_drawn hBwj23 hm
  have hBwy126 := below_drawn hBwy123 hm
  have hBwl26 := below_drawn hBwl24 hm
  clear hm
  go_wp2_with (fail)
  refine (heldIntSS Ag RS.length cg bj 0 1 RS _ (HRj.out.below hBwj26) (by omega) (by omega)).mono ?_
  rintro e w' ⟨rfl, rfl⟩
  go_wp2_with (fail)
  go_ret
  exact ⟨rfl, hBw26⟩
end Go.Proofs.Ytcjpjcigjljplaa

/-
  The walk of the exact law of MatSolve.
-/
import Derived.Test.YtpelokdgjdljfabSolS
namespace Go.Proofs.Ytpelokdgjdljfab
open Go.RowKit
set_option maxRecDepth 100000 in
set_option maxHeartbeats 800000 in
set_option linter.unusedVariables false in
theorem walkFnExactMatSolve (a0 : Int) (a1 : Option Addr) (len1 cap1 : Nat) (a2 : Option Addr) (len2 cap2 : Nat) (z2 : List Int) (w : World) (w0 : (Lit.int .i64 a0).wf = true) (w1 : IsRows w a1 len1 cap1) (w2 : IsRow .i64 w a2 len2 cap2 z2) :
    Calls Try.prog 14 #[.int .i64 a0, .slice a1 len1 cap1, .slice a2 len2 cap2] w fun e w' => e = .returned (.bool true) ∧ Below w.heap.size w w' := by
  obtain ⟨b1, o1, M1, hR1⟩ := w1.ra
  have hbg1 := hR1.big
  have H1 := Lib.hid hR1
  obtain ⟨b2, o2, hR2⟩ := w2.ia
  obtain ⟨M2, hM2⟩ : ∃ M, z2.take len2 = M := ⟨_, rfl⟩
  rw [hM2] at hR2
  have hbg2 := hR2.big
  have H2 := Lib.hid hR2
  clear w0 w1 w2 hR1 hR2
  go_enter Try.func14, Try.ntmps14
  by_cases hn2 : len2 ≤ 1048576
  case neg =>
    have hg2 : decide (1048576 < (len2 : Int)) = true := decide_eq_true (by omega)
    go_wp2_with (fail)
    go_ret
    exact ⟨rfl, Below.refl _ _⟩
  have hg2 : decide (1048576 < (len2 : Int)) = false := decide_eq_false (by omega)
  go_wp2_with (fail)
  refine (szIntSS a1 len1 cap1 b1 o1 M1 _ _ H1.out (by decide) (by decide)).mono ?_
  rintro e w' ⟨r1, rfl, hr1, rfl⟩
  rcases hr1 with hr1 | ⟨hr01, hrx1, hrn1, hrr1⟩
  · go_wp2_with (fail)
    go_ret
    exact ⟨rfl, Below.refl _ _⟩
  have hn1 : len1 ≤ 1048576 := by omega
  have HRR1 := Lib.hid (show ∀ row ∈ M1, row.length ≤ 1048576 from fun row h => by have := hrr1 row h; omega)
  have htm1 : tot M1 ≤ 1099511627776 := by
    have h1 := tot_rows M1 1048576 HRR1.out
    have h2 := H1.out.len
    have h3 : M1.length * 1048576 ≤ 1048576 * 1048576 := Nat.mul_le_mul_right _ (by omega)
    omega
  clear hrr1
  obtain ⟨RV, hRV⟩ : ∃ RV, solveR a0 M1 M2 = RV := ⟨_, rfl⟩
  have hbd := solveR_bd a0 M1 M2
  rw [hRV] at hbd
  obtain ⟨RS, hRS⟩ : ∃ RS, RV.getD [] = RS := ⟨_, rfl⟩
  obtain ⟨RB, hRB⟩ : ∃ RB, RV.isSome = RB := ⟨_, rfl⟩
  rw [hRS] at hbd
  have hqb : (RB != RB) = false := by cases RB <;> rfl
  have HRS := Lib.hid hRS
  have HRB := Lib.hid hRB
  clear hRS hRB
  have HRV := Lib.hid hRV
  clear hRV
  have hBw0 := Below.refl w.heap.size w
  go_wp2_with (fail)
  refine (toIntSS a1 len1 cap1 b1 o1 M1 _ (H1.out.below hBw0) hn1 HRR1.out).mono ?_
  rintro e ws1 ⟨As1, cs1, vs1, rfl, hO, hN⟩
  have hBw1 := below_more hBw0 hN
  have hzws1 := hN.size
  clear hN
  have HFs1 := hO.foot
  have HOs1 := Lib.hid hO
  obtain ⟨bs1, hRa⟩ := hO.ra
  have HRs1 := Lib.hid hRa
  clear hO hRa
  have hBws12 := Below.refl ws1.heap.size ws1
  go_wp2_with (fail)
  refine (toIntS a2 len2 cap2 b2 o2 M2 _ (H2.out.below hBw1) hn2).mono ?_
  rintro e ws2 ⟨As2, cs2, rfl, hO, hN⟩
  have hBw3 := below_more hBw1 hN
  have hBws13 := below_more hBws12 hN
  have hzws2 := hN.size
  clear hN
  have HLs2 := Lib.hid (show ∀ g, (Value.slice As2 len2 cs2).ownBlock = some g → _ from fun g hg => hO.lt g hg)
  have HOs2 := Lib.hid hO
  obtain ⟨bs2, hRa⟩ := hO.ia
  have HRs2 := Lib.hid hRa
  clear hO hRa
  have hBws24 := Below.refl ws2.heap.size ws2
  go_wp2_with (fail)
  refine (specMatSolve a0 As1 len1 cs1 bs1 0 M1 As2 len2 cs2 bs2 0 M2 _ (HRs1.out.below hBws13) (HRs2.out.below hBws24)).mono ?_
  rw [HRV.out]
  rintro e wb ⟨As, cs, bs, os, rfl, hS, hN⟩
  rw [HRS.out] at hS
  rw [HRS.out, HRB.out]
  have hBw5 := below_more hBw3 hN
  have hBws15 := below_more hBws13 hN
  have hBws25 := below_more hBws24 hN
  have hzwb := hN.size
  clear hN
  have HS := Lib.hid hS
  clear hS
  have hBwb6 := Below.refl wb.heap.size wb
  go_wp2_with (fail)
  refine (toIntSS a1 len1 cap1 b1 o1 M1 _ (H1.out.below hBw5) hn1 HRR1.out).mono ?_
  rintro e wx1 ⟨Ax1, cx1, vx1, rfl, hO, hN⟩
  have hBw7 := below_more hBw5 hN
  have hBwb7 := below_more hBwb6 hN
  have hzwx1 := hN.size
  clear hN
  have HFx1 := hO.foot
  have HOx1 := Lib.hid hO
  obtain ⟨bx1, hRa⟩ := hO.ra
  have HRx1 := Lib.hid hRa
  clear hO hRa
  have hBwx18 := Below.refl wx1.heap.size wx1
  go_wp2_with (fail)
  refine (toIntS a2 len2 cap2 b2 o2 M2 _ (H2.out.below hBw7) hn2).mono ?_
  rintro e wx2 ⟨Ax2, cx2, rfl, hO, hN⟩
  have hBw9 := below_more hBw7 hN
  have hBwb9 := below_more hBwb7 hN
  have hBwx19 := below_more hBwx18 hN
  have hzwx2 := hN.size
  clear hN
  have HLx2 := Lib.hid (show ∀ g, (Value.slice Ax2 len2 cx2).ownBlock = some g → _ from fun g hg => hO.lt g hg)
  have HOx2 := Lib.hid hO
  obtain ⟨bx2, hRa⟩ := hO.ia
  have HRx2 := Lib.hid hRa
  clear hO hRa
  have hBwx210 := Below.refl wx2.heap.size wx2
  go_wp2_with (fail)
  refine (implMatSolve a0 Ax1 len1 cx1 bx1 0 M1 Ax2 len2 cx2 bx2 0 M2 _ (HRx1.out.below hBwx19) (HRx2.out.below hBwx210)).mono ?_
  rw [HRV.out]
  rintro e wd ⟨Ag, cg, rfl, hO, hN⟩
  rw [HRS.out] at hO
  rw [HRS.out, HRB.out]
  have hBw11 := below_more hBw9 hN
  have hBwb11 := below_more hBwb9 hN
  have hBwx111 := below_more hBwx19 hN
  have hBwx211 := below_more hBwx210 hN
  have hzwd := hN.size
  clear hN
  obtain ⟨bg, hRa⟩ := hO.ia
  have HRg := Lib.hid hRa
  have HOg := Lib.hid hO
  clear hO hRa
  have hBwd12 := Below.refl wd.heap.size wd
  go_wp2_with (fail)
  refine (eqIntS Ag RS.length cg bg 0 RS As RS.length cs bs os RS _ (HRg.out.below hBwd12) (HS.out.below hBwb11)).mono ?_
  rintro e we13 ⟨rfl, hm⟩
  rw [decide_eq_true (rfl : RS = RS)]
  have hBw14 := below_drawn hBw11 hm
  have hBwb14 := below_drawn hBwb11 hm
  have hBwx114 := below_drawn hBwx111 hm
  have hBwx214 := below_drawn hBwx211 hm
  have hBwd14 := below_drawn hBwd12 hm
  clear hm
  go_wp2_with (fail)
  refine (toIntSS a1 len1 cap1 b1 o1 M1 _ (H1.out.below hBw14) hn1 HRR1.out).mono ?_
  rintro e wf1 ⟨Af1, cf1, vf1, rfl, hO, hN⟩
  have hBw15 := below_more hBw14 hN
  have hBwb15 := below_more hBwb14 hN
  have hBwx115 := below_more hBwx114 hN
  have hBwx215 := below_more hBwx214 hN
  have hBwd15 := below_more hBwd14 hN
  have hzwf1 := hN.size
  clear hN
  have HFf1 := hO.foot
  have HOf1 := Lib.hid hO
  obtain ⟨bf1, hRa⟩ := hO.ra
  have HRf1 := Lib.hid hRa
  clear hO hRa
  have hBwf116 := Below.refl wf1.heap.size wf1
  go_wp2_with (fail)
  refine (eqIntSS Ax1 len1 cx1 bx1 0 M1 Af1 len1 cf1 bf1 0 M1 _ (HRx1.out.below hBwx115) (HRf1.out.below hBwf116)).mono ?_
  rintro e we17 ⟨rfl, hm⟩
  rw [decide_eq_true (rfl : M1 = M1)]
  have hBw18 := below_drawn hBw15 hm
  have hBwb18 := below_drawn hBwb15 hm
  have hBwx118 := below_drawn hBwx115 hm
  have hBwx218 := below_drawn hBwx215 hm
  have hBwd18 := below_drawn hBwd15 hm
  have hBwf118 := below_drawn hBwf116 hm
  clear hm
  go_wp2_with (fail)
  refine (toIntS a2 len2 cap2 b2 o2 M2 _ (H2.out.below hBw18) hn2).mono ?_
  rintro e wf2 ⟨Af2, cf2, rfl, hO, hN⟩
  have hBw19 := below_more hBw18 hN
  have hBwb19 := below_more hBwb18 hN
  have hBwx119 := below_more hBwx118 hN
  have hBwx219 := below_more hBwx218 hN
  have hBwd19 := below_more hBwd18 hN
  have hzwf2 := hN.size
  clear hN
  have HLf2 := Lib.hid (show ∀ g, (Value.slice Af2 len2 cf2).ownBlock = some g → _ from fun g hg => hO.lt g hg)
  have HOf2 := Lib.hid hO
  obtain ⟨bf2, hRa⟩ := hO.ia
  have HRf2 := Lib.hid hRa
  clear hO hRa
  have hBwf220 := Below.refl wf2.heap.size wf2
  go_wp2_with (fail)
  refine (eqIntS Ax2 len2 cx2 bx2 0 M2 Af2 len2 cf2 bf2 0 M2 _ (HRx2.out.below hBwx219) (HRf2.out.below hBwf220)).mono ?_
  rintro e we21 ⟨rfl, hm⟩
  rw [decide_eq_true (rfl : M2 = M2)]
  have hBw22 := below_drawn hBw19 hm
  have hBwb22 := below_drawn hBwb19 hm
  have hBwx122 := below_drawn hBwx119 hm
  have hBwx222 := below_drawn hBwx219 hm
  have hBwd22 := below_drawn hBwd19 hm
  have hBwf222 := below_drawn hBwf220 hm
  clear hm
  go_wp2_with (fail)
  refine (markIntSS wb.heap.size wx1.heap.size Ax1 len1 cx1 M1 vx1 (1) _ (HOx1.out.below hBwx122) HFx1 (by omega) (by omega)).mono ?_
  rintro e wm1 ⟨rfl, _, hK⟩
  have hzzwm1 := hK.size
  have hX := hK.below (B := wb.heap.size) (by have h1 := (hBwb22).size; omega) (fun k hk => by omega)
  have hBwb23 := (hBwb22).trans hX
  have hBw23 := (hBw22).trans (hX.mono (by omega))
  have hO := OI.keepS (OI.below HOx2.out hBwx222) hK (fun g hg hs => by have := HLx2.out g hg; omega)
  clear HOx2
  have HOx2 := Lib.hid hO
  clear hO
  have hOg := OI.keepS (OI.below HOg.out hBwd22) hK (fun g hg hs => by have := HOg.out.lt g hg; omega)
  obtain ⟨bg0, hRa⟩ := hOg.ia
  clear HOg HRg
  have HOg := Lib.hid hOg
  have HRg := Lib.hid hRa
  clear hOg hRa hK hX
  have hBx2_24 := Below.refl wm1.heap.size wm1
  have hBwd_25 := Below.refl wm1.heap.size wm1
  go_wp2_with (fail)
  have hown := OI.below HOx2.out hBx2_24
  refine (markIntS wx1.heap.size Ax2 len2 cx2 M2 (1 + (tot M1 : Int)) _ hown (by omega) (by omega)).mono ?_
  rintro e wm2 ⟨rfl, _, hK0⟩
  have hK := hK0.mono (T := fun g => wx1.heap.size ≤ g ∧ g < wx2.heap.size) (fun g _ hg => HLx2.out g hg)
  clear hK0 hown
  have hzzwm2 := hK.size
  have hX := hK.below (B := wb.heap.size) (by have h1 := (hBwb23).size; omega) (fun k hk => by omega)
  have hBwb26 := (hBwb23).trans hX
  have hBw26 := (hBw23).trans (hX.mono (by omega))
  have hOg := OI.keepS (OI.below HOg.out hBwd_25) hK (fun g hg hs => by have := HOg.out.lt g hg; omega)
  obtain ⟨bg1, hRa⟩ := hOg.ia
  clear HOg HRg
  have HOg := Lib.hid hOg
  have HRg := Lib.hid hRa
  clear hOg hRa hK hX
  have hBwd_27 := Below.refl wm2.heap.size wm2
  have hpos : 0 ≤ 1 + (tot M1 : Int) + (len2 : Int) := by omega
  go_wp2_with (fail)
  refine (eqIntS Ag RS.length cg bg1 0 RS As RS.length cs bs os RS _ (HRg.out.below hBwd_27) (HS.out.below hBwb26)).mono ?_
  rintro e we28 ⟨rfl, hm⟩
  rw [decide_eq_true (rfl : RS = RS)]
  have hBw29 := below_drawn hBw26 hm
  have hBwb29 := below_drawn hBwb26 hm
  have hBwd29 := below_drawn hBwd_27 hm
  clear hm
  go_wp2_with (fail)
  refine (markIntS wx2.heap.size Ag RS.length cg RS 1 _ (OI.below HOg.out hBwd29) (by omega) (by omega)).mono ?_
  rintro e wj ⟨rfl, hO, hK0⟩
  have hK := hK0.mono (T := fun g => wx2.heap.size ≤ g) (fun g _ hg => (HOg.out.lt g hg).1)
  clear hK0
  have hX := hK.below (B := wb.heap.size) (by have h1 := (hBwb29).size; omega) (fun k hk => by omega)
  have hBwb30 := (hBwb29).trans hX
  have hBw30 := (hBw29).trans (hX.mono (by omega))
  obtain ⟨bj, hRa⟩ := hO.ia
  have HRj := Lib.hid hRa
  clear hO hRa hK hX
  have hBwj31 := Below.refl wj.heap.size wj
  go_wp2_with (fail)
  refine (heldIntS Ag RS.length cg bj 0 1 _ (HRj.out.below hBwj31) (by omega) (by omega)).mono ?_
  rintro e w' ⟨rfl, rfl⟩
  have hqg : ((1 + (RS.length : Int)) != (1 + (RS.length : Int))) = false := by simp
  have hposg : 0 ≤ 1 + (RS.length : Int) := by omega
  go_wp2_with (fail)
  refine (toIntSS a1 len1 cap1 b1 o1 M1 _ (H1.out.below hBw30) hn1 HRR1.out).mono ?_
  rintro e wy1 ⟨Ay1, cy1, vy1, rfl, hO, hN⟩
  have hBw32 := below_more hBw30 hN
  have hBwb32 := below_more hBwb30 hN
  have hBwj32 := below_more hBwj31 hN
  have hzwy1 := hN.size
  clear hN
  have HFy1 := hO.foot
  have HOy1 := Lib.hid hO
  obtain ⟨by1, hRa⟩ := hO.ra
  have HRy1 := Lib.hid hRa
  clear hO hRa
  have hBwy133 := Below.refl wy1.heap.size wy1
  go_wp2_with (fail)
  refine (toIntS a2 len2 cap2 b2 o2 M2 _ (H2.out.below hBw32) hn2).mono ?_
  rintro e wy2 ⟨Ay2, cy2, rfl, hO, hN⟩
  have hBw34 := below_more hBw32 hN
  have hBwb34 := below_more hBwb32 hN
  have hBwj34 := below_more hBwj32 hN
  have hBwy134 := below_more hBwy133 hN
  have hzwy2 := hN.size
  clear hN
  have HLy2 := Lib.hid (show ∀ g, (Value.slice Ay2 len2 cy2).ownBlock = some g → _ from fun g hg => hO.lt g hg)
  have HOy2 := Lib.hid hO
  obtain ⟨by2, hRa⟩ := hO.ia
  have HRy2 := Lib.hid hRa
  clear hO hRa
  have hBwy235 := Below.refl wy2.heap.size wy2
  go_wp2_with (fail)
  refine (implMatSolve a0 Ay1 len1 cy1 by1 0 M1 Ay2 len2 cy2 by2 0 M2 _ (HRy1.out.below hBwy134) (HRy2.out.below hBwy235)).mono ?_
  rw [HRV.out]
  rintro e wl ⟨Al, cl, rfl, hO, hN⟩
  rw [HRS.out] at hO
  rw [HRS.out, HRB.out]
  have hBw36 := below_more hBw34 hN
  have hBwb36 := below_more hBwb34 hN
  have hBwj36 := below_more hBwj34 hN
  have hBwy136 := below_more hBwy134 hN
  have hBwy236 := below_more hBwy235 hN
  have hzwl := hN.size
  clear hN
  obtain ⟨bl, hRa⟩ := hO.ia
  have HRl := Lib.hid hRa
  clear hO hRa
  have hBwl37 := Below.refl wl.heap.size wl
  go_wp2_with (fail)
  refine (eqIntS Al RS.length cl bl 0 RS As RS.length cs bs os RS _ (HRl.out.below hBwl37) (HS.out.below hBwb36)).mono ?_
  rintro e we38 ⟨rfl, hm⟩
  rw [decide_eq_true (rfl : RS = RS)]
  have hBw39 := below_drawn hBw36 hm
  have hBwb39 := below_drawn hBwb36 hm
  have hBwj39 := below_drawn hBwj36 hm
  have hBwy139 := below_drawn hBwy136 hm
  have hBwy239 := below_drawn hBwy236 hm
  have hBwl39 := below_drawn hBwl37 hm
  clear hm
  go_wp2_with (fail)
  refine (heldIntS Ag RS.length cg bj 0 1 _ (HRj.out.below hBwj39) (by omega) (by omega)).mono ?_
  rintro e w' ⟨rfl, rfl⟩
  go_wp2_with (fail)
  go_ret
  exact ⟨rfl, hBw39⟩
end Go.Proofs.Ytpelokdgjdljfab

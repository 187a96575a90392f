/-
  The walk of the law of MatDet.
-/
import Derived.Test.YtpelokdgjdljfacDrawD
import Derived.Test.YtpelokdgjdljfacDetS
import Derived.Test.YtpelokdgjdljfacDetI
import Derived.Test.YtpelokdgjdljfacTurnI
import Derived.Test.YtpelokdgjdljfacTimesI
import Derived.Test.YtpelokdgjdljfacRankI
import Derived.Test.YtpelokdgjdljfacNum
import Derived.Test.YtpelokdgjdljfacLin8
namespace Go.Proofs.Ytpelokdgjdljfac
open Go.RowKit
theorem turnR_yes {p : Int} {M : List (List Int)} (h : matB p M = true) : turnR p M = turnM M := by unfold turnR; rw [if_pos h]
theorem IsRow.below {k : IntKind} {w w' : World} {a : Option Addr} {len cap : Nat} {zs : List Int} (h : IsRow k w a len cap zs) (hb : Below w.heap.size w w') : IsRow k w' a len cap zs := by
  rcases h with h | ⟨x, h1, h2, h3, h4, h5, h6⟩
  · exact .inl h
  · exact .inr ⟨x, h1, h2, h3, h4, fun i hi => (keep_of_below hb).cell (h5 i hi) (fun h => h), h6⟩
set_option maxRecDepth 100000 in
theorem walkFnMatDet (a : Option Addr) (len cap : Nat) (zs : List Int) (a1 : Option Addr) (len1 cap1 : Nat) (zs1 : List Int) (w : World) (h : IsRow .u8 w a len cap zs) (h1 : IsRow .u8 w a1 len1 cap1 zs1) :
    Calls Try.prog 3 #[.slice a len cap, .slice a1 len1 cap1] w fun e w' => e = .returned (.bool true) ∧ Below w.heap.size w w' := by
  have hm : len ≤ 9223372036854775807 := by have := rowBytes h; unfold maxLen at this; omega
  have hm1 : len1 ≤ 9223372036854775807 := by have := rowBytes h1; unfold maxLen at this; omega
  by_cases hb : 1048576 < len
  · go_enter Try.func3, Try.ntmps3
    go_wp2_with (fail)
    go_ret
    exact ⟨rfl, Below.refl _ _⟩
  by_cases hb1 : 1048576 < len1
  · go_enter Try.func3, Try.ntmps3
    go_wp2_with (fail)
    go_ret
    exact ⟨rfl, Below.refl _ _⟩
  have hd0 : decide (1048576 < (len : Int)) = false := by simp; omega
  have hd1 : decide (1048576 < (len1 : Int)) = false := by simp; omega
  go_enter Try.func3, Try.ntmps3
  go_wp2_with (fail)
  refine (drawMatDet a len cap zs w h).mono ?_
  rintro e w1 ⟨p, Ao, co, M, rfl, hp0, hD, hB⟩
  obtain ⟨b, hRA⟩ := hD.ra
  have hML := hD.few
  have hcap := hD.cap
  have HIN := Lib.hid (h1.below hB)
  obtain ⟨n, hn⟩ : ∃ n, M.length = n := ⟨_, rfl⟩
  rw [hn] at hRA hML hcap ⊢
  have HRA := Lib.hid hRA
  clear hD h h1 hRA hp0
  obtain ⟨d, hd⟩ : ∃ d, detR p M = d := ⟨_, rfl⟩
  have HD := Lib.hid hd
  have hq : (d != d) = false := by simp
  clear hd
  go_wp2_with (fail)
  refine (implMatDet p Ao n co b 0 M _ HRA.out).mono ?_
  rw [HD.out]
  rintro e w_1 ⟨rfl, hBq⟩
  have HRA_1 := Lib.hid (HRA.out.below hBq)
  have HIN_1 := Lib.hid (HIN.out.below hBq)
  have hK_1 := below_more hB hBq
  clear hBq
  go_wp2_with (fail)
  refine (specMatDet p Ao n co b 0 M _ HRA_1.out).mono ?_
  rw [HD.out]
  rintro e w_2 ⟨rfl, hBq⟩
  have HRA_2 := Lib.hid (HRA_1.out.below hBq)
  have HIN_2 := Lib.hid (HIN_1.out.below hBq)
  have hK_2 := below_more hK_1 hBq
  clear hBq
  by_cases hgood : matB p M = true ∧ M.length = (M.headD []).length
  · obtain ⟨hv, hsq⟩ := hgood
    obtain ⟨hn1, hn8, hl1, hl8, _⟩ := matB_true hv
    have hprime := prime_of_mat hv
    have hdv : detV p M = d := by rw [← detR_yes hv hsq]; exact HD.out
    have hnum := detV_num hprime (det_sq hv hsq) rfl
    rw [hdv] at hnum
    have hnb := numB_true hnum
    have hpb := prime_ge hprime
    have hrk := detV_rank hv hsq
    rw [hdv] at hrk
    obtain ⟨r, hr⟩ : ∃ r, rankR p M = r := ⟨_, rfl⟩
    have hr2 := rankR_yes hv
    rw [hr] at hr2
    have hz : (d == 0) = decide (r < (n : Int)) := by
      rw [hr2, ← hn, Bool.eq_iff_iff]
      simp only [beq_iff_eq, decide_eq_true_eq, Int.ofNat_lt]
      exact hrk
    obtain ⟨t, ht⟩ : ∃ t, decide (r < (n : Int)) = t := ⟨_, rfl⟩
    rw [ht] at hz
    have htt : (t == t) = true := by simp
    have hd2 : decide (d < 0) = false := by simp; omega
    have hdd : (d == d) = true := by simp
    obtain ⟨T, hT⟩ : ∃ T, turnR p M = T := ⟨_, rfl⟩
    have hTd : detR p T = d := by
      rw [← hT, turnR_yes hv, detR_yes (turn_mat hv).1 (by rw [turnM_len, (turn_mat hv).2, hsq]), detV_turn hv hsq]; exact hdv
    rw [hn] at hn1 hn8
    have HV := Lib.hid hv
    have HSQ := Lib.hid hsq
    have HDV := Lib.hid hdv
    have HNUM := Lib.hid hnum
    have HR := Lib.hid hr
    have HT := Lib.hid hT
    have HTD := Lib.hid hTd
    have HN := Lib.hid hn
    clear hv hsq hdv hnum hr hr2 hrk hT hTd hn hprime hl1 hl8
    go_wp2_with (fail)
    refine (drawMatDet a1 len1 cap1 zs1 _ HIN_2.out).mono ?_
    rintro e w_d ⟨q, Ac, cc, MC, rfl, hq0, hDC, hBd⟩
    obtain ⟨bc, hRc⟩ := hDC.ra
    have hMC := hDC.few
    have hcapc := hDC.cap
    obtain ⟨nc, hnc⟩ : ∃ n, MC.length = n := ⟨_, rfl⟩
    rw [hnc] at hRc hMC hcapc ⊢
    have HCC := Lib.hid hRc
    clear hRc hDC hq0
    have HRA_3 := Lib.hid (HRA_2.out.below hBd)
    have hK_3 := below_more hK_2 hBd
    clear hBd
    by_cases hqp : q = p
    · subst hqp
      have hq1 : (q == q) = true := by simp
      go_wp2_with (fail)
      refine (specMatValid q Ac nc cc bc 0 MC _ HCC.out).mono ?_
      rintro e w_4 ⟨rfl, hm_4⟩
      have HRA_4 := Lib.hid (HRA_3.out.drewN hm_4)
      have HCC_4 := Lib.hid (HCC.out.drewN hm_4)
      have hK_4 := below_drawn hK_3 hm_4
      clear hm_4
      rcases hvc : matB q MC
      · clear hvc
        go_wp2_with (fail)
        refine (implMatRank q _ n co b 0 M _ HRA_4.out).mono ?_
        rw [HR.out]
        rintro e w_5 ⟨rfl, hBq⟩
        have HRA_5 := Lib.hid (HRA_4.out.below hBq)
        have hK_5 := below_more hK_4 hBq
        clear hBq
        go_wp2_with (fail)
        refine (implMatTurn q _ n co b 0 M _ HRA_5.out).mono ?_
        rw [HT.out]
        rintro e w_6 ⟨ATX, cTX, vTX, rfl, hO, hBq⟩
        obtain ⟨bTX, hRq⟩ := hO.ra
        have HTX_6 := Lib.hid hRq
        have HRA_6 := Lib.hid (HRA_5.out.below hBq)
        have hK_6 := below_more hK_5 hBq
        clear hO hRq hBq
        go_wp2_with (fail)
        refine (implMatDet q ATX T.length cTX bTX 0 T _ HTX_6.out).mono ?_
        rw [HTD.out]
        rintro e w_7 ⟨rfl, hBq⟩
        have HRA_7 := Lib.hid (HRA_6.out.below hBq)
        have HTX_7 := Lib.hid (HTX_6.out.below hBq)
        have hK_7 := below_more hK_6 hBq
        clear hBq
        go_wp2_with (fail)
        go_ret
        exact ⟨rfl, hK_7⟩
      · have hnc1 := (matB_true hvc).1
        rw [hnc] at hnc1
        by_cases hcl : nc = n
        · subst hcl
          have hcl1 : ((nc : Int) == (nc : Int)) = true := by simp
          obtain ⟨row0, A0, c0, b0, o0, hr0, hc0, hI0⟩ := HCC_4.out.row 0 (by omega)
          obtain rfl := HCC_4.out.adr (by omega)
          obtain ⟨l, hl⟩ : ∃ l, (MC.headD []).length = l := ⟨_, rfl⟩
          have hrl0 := hl
          rw [headD_of hr0] at hrl0
          rw [Nat.zero_add, hrl0] at hc0
          clear hr0 hI0 hrl0
          by_cases hcs : l = nc
          · subst hcs
            obtain ⟨X, hX⟩ : ∃ X, timesR q M MC = X := ⟨_, rfl⟩
            have hXt : X = timesM q M MC := by rw [← hX]; exact timesR_yes ⟨HV.out, hvc, by rw [← HSQ.out, HN.out, hnc]⟩
            obtain ⟨d2, hd2'⟩ : ∃ d2, detR q MC = d2 := ⟨_, rfl⟩
            have hsqc : MC.length = (MC.headD []).length := by rw [hnc, hl]
            have hdv2 : detV q MC = d2 := by rw [← detR_yes hvc hsqc]; exact hd2'
            have hnum2 := detV_num (prime_of_mat hvc) (det_sq hvc hsqc) rfl
            rw [hdv2] at hnum2
            have hXd : detR q X = numTimes q d d2 := by
              rw [hXt, detR_yes (times_mat HV.out hvc).1 (by rw [timesM_len, (times_mat HV.out hvc).2, HN.out, hl]), detV_times HV.out hvc HSQ.out hsqc (by rw [hnc, HN.out]), HDV.out, hdv2, numTimes_ok HNUM.out hnum2]
            obtain ⟨u, hu⟩ : ∃ u, numTimes q d d2 = u := ⟨_, rfl⟩
            rw [hu] at hXd
            have huu : (u != u) = false := by simp
            have HX := Lib.hid hX
            have HXD := Lib.hid hXd
            have HD2 := Lib.hid hd2'
            have HU := Lib.hid hu
            clear hX hXt hd2' hsqc hdv2 hnum2 hXd hu hvc hl
            go_wp2_with (fail)
            refine (implMatTimes q Ao l co b 0 M _ l cc bc 0 MC _ HRA_4.out HCC_4.out).mono ?_
            rw [HX.out]
            rintro e w_5 ⟨AXX, cXX, vXX, rfl, hO, hBq⟩
            obtain ⟨bXX, hRq⟩ := hO.ra
            have HXX_5 := Lib.hid hRq
            have HRA_5 := Lib.hid (HRA_4.out.below hBq)
            have HCC_5 := Lib.hid (HCC_4.out.below hBq)
            have hK_5 := below_more hK_4 hBq
            clear hO hRq hBq
            go_wp2_with (fail)
            refine (implMatDet q AXX X.length cXX bXX 0 X _ HXX_5.out).mono ?_
            rw [HXD.out]
            rintro e w_6 ⟨rfl, hBq⟩
            have HRA_6 := Lib.hid (HRA_5.out.below hBq)
            have HCC_6 := Lib.hid (HCC_5.out.below hBq)
            have HXX_6 := Lib.hid (HXX_5.out.below hBq)
            have hK_6 := below_more hK_5 hBq
            clear hBq
            go_wp2_with (fail)
            refine (implMatDet q _ l cc bc 0 MC _ HCC_6.out).mono ?_
            rw [HD2.out]
            rintro e w_7 ⟨rfl, hBq⟩
            have HRA_7 := Lib.hid (HRA_6.out.below hBq)
            have HCC_7 := Lib.hid (HCC_6.out.below hBq)
            have hK_7 := below_more hK_6 hBq
            clear hBq
            go_wp2_with (fail)
            refine (implNumTimes q d d2 _).mono ?_
            rintro e w_8 ⟨rfl, rfl⟩
            rw [HU.out]
            go_wp2_with (fail)
            refine (implMatRank q _ l co b 0 M _ HRA_7.out).mono ?_
            rw [HR.out]
            rintro e w_9 ⟨rfl, hBq⟩
            have HRA_9 := Lib.hid (HRA_7.out.below hBq)
            have hK_9 := below_more hK_7 hBq
            clear hBq
            go_wp2_with (fail)
            refine (implMatTurn q _ l co b 0 M _ HRA_9.out).mono ?_
            rw [HT.out]
            rintro e w_10 ⟨ATX, cTX, vTX, rfl, hO, hBq⟩
            obtain ⟨bTX, hRq⟩ := hO.ra
            have HTX_10 := Lib.hid hRq
            have HRA_10 := Lib.hid (HRA_9.out.below hBq)
            have hK_10 := below_more hK_9 hBq
            clear hO hRq hBq
            go_wp2_with (fail)
            refine (implMatDet q ATX T.length cTX bTX 0 T _ HTX_10.out).mono ?_
            rw [HTD.out]
            rintro e w_11 ⟨rfl, hBq⟩
            have HRA_11 := Lib.hid (HRA_10.out.below hBq)
            have HTX_11 := Lib.hid (HTX_10.out.below hBq)
            have hK_11 := below_more hK_10 hBq
            clear hBq
            go_wp2_with (fail)
            go_ret
            exact ⟨rfl, hK_11⟩
          · have hcs1 : ((l : Int) == (nc : Int)) = false := by simp; omega
            clear hvc hl
            go_wp2_with (fail)
            refine (implMatRank q _ nc co b 0 M _ HRA_4.out).mono ?_
            rw [HR.out]
            rintro e w_5 ⟨rfl, hBq⟩
            have HRA_5 := Lib.hid (HRA_4.out.below hBq)
            have hK_5 := below_more hK_4 hBq
            clear hBq
            go_wp2_with (fail)
            refine (implMatTurn q _ nc co b 0 M _ HRA_5.out).mono ?_
            rw [HT.out]
            rintro e w_6 ⟨ATX, cTX, vTX, rfl, hO, hBq⟩
            obtain ⟨bTX, hRq⟩ := hO.ra
            have HTX_6 := Lib.hid hRq
            have HRA_6 := Lib.hid (HRA_5.out.below hBq)
            have hK_6 := below_more hK_5 hBq
            clear hO hRq hBq
            go_wp2_with (fail)
            refine (implMatDet q ATX T.length cTX bTX 0 T _ HTX_6.out).mono ?_
            rw [HTD.out]
            rintro e w_7 ⟨rfl, hBq⟩
            have HRA_7 := Lib.hid (HRA_6.out.below hBq)
            have HTX_7 := Lib.hid (HTX_6.out.below hBq)
            have hK_7 := below_more hK_6 hBq
            clear hBq
            go_wp2_with (fail)
            go_ret
            exact ⟨rfl, hK_7⟩
        · have hcl1 : ((nc : Int) == (n : Int)) = false := by simp; omega
          clear hvc
          go_wp2_with (fail)
          refine (implMatRank q _ n co b 0 M _ HRA_4.out).mono ?_
          rw [HR.out]
          rintro e w_5 ⟨rfl, hBq⟩
          have HRA_5 := Lib.hid (HRA_4.out.below hBq)
          have hK_5 := below_more hK_4 hBq
          clear hBq
          go_wp2_with (fail)
          refine (implMatTurn q _ n co b 0 M _ HRA_5.out).mono ?_
          rw [HT.out]
          rintro e w_6 ⟨ATX, cTX, vTX, rfl, hO, hBq⟩
          obtain ⟨bTX, hRq⟩ := hO.ra
          have HTX_6 := Lib.hid hRq
          have HRA_6 := Lib.hid (HRA_5.out.below hBq)
          have hK_6 := below_more hK_5 hBq
          clear hO hRq hBq
          go_wp2_with (fail)
          refine (implMatDet q ATX T.length cTX bTX 0 T _ HTX_6.out).mono ?_
          rw [HTD.out]
          rintro e w_7 ⟨rfl, hBq⟩
          have HRA_7 := Lib.hid (HRA_6.out.below hBq)
          have HTX_7 := Lib.hid (HTX_6.out.below hBq)
          have hK_7 := below_more hK_6 hBq
          clear hBq
          go_wp2_with (fail)
          go_ret
          exact ⟨rfl, hK_7⟩
    · have hq1 : (q == p) = false := by simp [hqp]
      go_wp2_with (fail)
      refine (implMatRank p _ n co b 0 M _ HRA_3.out).mono ?_
      rw [HR.out]
      rintro e w_4 ⟨rfl, hBq⟩
      have HRA_4 := Lib.hid (HRA_3.out.below hBq)
      have hK_4 := below_more hK_3 hBq
      clear hBq
      go_wp2_with (fail)
      refine (implMatTurn p _ n co b 0 M _ HRA_4.out).mono ?_
      rw [HT.out]
      rintro e w_5 ⟨ATX, cTX, vTX, rfl, hO, hBq⟩
      obtain ⟨bTX, hRq⟩ := hO.ra
      have HTX_5 := Lib.hid hRq
      have HRA_5 := Lib.hid (HRA_4.out.below hBq)
      have hK_5 := below_more hK_4 hBq
      clear hO hRq hBq
      go_wp2_with (fail)
      refine (implMatDet p ATX T.length cTX bTX 0 T _ HTX_5.out).mono ?_
      rw [HTD.out]
      rintro e w_6 ⟨rfl, hBq⟩
      have HRA_6 := Lib.hid (HRA_5.out.below hBq)
      have HTX_6 := Lib.hid (HTX_5.out.below hBq)
      have hK_6 := below_more hK_5 hBq
      clear hBq
      go_wp2_with (fail)
      go_ret
      exact ⟨rfl, hK_6⟩
  · have hd1 : d = -1 := by
      rw [← HD.out]
      rcases hv : matB p M
      · exact detR_no hv
      · exact detR_odd (fun hs => hgood ⟨hv, hs⟩)
    subst hd1
    clear hgood
    go_wp2_with (fail)
    refine (alive _).mono ?_
    rintro e w_90 ⟨rfl, rfl⟩
    go_wp2_with (fail)
    go_ret
    exact ⟨rfl, hK_2⟩
end Go.Proofs.Ytpelokdgjdljfac

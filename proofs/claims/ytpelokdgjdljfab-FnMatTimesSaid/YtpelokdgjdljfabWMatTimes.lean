/-
  The walk of the law of MatTimes.
-/
import Derived.Test.YtpelokdgjdljfabWMatRank
import Derived.Test.YtpelokdgjdljfabWMatTurn
namespace Go.Proofs.Ytpelokdgjdljfab
open Go.RowKit
theorem IsRow.drewN {k : IntKind} {w w' : World} {a : Option Addr} {len cap : Nat} {zs : List Int} (h : IsRow k w a len cap zs) (hm : ∃ m, w' = w.drewN m) : IsRow k w' a len cap zs := h.below (below_drawn (Below.refl _ _) hm)
set_option maxRecDepth 100000 in
theorem walkFnMatTimes (a : Option Addr) (len cap : Nat) (zs : List Int) (a1 : Option Addr) (len1 cap1 : Nat) (zs1 : List Int) (w : World) (h : IsRow .u8 w a len cap zs) (h1 : IsRow .u8 w a1 len1 cap1 zs1) :
    Calls Try.prog 3 #[.slice a len cap, .slice a1 len1 cap1] w fun e w' => e = .returned (.bool true) ∧ Below w.heap.size w w' := by
  have hm : len ≤ 9223372036854775807 := by have := rowBytes h; unfold maxLen at this; omega
  have hm1 : len1 ≤ 9223372036854775807 := by have := rowBytes h1; unfold maxLen at this; omega
  by_cases hb : 1048576 < len
  · go_enter Try.func3, Try.ntmps3
    go_wp2_with (fail)
    go_ret
    exact ⟨rfl, Below.refl _ _⟩
  by_cases hb1 : 1048576 < len1
  · go_enter Try.func3, Try.ntmps3
    go_wp2_with (fail)
    go_ret
    exact ⟨rfl, Below.refl _ _⟩
  have hd0 : decide (1048576 < (len : Int)) = false := by simp; omega
  have hd1 : decide (1048576 < (len1 : Int)) = false := by simp; omega
  go_enter Try.func3, Try.ntmps3
  go_wp2_with (fail)
  refine (drawMatTimes a len cap zs w h).mono ?_
  rintro e w1 ⟨p, Aa, ca, MA, Ab, cb, MB, rfl, hp0, hDA, hDB, hB⟩
  obtain ⟨ba, hRa⟩ := hDA.ra
  obtain ⟨bb, hRb⟩ := hDB.ra
  have hMA := hDA.few
  have hMB := hDB.few
  have hcapa := hDA.cap
  have hcapb := hDB.cap
  have HIN := Lib.hid (h1.below hB)
  obtain ⟨na, hna⟩ : ∃ n, MA.length = n := ⟨_, rfl⟩
  obtain ⟨nb, hnb⟩ : ∃ n, MB.length = n := ⟨_, rfl⟩
  rw [hna] at hRa hMA hcapa ⊢
  rw [hnb] at hRb hMB hcapb ⊢
  have HA := Lib.hid hRa
  have HB := Lib.hid hRb
  clear hRa hRb hDA hDB hp0 h h1
  obtain ⟨X, hX⟩ : ∃ X, timesR p MA MB = X := ⟨_, rfl⟩
  have HX := Lib.hid hX
  clear hX
  go_wp2_with (fail)
  refine (implMatTimes p Aa na ca ba 0 MA Ab nb cb bb 0 MB _ HA.out HB.out).mono ?_
  rw [HX.out]
  rintro e w_1 ⟨AXX, cXX, vXX, rfl, hO, hBq⟩
  obtain ⟨bXX, hRq⟩ := hO.ra
  have HXX_1 := Lib.hid hRq
  have HA_1 := Lib.hid (HA.out.below hBq)
  have HB_1 := Lib.hid (HB.out.below hBq)
  have HIN_1 := Lib.hid (HIN.out.below hBq)
  have hK_1 := below_more hB hBq
  clear hO hRq hBq
  have hXbig := HXX_1.out.big
  go_wp2_with (fail)
  refine (specMatTimes p Aa na ca ba 0 MA Ab nb cb bb 0 MB _ HA_1.out HB_1.out).mono ?_
  rw [HX.out]
  rintro e w_2 ⟨AS, cS, bS, oS, rfl, hRq, hBq⟩
  have HS_2 := Lib.hid hRq
  have HA_2 := Lib.hid (HA_1.out.below hBq)
  have HB_2 := Lib.hid (HB_1.out.below hBq)
  have HIN_2 := Lib.hid (HIN_1.out.below hBq)
  have HXX_2 := Lib.hid (HXX_1.out.below hBq)
  have hK_2 := below_more hK_1 hBq
  clear hRq hBq
  go_wp2_with (fail)
  refine (sameRowsC AXX X.length cXX bXX 0 X AS X.length cS bS oS X _ HXX_2.out HS_2.out).mono ?_
  rintro e w_3 ⟨rfl, hm_3⟩
  rw [decide_eq_true (rfl : X = X)]
  have HA_3 := Lib.hid (HA_2.out.drewN hm_3)
  have HB_3 := Lib.hid (HB_2.out.drewN hm_3)
  have HIN_3 := Lib.hid (HIN_2.out.drewN hm_3)
  have HXX_3 := Lib.hid (HXX_2.out.drewN hm_3)
  have HS_3 := Lib.hid (HS_2.out.drewN hm_3)
  have hK_3 := below_drawn hK_2 hm_3
  clear hm_3
  by_cases hyes : matB p MA = true ∧ matB p MB = true ∧ (MA.headD []).length = MB.length
  · obtain ⟨hvA, hvB, hAB⟩ := hyes
    obtain ⟨t1, t2⟩ := times_mat hvA hvB
    have hXt : timesM p MA MB = X := by rw [← timesR_yes ⟨hvA, hvB, hAB⟩]; exact HX.out
    rw [hXt] at t1 t2
    obtain ⟨hx1, hx8, _, _, _⟩ := matB_true t1
    obtain ⟨hnb1, hnb8, hlb1, hlb8, _⟩ := matB_true hvB
    rw [hnb] at hnb1 hnb8
    obtain ⟨nx, hnx⟩ : ∃ n, X.length = n := ⟨_, rfl⟩
    rw [hnx] at hx1 hx8 hXbig ⊢
    have HXX_r := Lib.hid (show RA w_3 AXX nx bXX 0 X by rw [← hnx]; exact HXX_3.out)
    obtain ⟨l, hl⟩ : ∃ l, (MB.headD []).length = l := ⟨_, rfl⟩
    rw [hl] at hlb1 hlb8
    -- the last comparison
    obtain ⟨TB, hTB⟩ : ∃ T, turnR p MB = T := ⟨_, rfl⟩
    obtain ⟨TA, hTA⟩ : ∃ T, turnR p MA = T := ⟨_, rfl⟩
    obtain ⟨TX, hTX⟩ : ∃ T, turnR p X = T := ⟨_, rfl⟩
    have hTP : timesR p TB TA = TX := by
      rw [← hTB, ← hTA, ← hTX, turnR_yes hvB, turnR_yes hvA, turnR_yes t1, timesR_yes ⟨(turn_mat hvB).1, (turn_mat hvA).1, by rw [(turn_mat hvB).2, turnM_len, hAB]⟩, ← hXt, times_turn hvA hvB hAB]
    have HTB := Lib.hid hTB
    have HTA := Lib.hid hTA
    have HTX := Lib.hid hTX
    have HTP := Lib.hid hTP
    have HV1 := Lib.hid t1
    have HV2 := Lib.hid t2
    have HVA := Lib.hid hvA
    have HVB := Lib.hid hvB
    have HAB := Lib.hid hAB
    have HL := Lib.hid hl
    have HXT := Lib.hid hXt
    clear hTB hTA hTX hTP t1 t2 hvA hvB hAB hl hXt
    go_wp2_with (fail)
    refine (drawMatTimes a1 len1 cap1 zs1 _ HIN_3.out).mono ?_
    rintro e w_d ⟨q, Ac, cc, MC, Ad, cd, MD, rfl, hq0, hDC, _, hBd⟩
    obtain ⟨bc, hRc⟩ := hDC.ra
    have hMC := hDC.few
    have hcapc := hDC.cap
    obtain ⟨nc, hnc⟩ : ∃ n, MC.length = n := ⟨_, rfl⟩
    rw [hnc] at hRc hMC hcapc ⊢
    have HCC := Lib.hid hRc
    clear hRc hDC hq0
    have HA_4 := Lib.hid (HA_3.out.below hBd)
    have HB_4 := Lib.hid (HB_3.out.below hBd)
    have HXX_4 := Lib.hid (HXX_r.out.below hBd)
    have hK_4 := below_more hK_3 hBd
    clear hBd
    by_cases hqp : q = p
    · subst hqp
      have hq1 : (q == q) = true := by simp
      go_wp2_with (fail)
      refine (specMatValid q Ac nc cc bc 0 MC _ HCC.out).mono ?_
      rintro e w_5 ⟨rfl, hm_5⟩
      have HA_5 := Lib.hid (HA_4.out.drewN hm_5)
      have HB_5 := Lib.hid (HB_4.out.drewN hm_5)
      have HXX_5 := Lib.hid (HXX_4.out.drewN hm_5)
      have HCC_5 := Lib.hid (HCC.out.drewN hm_5)
      have hK_5 := below_drawn hK_4 hm_5
      clear hm_5
      rcases hvc : matB q MC
      · clear hvc
        go_wp2_with (fail)
        refine (implMatValid q AXX nx cXX bXX 0 X _ HXX_5.out).mono ?_
        rintro e w_6 ⟨rfl, rfl⟩
        rw [HV1.out]
        go_wp2_with (fail)
        refine (implMatTurn q AXX nx cXX bXX 0 X _ HXX_5.out).mono ?_
        rw [HTX.out]
        rintro e w_7 ⟨ATX, cTX, vTX, rfl, hO, hBq⟩
        obtain ⟨bTX, hRq⟩ := hO.ra
        have HTX_7 := Lib.hid hRq
        have HA_7 := Lib.hid (HA_5.out.below hBq)
        have HB_7 := Lib.hid (HB_5.out.below hBq)
        have HXX_7 := Lib.hid (HXX_5.out.below hBq)
        have HCC_7 := Lib.hid (HCC_5.out.below hBq)
        have hK_7 := below_more hK_5 hBq
        clear hO hRq hBq
        go_wp2_with (fail)
        refine (implMatTurn q _ nb cb bb 0 MB _ HB_7.out).mono ?_
        rw [HTB.out]
        rintro e w_8 ⟨ATB, cTB, vTB, rfl, hO, hBq⟩
        obtain ⟨bTB, hRq⟩ := hO.ra
        have HTB_8 := Lib.hid hRq
        have HA_8 := Lib.hid (HA_7.out.below hBq)
        have HB_8 := Lib.hid (HB_7.out.below hBq)
        have HXX_8 := Lib.hid (HXX_7.out.below hBq)
        have HCC_8 := Lib.hid (HCC_7.out.below hBq)
        have HTX_8 := Lib.hid (HTX_7.out.below hBq)
        have hK_8 := below_more hK_7 hBq
        clear hO hRq hBq
        go_wp2_with (fail)
        refine (implMatTurn q Aa na ca ba 0 MA _ HA_8.out).mono ?_
        rw [HTA.out]
        rintro e w_9 ⟨ATA, cTA, vTA, rfl, hO, hBq⟩
        obtain ⟨bTA, hRq⟩ := hO.ra
        have HTA_9 := Lib.hid hRq
        have HA_9 := Lib.hid (HA_8.out.below hBq)
        have HB_9 := Lib.hid (HB_8.out.below hBq)
        have HXX_9 := Lib.hid (HXX_8.out.below hBq)
        have HCC_9 := Lib.hid (HCC_8.out.below hBq)
        have HTX_9 := Lib.hid (HTX_8.out.below hBq)
        have HTB_9 := Lib.hid (HTB_8.out.below hBq)
        have hK_9 := below_more hK_8 hBq
        clear hO hRq hBq
        go_wp2_with (fail)
        refine (implMatTimes q ATB TB.length cTB bTB 0 TB ATA TA.length cTA bTA 0 TA _ HTB_9.out HTA_9.out).mono ?_
        rw [HTP.out]
        rintro e w_10 ⟨ATP, cTP, vTP, rfl, hO, hBq⟩
        obtain ⟨bTP, hRq⟩ := hO.ra
        have HTP_10 := Lib.hid hRq
        have HA_10 := Lib.hid (HA_9.out.below hBq)
        have HB_10 := Lib.hid (HB_9.out.below hBq)
        have HXX_10 := Lib.hid (HXX_9.out.below hBq)
        have HCC_10 := Lib.hid (HCC_9.out.below hBq)
        have HTX_10 := Lib.hid (HTX_9.out.below hBq)
        have HTB_10 := Lib.hid (HTB_9.out.below hBq)
        have HTA_10 := Lib.hid (HTA_9.out.below hBq)
        have hK_10 := below_more hK_9 hBq
        clear hO hRq hBq
        go_wp2_with (fail)
        refine (sameRowsC ATX TX.length cTX bTX 0 TX ATP TX.length cTP bTP 0 TX _ HTX_10.out HTP_10.out).mono ?_
        rintro e w_11 ⟨rfl, hm_11⟩
        rw [decide_eq_true (rfl : TX = TX)]
        have HA_11 := Lib.hid (HA_10.out.drewN hm_11)
        have HB_11 := Lib.hid (HB_10.out.drewN hm_11)
        have HXX_11 := Lib.hid (HXX_10.out.drewN hm_11)
        have HCC_11 := Lib.hid (HCC_10.out.drewN hm_11)
        have HTX_11 := Lib.hid (HTX_10.out.drewN hm_11)
        have HTB_11 := Lib.hid (HTB_10.out.drewN hm_11)
        have HTA_11 := Lib.hid (HTA_10.out.drewN hm_11)
        have HTP_11 := Lib.hid (HTP_10.out.drewN hm_11)
        have hK_11 := below_drawn hK_10 hm_11
        clear hm_11
        go_wp2_with (fail)
        go_ret
        exact ⟨rfl, hK_11⟩
      · obtain ⟨row0, A0, c0, b0, o0, hr0, hc0, hI0⟩ := HB_5.out.row 0 (by omega)
        obtain rfl := HB_5.out.adr (by omega)
        have hrl0 := HL.out
        rw [headD_of hr0] at hrl0
        rw [Nat.zero_add, hrl0] at hc0
        clear hr0 hI0 hrl0
        by_cases hcl : nc = l
        · subst hcl
          have hcl1 : ((nc : Int) == (nc : Int)) = true := by simp
          obtain ⟨Z, hZ⟩ : ∃ Z, timesR q MB MC = Z := ⟨_, rfl⟩
          obtain ⟨Y, hY⟩ : ∃ Y, timesR q X MC = Y := ⟨_, rfl⟩
          have hBC : (MB.headD []).length = MC.length := by rw [HL.out, hnc]
          have hY2 : timesR q MA Z = Y := by
            have z1 := timesR_yes ⟨HVB.out, hvc, hBC⟩
            rw [← hZ, ← hY, z1, timesR_yes ⟨HV1.out, hvc, by rw [HV2.out, hBC]⟩, timesR_yes ⟨HVA.out, (times_mat HVB.out hvc).1, by rw [timesM_len]; exact HAB.out⟩, ← HXT.out, times_assoc HVA.out HVB.out hvc HAB.out]
          have HZ := Lib.hid hZ
          have HY := Lib.hid hY
          have HY2 := Lib.hid hY2
          clear hZ hY hY2 hBC hvc
          go_wp2_with (fail)
          refine (implMatTimes q AXX nx cXX bXX 0 X Ac nc cc bc 0 MC _ HXX_5.out HCC_5.out).mono ?_
          rw [HY.out]
          rintro e w_6 ⟨AY1, cY1, vY1, rfl, hO, hBq⟩
          obtain ⟨bY1, hRq⟩ := hO.ra
          have HY1_6 := Lib.hid hRq
          have HA_6 := Lib.hid (HA_5.out.below hBq)
          have HB_6 := Lib.hid (HB_5.out.below hBq)
          have HXX_6 := Lib.hid (HXX_5.out.below hBq)
          have HCC_6 := Lib.hid (HCC_5.out.below hBq)
          have hK_6 := below_more hK_5 hBq
          clear hO hRq hBq
          go_wp2_with (fail)
          refine (implMatTimes q _ nb cb bb 0 MB Ac nc cc bc 0 MC _ HB_6.out HCC_6.out).mono ?_
          rw [HZ.out]
          rintro e w_7 ⟨AZ1, cZ1, vZ1, rfl, hO, hBq⟩
          obtain ⟨bZ1, hRq⟩ := hO.ra
          have HZ1_7 := Lib.hid hRq
          have HA_7 := Lib.hid (HA_6.out.below hBq)
          have HB_7 := Lib.hid (HB_6.out.below hBq)
          have HXX_7 := Lib.hid (HXX_6.out.below hBq)
          have HCC_7 := Lib.hid (HCC_6.out.below hBq)
          have HY1_7 := Lib.hid (HY1_6.out.below hBq)
          have hK_7 := below_more hK_6 hBq
          clear hO hRq hBq
          go_wp2_with (fail)
          refine (implMatTimes q Aa na ca ba 0 MA AZ1 Z.length cZ1 bZ1 0 Z _ HA_7.out HZ1_7.out).mono ?_
          rw [HY2.out]
          rintro e w_8 ⟨AY2, cY2, vY2, rfl, hO, hBq⟩
          obtain ⟨bY2, hRq⟩ := hO.ra
          have HY2_8 := Lib.hid hRq
          have HA_8 := Lib.hid (HA_7.out.below hBq)
          have HB_8 := Lib.hid (HB_7.out.below hBq)
          have HXX_8 := Lib.hid (HXX_7.out.below hBq)
          have HCC_8 := Lib.hid (HCC_7.out.below hBq)
          have HY1_8 := Lib.hid (HY1_7.out.below hBq)
          have HZ1_8 := Lib.hid (HZ1_7.out.below hBq)
          have hK_8 := below_more hK_7 hBq
          clear hO hRq hBq
          go_wp2_with (fail)
          refine (sameRowsC AY1 Y.length cY1 bY1 0 Y AY2 Y.length cY2 bY2 0 Y _ HY1_8.out HY2_8.out).mono ?_
          rintro e w_9 ⟨rfl, hm_9⟩
          rw [decide_eq_true (rfl : Y = Y)]
          have HA_9 := Lib.hid (HA_8.out.drewN hm_9)
          have HB_9 := Lib.hid (HB_8.out.drewN hm_9)
          have HXX_9 := Lib.hid (HXX_8.out.drewN hm_9)
          have HCC_9 := Lib.hid (HCC_8.out.drewN hm_9)
          have HY1_9 := Lib.hid (HY1_8.out.drewN hm_9)
          have HZ1_9 := Lib.hid (HZ1_8.out.drewN hm_9)
          have HY2_9 := Lib.hid (HY2_8.out.drewN hm_9)
          have hK_9 := below_drawn hK_8 hm_9
          clear hm_9
          go_wp2_with (fail)
          refine (implMatValid q AXX nx cXX bXX 0 X _ HXX_9.out).mono ?_
          rintro e w_10 ⟨rfl, rfl⟩
          rw [HV1.out]
          go_wp2_with (fail)
          refine (implMatTurn q AXX nx cXX bXX 0 X _ HXX_9.out).mono ?_
          rw [HTX.out]
          rintro e w_11 ⟨ATX, cTX, vTX, rfl, hO, hBq⟩
          obtain ⟨bTX, hRq⟩ := hO.ra
          have HTX_11 := Lib.hid hRq
          have HA_11 := Lib.hid (HA_9.out.below hBq)
          have HB_11 := Lib.hid (HB_9.out.below hBq)
          have HXX_11 := Lib.hid (HXX_9.out.below hBq)
          have hK_11 := below_more hK_9 hBq
          clear hO hRq hBq
          go_wp2_with (fail)
          refine (implMatTurn q _ nb cb bb 0 MB _ HB_11.out).mono ?_
          rw [HTB.out]
          rintro e w_12 ⟨ATB, cTB, vTB, rfl, hO, hBq⟩
          obtain ⟨bTB, hRq⟩ := hO.ra
          have HTB_12 := Lib.hid hRq
          have HA_12 := Lib.hid (HA_11.out.below hBq)
          have HB_12 := Lib.hid (HB_11.out.below hBq)
          have HXX_12 := Lib.hid (HXX_11.out.below hBq)
          have HTX_12 := Lib.hid (HTX_11.out.below hBq)
          have hK_12 := below_more hK_11 hBq
          clear hO hRq hBq
          go_wp2_with (fail)
          refine (implMatTurn q Aa na ca ba 0 MA _ HA_12.out).mono ?_
          rw [HTA.out]
          rintro e w_13 ⟨ATA, cTA, vTA, rfl, hO, hBq⟩
          obtain ⟨bTA, hRq⟩ := hO.ra
          have HTA_13 := Lib.hid hRq
          have HA_13 := Lib.hid (HA_12.out.below hBq)
          have HB_13 := Lib.hid (HB_12.out.below hBq)
          have HXX_13 := Lib.hid (HXX_12.out.below hBq)
          have HTX_13 := Lib.hid (HTX_12.out.below hBq)
          have HTB_13 := Lib.hid (HTB_12.out.below hBq)
          have hK_13 := below_more hK_12 hBq
          clear hO hRq hBq
          go_wp2_with (fail)
          refine (implMatTimes q ATB TB.length cTB bTB 0 TB ATA TA.length cTA bTA 0 TA _ HTB_13.out HTA_13.out).mono ?_
          rw [HTP.out]
          rintro e w_14 ⟨ATP, cTP, vTP, rfl, hO, hBq⟩
          obtain ⟨bTP, hRq⟩ := hO.ra
          have HTP_14 := Lib.hid hRq
          have HA_14 := Lib.hid (HA_13.out.below hBq)
          have HB_14 := Lib.hid (HB_13.out.below hBq)
          have HXX_14 := Lib.hid (HXX_13.out.below hBq)
          have HTX_14 := Lib.hid (HTX_13.out.below hBq)
          have HTB_14 := Lib.hid (HTB_13.out.below hBq)
          have HTA_14 := Lib.hid (HTA_13.out.below hBq)
          have hK_14 := below_more hK_13 hBq
          clear hO hRq hBq
          go_wp2_with (fail)
          refine (sameRowsC ATX TX.length cTX bTX 0 TX ATP TX.length cTP bTP 0 TX _ HTX_14.out HTP_14.out).mono ?_
          rintro e w_15 ⟨rfl, hm_15⟩
          rw [decide_eq_true (rfl : TX = TX)]
          have HA_15 := Lib.hid (HA_14.out.drewN hm_15)
          have HB_15 := Lib.hid (HB_14.out.drewN hm_15)
          have HXX_15 := Lib.hid (HXX_14.out.drewN hm_15)
          have HTX_15 := Lib.hid (HTX_14.out.drewN hm_15)
          have HTB_15 := Lib.hid (HTB_14.out.drewN hm_15)
          have HTA_15 := Lib.hid (HTA_14.out.drewN hm_15)
          have HTP_15 := Lib.hid (HTP_14.out.drewN hm_15)
          have hK_15 := below_drawn hK_14 hm_15
          clear hm_15
          go_wp2_with (fail)
          go_ret
          exact ⟨rfl, hK_15⟩
        · have hcl1 : ((nc : Int) == (l : Int)) = false := by simp; omega
          clear hvc
          go_wp2_with (fail)
          refine (implMatValid q AXX nx cXX bXX 0 X _ HXX_5.out).mono ?_
          rintro e w_6 ⟨rfl, rfl⟩
          rw [HV1.out]
          go_wp2_with (fail)
          refine (implMatTurn q AXX nx cXX bXX 0 X _ HXX_5.out).mono ?_
          rw [HTX.out]
          rintro e w_7 ⟨ATX, cTX, vTX, rfl, hO, hBq⟩
          obtain ⟨bTX, hRq⟩ := hO.ra
          have HTX_7 := Lib.hid hRq
          have HA_7 := Lib.hid (HA_5.out.below hBq)
          have HB_7 := Lib.hid (HB_5.out.below hBq)
          have HXX_7 := Lib.hid (HXX_5.out.below hBq)
          have HCC_7 := Lib.hid (HCC_5.out.below hBq)
          have hK_7 := below_more hK_5 hBq
          clear hO hRq hBq
          go_wp2_with (fail)
          refine (implMatTurn q _ nb cb bb 0 MB _ HB_7.out).mono ?_
          rw [HTB.out]
          rintro e w_8 ⟨ATB, cTB, vTB, rfl, hO, hBq⟩
          obtain ⟨bTB, hRq⟩ := hO.ra
          have HTB_8 := Lib.hid hRq
          have HA_8 := Lib.hid (HA_7.out.below hBq)
          have HB_8 := Lib.hid (HB_7.out.below hBq)
          have HXX_8 := Lib.hid (HXX_7.out.below hBq)
          have HCC_8 := Lib.hid (HCC_7.out.below hBq)
          have HTX_8 := Lib.hid (HTX_7.out.below hBq)
          have hK_8 := below_more hK_7 hBq
          clear hO hRq hBq
          go_wp2_with (fail)
          refine (implMatTurn q Aa na ca ba 0 MA _ HA_8.out).mono ?_
          rw [HTA.out]
          rintro e w_9 ⟨ATA, cTA, vTA, rfl, hO, hBq⟩
          obtain ⟨bTA, hRq⟩ := hO.ra
          have HTA_9 := Lib.hid hRq
          have HA_9 := Lib.hid (HA_8.out.below hBq)
          have HB_9 := Lib.hid (HB_8.out.below hBq)
          have HXX_9 := Lib.hid (HXX_8.out.below hBq)
          have HCC_9 := Lib.hid (HCC_8.out.below hBq)
          have HTX_9 := Lib.hid (HTX_8.out.below hBq)
          have HTB_9 := Lib.hid (HTB_8.out.below hBq)
          have hK_9 := below_more hK_8 hBq
          clear hO hRq hBq
          go_wp2_with (fail)
          refine (implMatTimes q ATB TB.length cTB bTB 0 TB ATA TA.length cTA bTA 0 TA _ HTB_9.out HTA_9.out).mono ?_
          rw [HTP.out]
          rintro e w_10 ⟨ATP, cTP, vTP, rfl, hO, hBq⟩
          obtain ⟨bTP, hRq⟩ := hO.ra
          have HTP_10 := Lib.hid hRq
          have HA_10 := Lib.hid (HA_9.out.below hBq)
          have HB_10 := Lib.hid (HB_9.out.below hBq)
          have HXX_10 := Lib.hid (HXX_9.out.below hBq)
          have HCC_10 := Lib.hid (HCC_9.out.below hBq)
          have HTX_10 := Lib.hid (HTX_9.out.below hBq)
          have HTB_10 := Lib.hid (HTB_9.out.below hBq)
          have HTA_10 := Lib.hid (HTA_9.out.below hBq)
          have hK_10 := below_more hK_9 hBq
          clear hO hRq hBq
          go_wp2_with (fail)
          refine (sameRowsC ATX TX.length cTX bTX 0 TX ATP TX.length cTP bTP 0 TX _ HTX_10.out HTP_10.out).mono ?_
          rintro e w_11 ⟨rfl, hm_11⟩
          rw [decide_eq_true (rfl : TX = TX)]
          have HA_11 := Lib.hid (HA_10.out.drewN hm_11)
          have HB_11 := Lib.hid (HB_10.out.drewN hm_11)
          have HXX_11 := Lib.hid (HXX_10.out.drewN hm_11)
          have HCC_11 := Lib.hid (HCC_10.out.drewN hm_11)
          have HTX_11 := Lib.hid (HTX_10.out.drewN hm_11)
          have HTB_11 := Lib.hid (HTB_10.out.drewN hm_11)
          have HTA_11 := Lib.hid (HTA_10.out.drewN hm_11)
          have HTP_11 := Lib.hid (HTP_10.out.drewN hm_11)
          have hK_11 := below_drawn hK_10 hm_11
          clear hm_11
          go_wp2_with (fail)
          go_ret
          exact ⟨rfl, hK_11⟩
    · have hq1 : (q == p) = false := by simp [hqp]
      go_wp2_with (fail)
      refine (implMatValid p AXX nx cXX bXX 0 X _ HXX_4.out).mono ?_
      rintro e w_5 ⟨rfl, rfl⟩
      rw [HV1.out]
      go_wp2_with (fail)
      refine (implMatTurn p AXX nx cXX bXX 0 X _ HXX_4.out).mono ?_
      rw [HTX.out]
      rintro e w_6 ⟨ATX, cTX, vTX, rfl, hO, hBq⟩
      obtain ⟨bTX, hRq⟩ := hO.ra
      have HTX_6 := Lib.hid hRq
      have HA_6 := Lib.hid (HA_4.out.below hBq)
      have HB_6 := Lib.hid (HB_4.out.below hBq)
      have HXX_6 := Lib.hid (HXX_4.out.below hBq)
      have HCC_6 := Lib.hid (HCC.out.below hBq)
      have hK_6 := below_more hK_4 hBq
      clear hO hRq hBq
      go_wp2_with (fail)
      refine (implMatTurn p _ nb cb bb 0 MB _ HB_6.out).mono ?_
      rw [HTB.out]
      rintro e w_7 ⟨ATB, cTB, vTB, rfl, hO, hBq⟩
      obtain ⟨bTB, hRq⟩ := hO.ra
      have HTB_7 := Lib.hid hRq
      have HA_7 := Lib.hid (HA_6.out.below hBq)
      have HB_7 := Lib.hid (HB_6.out.below hBq)
      have HXX_7 := Lib.hid (HXX_6.out.below hBq)
      have HCC_7 := Lib.hid (HCC_6.out.below hBq)
      have HTX_7 := Lib.hid (HTX_6.out.below hBq)
      have hK_7 := below_more hK_6 hBq
      clear hO hRq hBq
      go_wp2_with (fail)
      refine (implMatTurn p Aa na ca ba 0 MA _ HA_7.out).mono ?_
      rw [HTA.out]
      rintro e w_8 ⟨ATA, cTA, vTA, rfl, hO, hBq⟩
      obtain ⟨bTA, hRq⟩ := hO.ra
      have HTA_8 := Lib.hid hRq
      have HA_8 := Lib.hid (HA_7.out.below hBq)
      have HB_8 := Lib.hid (HB_7.out.below hBq)
      have HXX_8 := Lib.hid (HXX_7.out.below hBq)
      have HCC_8 := Lib.hid (HCC_7.out.below hBq)
      have HTX_8 := Lib.hid (HTX_7.out.below hBq)
      have HTB_8 := Lib.hid (HTB_7.out.below hBq)
      have hK_8 := below_more hK_7 hBq
      clear hO hRq hBq
      go_wp2_with (fail)
      refine (implMatTimes p ATB TB.length cTB bTB 0 TB ATA TA.length cTA bTA 0 TA _ HTB_8.out HTA_8.out).mono ?_
      rw [HTP.out]
      rintro e w_9 ⟨ATP, cTP, vTP, rfl, hO, hBq⟩
      obtain ⟨bTP, hRq⟩ := hO.ra
      have HTP_9 := Lib.hid hRq
      have HA_9 := Lib.hid (HA_8.out.below hBq)
      have HB_9 := Lib.hid (HB_8.out.below hBq)
      have HXX_9 := Lib.hid (HXX_8.out.below hBq)
      have HCC_9 := Lib.hid (HCC_8.out.below hBq)
      have HTX_9 := Lib.hid (HTX_8.out.below hBq)
      have HTB_9 := Lib.hid (HTB_8.out.below hBq)
      have HTA_9 := Lib.hid (HTA_8.out.below hBq)
      have hK_9 := below_more hK_8 hBq
      clear hO hRq hBq
      go_wp2_with (fail)
      refine (sameRowsC ATX TX.length cTX bTX 0 TX ATP TX.length cTP bTP 0 TX _ HTX_9.out HTP_9.out).mono ?_
      rintro e w_10 ⟨rfl, hm_10⟩
      rw [decide_eq_true (rfl : TX = TX)]
      have HA_10 := Lib.hid (HA_9.out.drewN hm_10)
      have HB_10 := Lib.hid (HB_9.out.drewN hm_10)
      have HXX_10 := Lib.hid (HXX_9.out.drewN hm_10)
      have HCC_10 := Lib.hid (HCC_9.out.drewN hm_10)
      have HTX_10 := Lib.hid (HTX_9.out.drewN hm_10)
      have HTB_10 := Lib.hid (HTB_9.out.drewN hm_10)
      have HTA_10 := Lib.hid (HTA_9.out.drewN hm_10)
      have HTP_10 := Lib.hid (HTP_9.out.drewN hm_10)
      have hK_10 := below_drawn hK_9 hm_10
      clear hm_10
      go_wp2_with (fail)
      go_ret
      exact ⟨rfl, hK_10⟩
  · have hX0 : X = [] := by rw [← HX.out, timesR_no hyes]
    subst hX0
    clear hyes
    go_wp2_with (fail)
    refine (alive _).mono ?_
    rintro e w_90 ⟨rfl, rfl⟩
    go_wp2_with (fail)
    go_ret
    exact ⟨rfl, hK_3⟩
end Go.Proofs.Ytpelokdgjdljfab

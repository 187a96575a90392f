/-
  The contract of the program's MatDet.
-/
import Derived.Test.YtpelokdgjdljfacDet
namespace Go.Proofs.Ytpelokdgjdljfac
open Go.RowKit
theorem detR_no {p : Int} {M : List (List Int)} (h : matB p M = false) : detR p M = -1 := by unfold detR; rw [if_neg (by simp [h])]
theorem detR_odd {p : Int} {M : List (List Int)} (h : M.length ≠ (M.headD []).length) : detR p M = -1 := by
  unfold detR; rw [if_neg h]; split <;> rfl
theorem detR_yes {p : Int} {M : List (List Int)} (h : matB p M = true) (h2 : M.length = (M.headD []).length) : detR p M = detV p M := by unfold detR; rw [if_pos h, if_pos h2]
theorem OMF.cap {w : World} {B hi g n c : Nat} {M : List (List Int)} {vs : List Value} (h : OMF w B hi g n c M vs) : n ≤ c := by
  rcases h.om.out.2 with ⟨h1, _⟩ | ⟨g', cap, cur, hv, _, _, hnc, _⟩
  · simp at h1
  · simp only [Value.slice.injEq, true_and] at hv
    omega
set_option maxRecDepth 100000 in
set_option maxHeartbeats 800000 in
theorem implMatDet (p : Int) (A : Option Addr) (n c b o : Nat) (M : List (List Int)) (w : World) (h : RA w A n b o M) :
    Calls Try.prog 6 #[.int .i64 p, .slice A n c] w (IntBelow (detR p M) w) := by
  have hbig := h.big
  have H := Lib.hid h
  clear h
  rcases hv : matB p M
  · have HV := Lib.hid hv
    have HR := Lib.hid (detR_no hv)
    clear hv
    go_enter Try.func6, Try.ntmps6
    go_wp2_with (fail)
    refine (implMatValid p A n c b o M _ H.out).mono ?_
    rintro e w1 ⟨rfl, rfl⟩
    rw [HV.out]
    go_wp2_with (fail)
    go_ret
    exact ⟨by rw [HR.out]; rfl, Below.refl _ _⟩
  · obtain ⟨hn1, hn8, hl1, hl8, hrows⟩ := matB_true hv
    have hL := H.out.len
    obtain ⟨l0, hl0⟩ : ∃ l0, (M.headD []).length = l0 := ⟨_, rfl⟩
    have hvm := VM_of_mat hv
    have hp := prime_of_mat hv
    rw [hl0] at hl1 hl8 hrows hvm
    rw [hL] at hn1 hn8
    have HRW := Lib.hid (show ∀ row ∈ M, row.length = l0 from fun row hr => (hrows row hr).1)
    obtain ⟨row0, A0, c0, b0, o0, hm0, hc0, hI0⟩ := H.out.row 0 (by omega)
    have hr0 := HRW.out row0 (List.mem_of_getElem? hm0)
    rw [hr0, Nat.add_zero] at hc0
    obtain rfl := H.out.adr (by omega)
    clear hm0 hI0 hr0
    by_cases hsq : n = l0
    · subst hsq
      have hR : detR p M = detV p M := detR_yes hv (by rw [hl0, hL])
      have hq : ((n : Int) != (n : Int)) = false := by simp
      have hpb := prime_ge hp
      have HV := Lib.hid hv
      have HR := Lib.hid hR
      have HVM := Lib.hid hvm
      have HP := Lib.hid hp
      have HML := Lib.hid hL
      clear hv hR hvm hp hL hrows hl0
      go_enter Try.func6, Try.ntmps6
      go_wp2_with (fail)
      refine (implMatValid p _ n c b o M _ H.out).mono ?_
      rintro e w1 ⟨rfl, rfl⟩
      rw [HV.out]
      go_wp2_with (fail)
      refine (copyRows_any _ n c b o n M _ H.out hn8 hl1 (by omega) HRW.out).mono ?_
      rintro e w1 ⟨A1, c1, vs, rfl, hO, hB⟩
      obtain ⟨g, hg⟩ := hO.addr hn1
      subst hg
      have HOF := Lib.hid (OMF.mk hO (hO.out.lt g rfl).2 hO.foot)
      clear hO
      have hsz1 := hB.size
      have HB := Lib.hid hB
      have h1B := numB_bd (numB_one HP.out)
      clear hB
      go_wp2_with (fail)
      go_loopw [6, 29] (fun dv i wr => ∃ (col : Nat) (N : List (List Int)) (d : Int) (vs' : List Value), col ≤ n ∧ i = .int .i64 col ∧ dv = .int .i64 d ∧ detE p M col = some (N, d) ∧ OMF wr w.heap.size w1.heap.size g n c1 N vs' ∧ Keep (fun q => w.heap.size ≤ q ∧ q < w1.heap.size) w1 wr) (fun _ i _ => n - (intOf i).toNat)
      case atStart => exact ⟨0, M, 1, vs, by omega, rfl, rfl, rfl, HOF.out, Keep.refl _ _⟩
      case round =>
        obtain ⟨col, N, d, vs', hcol, rfl, rfl, hde, hom, hkp⟩ := hrel
        obtain ⟨wo, rfl⟩ : ∃ wo : World, wo = wr := ⟨_, rfl⟩
        obtain ⟨hNl, hNV, hdB⟩ := detE_inv HP.out HVM.out col (by rw [HML.out]; exact hcol) N d hde
        rw [HML.out] at hNl
        have HDN := Lib.hid hde
        have HO := Lib.hid hom
        have HK := Lib.hid hkp
        have HV := Lib.hid hNV
        have HNL := Lib.hid hNl
        have hdb := numB_bd hdB
        clear hde hom hkp hNV hNl hdB
        by_cases hlt : col < n
        · obtain ⟨br, hRA⟩ := HO.out.om.ra
          have HRA := Lib.hid hRA
          clear hRA
          go_wp2_with (fail)
          refine (firstRowWith_any _ n c1 br 0 N col col _ HRA.out (fun row hr => by rw [(HV.out row hr).1]; exact hlt) hcol (by omega)).mono ?_
          rintro e w' ⟨x, rfl, hx, rfl⟩
          rcases hx with ⟨rfl, hnone⟩ | ⟨r, rfl, hrn, hsome⟩
          · have HR0 := Lib.hid (show detR p M = 0 by rw [HR.out]; exact detV_none (c := col + 1) (by rw [detE_step HDN.out, detStep_none hnone]) (by rw [HML.out]; omega))
            clear hnone
            go_wp2_with (fail)
            go_ret
            exact ⟨by rw [HR0.out]; rfl, HB.out.trans (HK.out.below (B := w.heap.size) hsz1 (fun q hq => hq.1))⟩
          · obtain ⟨hf1, hf2', hf3, _⟩ := firstW_some hsome
            rw [HNL.out] at hrn
            by_cases hrc : r = col
            · obtain rfl : col = r := hrc.symm
              have hqr : ((col : Int) != (col : Int)) = false := by simp
              have hd0 := hdb.1
              have HDE := Lib.hid (show detE p M (col + 1) = some (downM p N col (invM p (at2 N col col)), d * at2 N col col % p) by rw [detE_step HDN.out, detStep_some hsome, swapM_self N col (by rw [HNL.out]; exact hlt), if_pos rfl])
              have HO2 := HO
              have HVM2 := HV
              have HK2 := HK
              have HNZ := Lib.hid hf3
              have HNL2 := HNL
              clear hsome hf1 hf2' hf3 hrn hrc
              obtain ⟨row2, b2, c2, hm2, hrl2, hrv2, h2x, hf2⟩ := HO2.out.cellAt HVM2.out hlt
              obtain ⟨hv2, hc2, hI2, hIA2⟩ := h2x hl1
              obtain ⟨x2, hx2, hxc2⟩ := hIA2.cell col hlt
              rw [Nat.zero_add] at hxc2
              have hxn := hrv2 x2 (List.mem_of_getElem? hx2)
              have hxb := numB_bd hxn
              have hat2 : at2 N col col = x2 := at2_of hm2 hx2
              have hx20 : x2 ≠ 0 := by rw [← hat2]; exact HNZ.out
              have hmb := mul_bd hd0 (by omega) hxb.1 (by omega)
              obtain ⟨u, hu⟩ : ∃ u, invM p x2 = u := ⟨_, rfl⟩
              have hnb : numBack p x2 = u := by unfold numBack; rw [if_pos ⟨hxn, hx20⟩, hu]
              have hun : numB p u = true := by rw [← hu]; exact numB_mk HP.out (inv_bd HP.out).1 (inv_bd HP.out).2
              have hub := numB_bd hun
              have HDE2 := Lib.hid (show detE p M (col + 1) = some (downM p N col u, d * x2 % p) by rw [HDE.out, hat2, hu])
              have HNB := Lib.hid hnb
              clear hm2 hrl2 hrv2 h2x hv2 hI2 hIA2 hx2 hxn hat2 hu hnb HDE HNZ hun
              go_wp2_with (fail)
              refine (implNumBack p x2 _).mono ?_
              rintro e w3 ⟨rfl, rfl⟩
              rw [HNB.out]
              have hcapn := HO2.out.cap
              have HO3 := HO2
              have HK3 := HK2
              go_wp2_with (fail)
              · rw [← h]
                have hz : n - c1 = 0 := by omega
                have hz2 : col + 1 = n := by omega
                clear h
                go_loopw [83] (fun i wi => ∃ k : Nat, k ≤ n - c1 ∧ i = .int .i64 k ∧ OMF wi w.heap.size w1.heap.size g n c1 ((downM p N col u).take (col + 1 + k) ++ N.drop (col + 1 + k)) vs' ∧ Keep (fun q => w.heap.size ≤ q ∧ q < w1.heap.size) w1 wi) (fun i _ => n - (intOf i).toNat)
                case atStart => exact ⟨0, by omega, rfl, by rw [Nat.add_zero, downMix_start (by rw [HNL2.out]; exact hlt)]; exact HO3.out, HK3.out⟩
                case round =>
                  obtain ⟨k, hk, rfl, hom, hkp⟩ := hrel
                  by_cases hlk : k < n - c1
                  · omega
                  · obtain rfl : k = 0 := by omega
                    rw [show col + 1 + 0 = n by omega, mixDone (by rw [downM_len]; exact HNL2.out) HNL2.out] at hom
                    have HO5 := Lib.hid hom
                    have HK5 := Lib.hid hkp
                    clear hom hkp
                    go_wp2_with (fail)
                    go_roundw
                    case rel => exact ⟨col + 1, _, _, vs', by omega, by go_num, rfl, HDE2.out, HO5.out, HK5.out⟩
                    case measure => simp [intOf]; omega
              · go_loopw [83] (fun i wi => ∃ k : Nat, k ≤ n - (col + 1) ∧ i = .int .i64 k ∧ OMF wi w.heap.size w1.heap.size g n c1 ((downM p N col u).take (col + 1 + k) ++ N.drop (col + 1 + k)) vs' ∧ Keep (fun q => w.heap.size ≤ q ∧ q < w1.heap.size) w1 wi) (fun i _ => n - (intOf i).toNat)
                case atStart => exact ⟨0, by omega, rfl, by rw [Nat.add_zero, downMix_start (by rw [HNL2.out]; exact hlt)]; exact HO3.out, HK3.out⟩
                case round =>
                  obtain ⟨k, hk, rfl, hom, hkp⟩ := hrel
                  by_cases hlk : k < n - (col + 1)
                  · have hin : col + 1 + k < n := by omega
                    have hVM := HVM2.out.downMix (col := col) (k := col + 1 + k) (back := u) HP.out (by rw [HNL2.out]; exact hlt)
                    obtain ⟨row, bi, ci, hmi, hrl, hrv, hix, hfi⟩ := hom.cellAt hVM hin
                    obtain ⟨hvi, hci, hIi, hIAi⟩ := hix hl1
                    obtain ⟨rowt, bt, ct, hmt, hrlt, hrvt, htx, hft⟩ := hom.cellAt hVM hlt
                    obtain ⟨hvt, hct, hIt, hIAt⟩ := htx hl1
                    have hbne : bt ≠ bi := hom.apart (i := col) (j := col + 1 + k) (by omega) hvt hvi
                    rw [mix_get _ _ _ (downM_len p N col u) (by rw [downM_len, HNL2.out]; exact hin)] at hmi
                    rw [downMix_low (by rw [HNL2.out]; exact hlt) (Nat.le_refl _)] at hmt
                    obtain ⟨x, hx, hxc⟩ := hIAi.cell col hlt
                    rw [Nat.zero_add] at hxc
                    have hxb' := numB_bd (hrv x (List.mem_of_getElem? hx))
                    have hmb2 := mul_bd hxb'.1 (by omega) hub.1 (by omega)
                    have hat : at2 N (col + 1 + k) col = x := at2_of hmi hx
                    obtain ⟨t, ht⟩ : ∃ t, x * u % p = t := ⟨_, rfl⟩
                    have HTN := Lib.hid (show numB p t = true by rw [← ht]; exact numB_emod HP.out _)
                    have HSR := Lib.hid (show (downM p N col u)[col + 1 + k]? = some (subRow p t row rowt) by
                      rw [downM_get _ _ _ _ _ (by rw [HNL2.out]; exact hin)]; unfold downRow; rw [if_neg (by omega), hat, getD_of hmi, getD_of hmt, ht])
                    have HO := Lib.hid hom
                    have HKP := Lib.hid hkp
                    have HMI := Lib.hid hmi
                    have HVI := Lib.hid hvi
                    have HRL := Lib.hid hrl
                    have HRV := Lib.hid hrv
                    have HRVT := Lib.hid hrvt
                    have HRLT := Lib.hid hrlt
                    have HII := Lib.hid hIi
                    have HIT := Lib.hid hIAt
                    have HT := Lib.hid ht
                    clear hom hkp hmi hmt hvi hvt hrl hrv hrlt hrvt hIi hIt hIAi hIAt hx hat hix htx hVM ht
                    go_wp2_with (fail)
                    refine wp_quiet_tail 14 (by kernel_rfl) (by kernel_rfl) ?_
                    simp only [List.take_succ_cons, List.take_zero, List.drop_succ_cons, List.drop_zero]
                    repeat (go_big_quiet_step (fail))
                    refine wpQuiet_nil ?_
                    intro _ hw'
                    obtain ⟨nz, hw''⟩ := hw'
                    subst hw''
                    go_wp2_with (fail)
                    rw [HT.out]
                    refine (takeRow_any p t w.heap.size _ n ci row _ ct bt 0 rowt _ (owns_keep HII.out (drewN_keep (S := fun _ => False) _ _) (fun _ _ h => h)) (HIT.out.drewN ⟨nz, rfl⟩) (fun q hq => by simp [Value.ownBlock] at hq; omega) HTN.out HRV.out HRVT.out (by omega)).mono ?_
                    rintro e w5 ⟨rfl, hI5, hK5⟩
                    have hO5 := (HO.out.drewN nz).setRow (by rw [mix_get _ _ _ (downM_len p N col u) (by rw [downM_len, HNL2.out]; exact hin)]; exact HMI.out) (by rw [HRL.out]; exact HVI.out) (subRow_len p t row rowt (by rw [HRL.out, HRLT.out])) (by rw [HRL.out]; exact hI5) (by rw [HRL.out]; exact hK5)
                    rw [set_step _ _ (col + 1 + k) _ (downM_len _ _ _ _) HSR.out] at hO5
                    have HO5 := Lib.hid hO5
                    have HK5 := Lib.hid ((HKP.out.drewN nz).trans (hK5.mono (T := fun q => w.heap.size ≤ q ∧ q < w1.heap.size) (fun q _ hq => HO.out.foot (col + 1 + k) _ q HVI.out hq)))
                    clear hO5 hI5 hK5
                    go_wp2_with (fail)
                    go_roundw
                    case rel => exact ⟨k + 1, by omega, by go_num, by rw [← Nat.add_assoc]; exact HO5.out, HK5.out⟩
                    case measure => simp [intOf]; omega
                  · obtain rfl : k = n - (col + 1) := by omega
                    rw [show col + 1 + (n - (col + 1)) = n by omega, mixDone (by rw [downM_len]; exact HNL2.out) HNL2.out] at hom
                    have HO5 := Lib.hid hom
                    have HK5 := Lib.hid hkp
                    clear hom hkp
                    go_wp2_with (fail)
                    go_roundw
                    case rel => exact ⟨col + 1, _, _, vs', by omega, by go_num, rfl, HDE2.out, HO5.out, HK5.out⟩
                    case measure => simp [intOf]; omega
            · have hqr : ((r : Int) != (col : Int)) = true := neInt hrc
              have HDE1 := Lib.hid (show detE p M (col + 1) = some (downM p (swapM N r col) col (invM p (at2 (swapM N r col) col col)), -d % p * at2 (swapM N r col) col col % p) by rw [detE_step HDN.out, detStep_some hsome, if_neg hrc])
              have HNZ1 := Lib.hid hf3
              obtain ⟨rowR, bk, ck, hmR, hrlR, hrvR, hRx, hfR⟩ := HO.out.cellAt HV.out hrn
              obtain ⟨hvR, hcR, hIR, hIAR⟩ := hRx hl1
              obtain ⟨rowT, bT, cT, hmT, hrlT, hrvT, hTx, hfT⟩ := HO.out.cellAt HV.out hlt
              obtain ⟨hvT, hcT, hIT, hIAT⟩ := hTx hl1
              obtain ⟨hO2, hK2⟩ := HO.out.swapped' hrn hlt hvR hvT
              obtain ⟨v2, hv2⟩ : ∃ v2, (wo.setCell ⟨g, r, none⟩ (.slice (some ⟨bT, 0, none⟩) n cT)).cell? ⟨g, col, none⟩ = some v2 := ⟨_, (World.cell?_setCell_other _ _ _ _ (fun h => hrc (congrArg Addr.off h))).trans hcT⟩
              obtain ⟨N2, hN2⟩ : ∃ N2, swapM N r col = N2 := ⟨_, rfl⟩
              obtain ⟨vs2, hvs2⟩ : ∃ vs2, swapV vs' r col = vs2 := ⟨_, rfl⟩
              obtain ⟨d2, hd2⟩ : ∃ d2, (p - d) % p = d2 := ⟨_, rfl⟩
              have hd0 : 0 ≤ d2 := hd2 ▸ Int.emod_nonneg _ (by omega)
              have hd1 : d2 < p := hd2 ▸ Int.emod_lt_of_pos _ (by omega)
              have hd3 : -d % p = d2 := by rw [← hd2, Int.sub_eq_add_neg, Int.add_emod_left]
              rw [hN2] at hO2
              rw [hvs2] at hO2
              rw [hN2, hd3] at HDE1
              have HDE := HDE1
              have HVM2 := Lib.hid (show VM p n N2 from hN2 ▸ HV.out.swap (i := r) (j := col) (by rw [HNL.out]; exact hrn) (by rw [HNL.out]; exact hlt))
              have HNL2 := Lib.hid (show N2.length = n by rw [← hN2, swapM_len]; exact HNL.out)
              have HNZ := Lib.hid (show at2 N2 col col ≠ 0 by
                have e2 : at2 (swapM N r col) col col = at2 N r col := by unfold at2; rw [getD_congr (swapM_at (by rw [HNL.out]; exact hrn) (by rw [HNL.out]; exact hlt))]
                rw [← hN2, e2]; exact HNZ1.out)
              have HO2' := Lib.hid hO2
              have HK2' := Lib.hid (HK.out.trans (hK2.mono (T := fun q => w.heap.size ≤ q ∧ q < w1.heap.size) (fun q _ hq => by rw [hq]; exact ⟨(HOF.out.om.out.lt g rfl).1, (HOF.out.om.out.lt g rfl).2⟩)))
              have HD2 := Lib.hid hd2
              clear HDE1 HNZ1 hmR hrlR hrvR hRx hvR hIR hIAR hmT hrlT hrvT hTx hvT hIT hIAT hO2 hK2 hN2 hvs2 hd2 hd3 hsome hf1 hf2' hf3 hrc
              go_wp2_with (fail)
              go_region
              go_wp2_with (fail)
              refine (negative_is HD2.out _ hpb.1 hpb.2 hdb.1 hdb.2.1).mono ?_
              rintro e w3 ⟨rfl, rfl⟩
              obtain ⟨w2, hw2⟩ : ∃ w2, w2 = (((wo.setCell ⟨g, r, none⟩ (.slice (some ⟨bT, 0, none⟩) n cT)).setCell ⟨g, col, none⟩ (.slice (some ⟨bk, 0, none⟩) n ck)).drew) := ⟨_, rfl⟩
              rw [← hw2]
              have HO2 := Lib.hid (show OMF w2 w.heap.size w1.heap.size g n c1 N2 vs2 from hw2 ▸ HO2'.out.drewN 1)
              have HK2 := Lib.hid (show Keep (fun q => w.heap.size ≤ q ∧ q < w1.heap.size) w1 w2 from hw2 ▸ HK2'.out.drewN 1)
              clear hw2 hv2 hcR hcT hfR hfT
              obtain ⟨row2, b2, c2, hm2, hrl2, hrv2, h2x, hf2⟩ := HO2.out.cellAt HVM2.out hlt
              obtain ⟨hv2, hc2, hI2, hIA2⟩ := h2x hl1
              obtain ⟨x2, hx2, hxc2⟩ := hIA2.cell col hlt
              rw [Nat.zero_add] at hxc2
              have hxn := hrv2 x2 (List.mem_of_getElem? hx2)
              have hxb := numB_bd hxn
              have hat2 : at2 N2 col col = x2 := at2_of hm2 hx2
              have hx20 : x2 ≠ 0 := by rw [← hat2]; exact HNZ.out
              have hmb := mul_bd hd0 (by omega) hxb.1 (by omega)
              obtain ⟨u, hu⟩ : ∃ u, invM p x2 = u := ⟨_, rfl⟩
              have hnb : numBack p x2 = u := by unfold numBack; rw [if_pos ⟨hxn, hx20⟩, hu]
              have hun : numB p u = true := by rw [← hu]; exact numB_mk HP.out (inv_bd HP.out).1 (inv_bd HP.out).2
              have hub := numB_bd hun
              have HDE2 := Lib.hid (show detE p M (col + 1) = some (downM p N2 col u, d2 * x2 % p) by rw [HDE.out, hat2, hu])
              have HNB := Lib.hid hnb
              clear hm2 hrl2 hrv2 h2x hv2 hI2 hIA2 hx2 hxn hat2 hu hnb HDE HNZ hun
              go_wp2_with (fail)
              refine (implNumBack p x2 _).mono ?_
              rintro e w3 ⟨rfl, rfl⟩
              rw [HNB.out]
              have hcapn := HO2.out.cap
              have HO3 := HO2
              have HK3 := HK2
              go_wp2_with (fail)
              · rw [← h]
                have hz : n - c1 = 0 := by omega
                have hz2 : col + 1 = n := by omega
                clear h
                go_loopw [83] (fun i wi => ∃ k : Nat, k ≤ n - c1 ∧ i = .int .i64 k ∧ OMF wi w.heap.size w1.heap.size g n c1 ((downM p N2 col u).take (col + 1 + k) ++ N2.drop (col + 1 + k)) vs2 ∧ Keep (fun q => w.heap.size ≤ q ∧ q < w1.heap.size) w1 wi) (fun i _ => n - (intOf i).toNat)
                case atStart => exact ⟨0, by omega, rfl, by rw [Nat.add_zero, downMix_start (by rw [HNL2.out]; exact hlt)]; exact HO3.out, HK3.out⟩
                case round =>
                  obtain ⟨k, hk, rfl, hom, hkp⟩ := hrel
                  by_cases hlk : k < n - c1
                  · omega
                  · obtain rfl : k = 0 := by omega
                    rw [show col + 1 + 0 = n by omega, mixDone (by rw [downM_len]; exact HNL2.out) HNL2.out] at hom
                    have HO5 := Lib.hid hom
                    have HK5 := Lib.hid hkp
                    clear hom hkp
                    go_wp2_with (fail)
                    go_roundw
                    case rel => exact ⟨col + 1, _, _, vs2, by omega, by go_num, rfl, HDE2.out, HO5.out, HK5.out⟩
                    case measure => simp [intOf]; omega
              · go_loopw [83] (fun i wi => ∃ k : Nat, k ≤ n - (col + 1) ∧ i = .int .i64 k ∧ OMF wi w.heap.size w1.heap.size g n c1 ((downM p N2 col u).take (col + 1 + k) ++ N2.drop (col + 1 + k)) vs2 ∧ Keep (fun q => w.heap.size ≤ q ∧ q < w1.heap.size) w1 wi) (fun i _ => n - (intOf i).toNat)
                case atStart => exact ⟨0, by omega, rfl, by rw [Nat.add_zero, downMix_start (by rw [HNL2.out]; exact hlt)]; exact HO3.out, HK3.out⟩
                case round =>
                  obtain ⟨k, hk, rfl, hom, hkp⟩ := hrel
                  by_cases hlk : k < n - (col + 1)
                  · have hin : col + 1 + k < n := by omega
                    have hVM := HVM2.out.downMix (col := col) (k := col + 1 + k) (back := u) HP.out (by rw [HNL2.out]; exact hlt)
                    obtain ⟨row, bi, ci, hmi, hrl, hrv, hix, hfi⟩ := hom.cellAt hVM hin
                    obtain ⟨hvi, hci, hIi, hIAi⟩ := hix hl1
                    obtain ⟨rowt, bt, ct, hmt, hrlt, hrvt, htx, hft⟩ := hom.cellAt hVM hlt
                    obtain ⟨hvt, hct, hIt, hIAt⟩ := htx hl1
                    have hbne : bt ≠ bi := hom.apart (i := col) (j := col + 1 + k) (by omega) hvt hvi
                    rw [mix_get _ _ _ (downM_len p N2 col u) (by rw [downM_len, HNL2.out]; exact hin)] at hmi
                    rw [downMix_low (by rw [HNL2.out]; exact hlt) (Nat.le_refl _)] at hmt
                    obtain ⟨x, hx, hxc⟩ := hIAi.cell col hlt
                    rw [Nat.zero_add] at hxc
                    have hxb' := numB_bd (hrv x (List.mem_of_getElem? hx))
                    have hmb2 := mul_bd hxb'.1 (by omega) hub.1 (by omega)
                    have hat : at2 N2 (col + 1 + k) col = x := at2_of hmi hx
                    obtain ⟨t, ht⟩ : ∃ t, x * u % p = t := ⟨_, rfl⟩
                    have HTN := Lib.hid (show numB p t = true by rw [← ht]; exact numB_emod HP.out _)
                    have HSR := Lib.hid (show (downM p N2 col u)[col + 1 + k]? = some (subRow p t row rowt) by
                      rw [downM_get _ _ _ _ _ (by rw [HNL2.out]; exact hin)]; unfold downRow; rw [if_neg (by omega), hat, getD_of hmi, getD_of hmt, ht])
                    have HO := Lib.hid hom
                    have HKP := Lib.hid hkp
                    have HMI := Lib.hid hmi
                    have HVI := Lib.hid hvi
                    have HRL := Lib.hid hrl
                    have HRV := Lib.hid hrv
                    have HRVT := Lib.hid hrvt
                    have HRLT := Lib.hid hrlt
                    have HII := Lib.hid hIi
                    have HIT := Lib.hid hIAt
                    have HT := Lib.hid ht
                    clear hom hkp hmi hmt hvi hvt hrl hrv hrlt hrvt hIi hIt hIAi hIAt hx hat hix htx hVM ht
                    go_wp2_with (fail)
                    refine wp_quiet_tail 14 (by kernel_rfl) (by kernel_rfl) ?_
                    simp only [List.take_succ_cons, List.take_zero, List.drop_succ_cons, List.drop_zero]
                    repeat (go_big_quiet_step (fail))
                    refine wpQuiet_nil ?_
                    intro _ hw'
                    obtain ⟨nz, hw''⟩ := hw'
                    subst hw''
                    go_wp2_with (fail)
                    rw [HT.out]
                    refine (takeRow_any p t w.heap.size _ n ci row _ ct bt 0 rowt _ (owns_keep HII.out (drewN_keep (S := fun _ => False) _ _) (fun _ _ h => h)) (HIT.out.drewN ⟨nz, rfl⟩) (fun q hq => by simp [Value.ownBlock] at hq; omega) HTN.out HRV.out HRVT.out (by omega)).mono ?_
                    rintro e w5 ⟨rfl, hI5, hK5⟩
                    have hO5 := (HO.out.drewN nz).setRow (by rw [mix_get _ _ _ (downM_len p N2 col u) (by rw [downM_len, HNL2.out]; exact hin)]; exact HMI.out) (by rw [HRL.out]; exact HVI.out) (subRow_len p t row rowt (by rw [HRL.out, HRLT.out])) (by rw [HRL.out]; exact hI5) (by rw [HRL.out]; exact hK5)
                    rw [set_step _ _ (col + 1 + k) _ (downM_len _ _ _ _) HSR.out] at hO5
                    have HO5 := Lib.hid hO5
                    have HK5 := Lib.hid ((HKP.out.drewN nz).trans (hK5.mono (T := fun q => w.heap.size ≤ q ∧ q < w1.heap.size) (fun q _ hq => HO.out.foot (col + 1 + k) _ q HVI.out hq)))
                    clear hO5 hI5 hK5
                    go_wp2_with (fail)
                    go_roundw
                    case rel => exact ⟨k + 1, by omega, by go_num, by rw [← Nat.add_assoc]; exact HO5.out, HK5.out⟩
                    case measure => simp [intOf]; omega
                  · obtain rfl : k = n - (col + 1) := by omega
                    rw [show col + 1 + (n - (col + 1)) = n by omega, mixDone (by rw [downM_len]; exact HNL2.out) HNL2.out] at hom
                    have HO5 := Lib.hid hom
                    have HK5 := Lib.hid hkp
                    clear hom hkp
                    go_wp2_with (fail)
                    go_roundw
                    case rel => exact ⟨col + 1, _, _, vs2, by omega, by go_num, rfl, HDE2.out, HO5.out, HK5.out⟩
                    case measure => simp [intOf]; omega
        · obtain rfl : col = n := by omega
          have HR0 := Lib.hid (show detR p M = d by rw [HR.out]; exact detV_some (N := N) (by rw [HML.out]; exact HDN.out))
          go_wp2_with (fail)
          go_ret
          exact ⟨by rw [HR0.out]; rfl, HB.out.trans (HK.out.below (B := w.heap.size) hsz1 (fun q hq => hq.1))⟩
    · have hq : ((n : Int) != (l0 : Int)) = true := neInt hsq
      have HV := Lib.hid hv
      have HR := Lib.hid (show detR p M = -1 from detR_odd (by rw [hl0, hL]; exact hsq))
      clear hv hvm hp hL hrows hl0
      go_enter Try.func6, Try.ntmps6
      go_wp2_with (fail)
      refine (implMatValid p _ n c b o M _ H.out).mono ?_
      rintro e w1 ⟨rfl, rfl⟩
      rw [HV.out]
      go_wp2_with (fail)
      go_ret
      exact ⟨by rw [HR.out]; rfl, Below.refl _ _⟩
end Go.Proofs.Ytpelokdgjdljfac

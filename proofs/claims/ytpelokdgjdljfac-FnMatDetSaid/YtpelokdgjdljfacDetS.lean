/-
  The contract of the model's MatDet.
-/
import Derived.Test.YtpelokdgjdljfacDetI
import Derived.Test.YtpelokdgjdljfacFormM
namespace Go.Proofs.Ytpelokdgjdljfac
open Go.RowKit
set_option maxRecDepth 100000 in
set_option maxHeartbeats 1600000 in
theorem specMatDet (p : Int) (A : Option Addr) (n c b o : Nat) (M : List (List Int)) (w : World) (h : RA w A n b o M) :
    Calls Try.prog 7 #[.int .i64 p, .slice A n c] w (IntBelow (detR p M) w) := by
  have hbig := h.big
  have H := Lib.hid h
  clear h
  rcases hv : matB p M
  · have HV := Lib.hid hv
    have HR := Lib.hid (detR_no hv)
    clear hv
    go_enter Try.func7, Try.ntmps7
    go_wp2_with (fail)
    refine (specMatValid p A n c b o M _ H.out).mono ?_
    rintro e w1 ⟨rfl, m, rfl⟩
    rw [HV.out]
    go_wp2_with (fail)
    go_ret
    exact ⟨by rw [HR.out]; rfl, below_undraw (Below.refl _ _)⟩
  · obtain ⟨hn1, hn8, hl1, hl8, hrows⟩ := matB_true hv
    have hL := H.out.len
    obtain ⟨l0, hl0⟩ : ∃ l0, (M.headD []).length = l0 := ⟨_, rfl⟩
    have hvm := VM_of_mat hv
    have hp := prime_of_mat hv
    rw [hl0] at hl1 hl8 hrows hvm
    rw [hL] at hn1 hn8
    have HRW := Lib.hid (show ∀ row ∈ M, row.length = l0 from fun row hr => (hrows row hr).1)
    obtain ⟨row0, A0, c0, b0, o0, hm0, hc0, hI0⟩ := H.out.row 0 (by omega)
    have hr0 := HRW.out row0 (List.mem_of_getElem? hm0)
    rw [hr0, Nat.add_zero] at hc0
    obtain rfl := H.out.adr (by omega)
    clear hm0 hI0 hr0
    by_cases hsq : n = l0
    · subst hsq
      have hR : detR p M = detV p M := detR_yes hv (by rw [hl0, hL])
      have hq : ((n : Int) != (n : Int)) = false := by simp
      have hpb := prime_ge hp
      have HV := Lib.hid hv
      have HR := Lib.hid hR
      have HVM := Lib.hid hvm
      have HP := Lib.hid hp
      have HML := Lib.hid hL
      clear hv hR hvm hp hL hrows hl0
      go_enter Try.func7, Try.ntmps7
      go_wp2_with (fail)
      refine (specMatValid p _ n c b o M _ H.out).mono ?_
      rintro e w1 ⟨rfl, md, rfl⟩
      rw [HV.out]
      go_wp2_with (fail)
      refine (specCopy _ n c b o n M _ (H.out.seen md) hn8 hl1 (by omega) HRW.out).mono ?_
      rintro e w1 ⟨A1, c1, vs, rfl, hO, hB⟩
      obtain ⟨g, hg⟩ := hO.addr hn1
      subst hg
      have hO' : OM w1 w.heap.size (some ⟨g, 0, none⟩) n c1 M vs := hO
      have HOF := Lib.hid (OMF.mk hO' (hO'.out.lt g rfl).2 hO'.foot)
      have hsz1 := hB.size
      have HB := Lib.hid (below_undraw hB)
      have h1B := numB_bd (numB_one HP.out)
      clear hO hB hO'
      go_wp2_with (fail)
      go_loopw [6, 7] (fun dv i wr => ∃ (col : Nat) (N : List (List Int)) (d : Int) (vs' : List Value), col ≤ n ∧ i = .int .i64 col ∧ dv = .int .i64 d ∧ detE p M col = some (N, d) ∧ OMF wr w.heap.size w1.heap.size g n c1 N vs' ∧ Keep (fun q => w.heap.size ≤ q ∧ q < w1.heap.size) w1 wr) (fun _ i _ => n - (intOf i).toNat)
      case atStart => exact ⟨0, M, 1, vs, by omega, rfl, rfl, rfl, HOF.out, Keep.refl _ _⟩
      case round =>
        obtain ⟨col, N, d, vs', hcol, rfl, rfl, hde, hom, hkp⟩ := hrel
        obtain ⟨wo, rfl⟩ : ∃ wo : World, wo = wr := ⟨_, rfl⟩
        obtain ⟨hNl, hNV, hdB⟩ := detE_inv HP.out HVM.out col (by rw [HML.out]; exact hcol) N d hde
        rw [HML.out] at hNl
        have HDN := Lib.hid hde
        have HO := Lib.hid hom
        have HK := Lib.hid hkp
        have HV := Lib.hid hNV
        have HNL := Lib.hid hNl
        have hdb := numB_bd hdB
        clear hde hom hkp hNV hNl hdB
        by_cases hlt : col < n
        · go_wp2_with (fail)
          go_loop [8] (fun i => ∃ k : Nat, col ≤ k ∧ k ≤ n ∧ i = .int .i64 k ∧ Hid (∀ q, col ≤ q → q < k → at2 N q col = 0)) (fun i => n - (intOf i).toNat)
          case atStart => exact ⟨col, Nat.le_refl _, by omega, rfl, fun q h1 h2 => absurd h2 (by omega)⟩
          case round =>
            obtain ⟨r, hk0, hk, rfl, hz⟩ := hrel
            by_cases hrn : r < n
            · obtain ⟨rowR, bk, ck, hmR, hrlR, hrvR, hRx, hfR⟩ := HO.out.cellAt HV.out hrn
              obtain ⟨hvR, hcR, hIR, hIAR⟩ := hRx hl1
              obtain ⟨x, hx, hxc⟩ := hIAR.cell col hlt
              rw [Nat.zero_add] at hxc
              have HAT := Lib.hid (at2_of hmR hx)
              have HVR := Lib.hid hvR
              clear hRx hmR hrlR hrvR hvR hIR hIAR hx
              by_cases hx0 : x = 0
              · have hb : (x == 0) = true := by simp [hx0]
                have HX0 := Lib.hid hx0
                clear hx0
                go_wp2_with (fail)
                go_round
                case rel => exact ⟨r + 1, by omega, by omega, by go_num, fun q h1 h2 => if e : q = r then by rw [e, HAT.out, HX0.out] else hz.out q h1 (by omega)⟩
                case measure => simp [intOf]; omega
              · have hb : (x == 0) = false := by simp [hx0]
                have HSM := Lib.hid (show firstW N col (N.length - col) col = some r from firstW_is hk0 (by rw [HNL.out]; omega) (by rw [HAT.out]; exact hx0) hz.out)
                have hqn : ((r : Int) == (n : Int)) = false := by rw [beq_eq_false_iff_ne]; omega
                have HX0 := Lib.hid hx0
                clear hx0
                by_cases hrc : r = col
                · obtain rfl : col = r := hrc.symm
                  have hqr : ((col : Int) != (col : Int)) = false := by simp
                  have hd0 := hdb.1
                  have HDE := Lib.hid (show detE p M (col + 1) = some (downM p N col (invM p (at2 N col col)), d * at2 N col col % p) by rw [detE_step HDN.out, detStep_some HSM.out, swapM_self N col (by rw [HNL.out]; exact hlt), if_pos rfl])
                  have HO2 := HO
                  have HVM2 := HV
                  have HK2 := HK
                  have HNL2 := HNL
                  have HNZ := Lib.hid (show at2 N col col ≠ 0 by rw [HAT.out]; exact HX0.out)
                  clear hrc hcR hfR hxc HAT HVR HSM HDN
                  obtain ⟨row2, b2, c2, hm2, hrl2, hrv2, h2x, hf2⟩ := HO2.out.cellAt HVM2.out hlt
                  obtain ⟨hv2, hc2, hI2, hIA2⟩ := h2x hl1
                  obtain ⟨x2, hx2, hxc2⟩ := hIA2.cell col hlt
                  rw [Nat.zero_add] at hxc2
                  have hxn := hrv2 x2 (List.mem_of_getElem? hx2)
                  have hxb := numB_bd hxn
                  have hat2 : at2 N col col = x2 := at2_of hm2 hx2
                  have hb2 : (x2 == 0) = false := by have h9 := HNZ.out; rw [hat2] at h9; simp [h9]
                  have hmb := mul_bd hd0 (by omega) hxb.1 (by omega)
                  obtain ⟨u, hu⟩ : ∃ u, invM p x2 = u := ⟨_, rfl⟩
                  have hun : numB p u = true := by rw [← hu]; exact numB_mk HP.out (inv_bd HP.out).1 (inv_bd HP.out).2
                  have hub := numB_bd hun
                  have HDE2 := Lib.hid (show detE p M (col + 1) = some (downM p N col u, d * x2 % p) by rw [HDE.out, hat2, hu])
                  have HU := Lib.hid hu
                  clear hm2 hrl2 hrv2 h2x hv2 hI2 hIA2 hx2 hxn hat2 hu HDE hun HNZ
                  go_wp2_with (fail)
                  refine (specBack p x2 _ HP.out hxb.1 hxb.2.1).mono ?_
                  rintro e w3 ⟨rfl, rfl⟩
                  rw [HU.out]
                  go_wp2_with (fail)
                  go_loopw [11] (fun i wi => ∃ k : Nat, k ≤ n - (col + 1) ∧ i = .int .i64 ((col + 1 + k : Nat) : Int) ∧ OMF wi w.heap.size w1.heap.size g n c1 ((downM p N col u).take (col + 1 + k) ++ N.drop (col + 1 + k)) vs' ∧ Keep (fun q => w.heap.size ≤ q ∧ q < w1.heap.size) w1 wi) (fun i _ => n - (intOf i).toNat)
                  case atStart => exact ⟨0, by omega, by go_num, by rw [Nat.add_zero, downMix_start (by rw [HNL2.out]; exact hlt)]; exact HO2.out, HK2.out⟩
                  case round =>
                    obtain ⟨k, hk, rfl, hom, hkp⟩ := hrel
                    obtain ⟨ri, hri⟩ : ∃ ri, col + 1 + k = ri := ⟨_, rfl⟩
                    simp only [hri] at hom ⊢
                    by_cases hin : ri < n
                    · have hVM := HVM2.out.downMix (col := col) (k := ri) (back := u) HP.out (by rw [HNL2.out]; exact hlt)
                      have HVX := Lib.hid hVM
                      obtain ⟨row, bi, ci, hmi, hrl, hrv, hix, hfi⟩ := hom.cellAt hVM hin
                      obtain ⟨hvi, hci, hIi, hIAi⟩ := hix hl1
                      obtain ⟨rowt, bt, ct, hmt, hrlt, hrvt, htx, hft⟩ := hom.cellAt hVM hlt
                      obtain ⟨hvt, hct, hIt, hIAt⟩ := htx hl1
                      rw [mix_get _ _ _ (downM_len p N col u) (by rw [downM_len, HNL2.out]; exact hin)] at hmi
                      have hmt0 := hmt
                      rw [downMix_low (by rw [HNL2.out]; exact hlt) (Nat.le_refl _)] at hmt
                      obtain ⟨x, hx, hxc⟩ := hIAi.cell col hlt
                      rw [Nat.zero_add] at hxc
                      have hxb' := numB_bd (hrv x (List.mem_of_getElem? hx))
                      have hmb2 := mul_bd hxb'.1 (by omega) hub.1 (by omega)
                      have hat : at2 N ri col = x := at2_of hmi hx
                      obtain ⟨t, ht⟩ : ∃ t, x * u % p = t := ⟨_, rfl⟩
                      have htn : numB p t = true := by rw [← ht]; exact numB_emod HP.out _
                      have htb := numB_bd htn
                      have HSR := Lib.hid (show (downM p N col u)[ri]? = some (subRow p t row rowt) by
                        rw [downM_get _ _ _ _ _ (by rw [HNL2.out]; exact hin)]; unfold downRow; rw [if_neg (by omega), hat, getD_of hmi, getD_of hmt, ht])
                      have HO := Lib.hid hom
                      have HKP := Lib.hid hkp
                      have HMI := Lib.hid hmi
                      have HMT := Lib.hid hmt0
                      have HRL := Lib.hid hrl
                      have HRV := Lib.hid hrv
                      have HRVT := Lib.hid hrvt
                      have HRLT := Lib.hid hrlt
                      have HT := Lib.hid ht
                      clear hom hkp hmi hmt hmt0 hvi hvt hrl hrv hrlt hrvt hIi hIt hIAi hIAt hx hat hix htx hVM ht htn
                      go_wp2_with (fail)
                      rw [HT.out]
                      go_loopw [13] (fun i wi => ∃ s : Nat, s ≤ n ∧ i = .int .i64 s ∧ OMF wi w.heap.size w1.heap.size g n c1 (((downM p N col u).take ri ++ N.drop ri).set ri ((subRow p t row rowt).take s ++ row.drop s)) vs' ∧ Keep (fun q => w.heap.size ≤ q ∧ q < w1.heap.size) w1 wi) (fun i _ => n - (intOf i).toNat)
                      case atStart => exact ⟨0, by omega, rfl, by rw [List.take_zero, List.nil_append, List.drop_zero, set_same (by rw [mix_get _ _ _ (downM_len p N col u) (by rw [downM_len, HNL2.out]; exact hin)]; exact HMI.out)]; exact HO.out, HKP.out⟩
                      case round =>
                        obtain ⟨s, hs', rfl, hom, hkp⟩ := hrel
                        have hsl : (subRow p t row rowt).length = n := subRow_full HRL.out HRLT.out
                        have hVq := HVX.out.mixRow (i := ri) hsl HRL.out hs' (subRow_valid HP.out row rowt) HRV.out
                        obtain ⟨rowq, bq, cq, hmq, hrlq, hrvq, hqx, hfq⟩ := hom.cellAt hVq hin
                        obtain ⟨hvq, hcq, hIq, hIAq⟩ := hqx hl1
                        obtain ⟨rowt', bt', ct', hmt', hrlt', hrvt', htx', hft'⟩ := hom.cellAt hVq hlt
                        obtain ⟨hvt', hct', hIt', hIAt'⟩ := htx' hl1
                        have hml : ri < ((downM p N col u).take ri ++ N.drop ri).length := by simp [downM_len, HNL2.out]; omega
                        rw [List.getElem?_set_self hml] at hmq
                        obtain rfl := Option.some.inj hmq
                        rw [List.getElem?_set_ne (by omega), HMT.out] at hmt'
                        obtain rfl := Option.some.inj hmt'
                        by_cases hlq : s < n
                        · have hl := HRL.out
                          have hlt' := HRLT.out
                          have hxq : row[s]? = some (row[s]'(by omega)) := List.getElem?_eq_getElem (by omega)
                          obtain ⟨z, hz⟩ : ∃ z, row[s]'(by omega) = z := ⟨_, rfl⟩
                          rw [hz] at hxq
                          have hzb := numB_bd (HRV.out z (List.mem_of_getElem? hxq))
                          obtain ⟨z', hz', hzc⟩ := hIAq.cell s hlq
                          rw [mix_get _ _ _ (by rw [hsl]; omega) (by rw [hsl]; exact hlq), hxq] at hz'
                          obtain rfl := Option.some.inj hz'
                          obtain ⟨y, hy, hyc⟩ := hIAt'.cell s hlq
                          have hyb := numB_bd (HRVT.out y (List.mem_of_getElem? hy))
                          have hmb3 := mul_bd htb.1 (by omega) hyb.1 (by omega)
                          rw [Nat.zero_add] at hzc hyc
                          have hfz := World.ownsRow.frozenAt hIq s
                          obtain ⟨hO4, hK4⟩ := hom.store (List.getElem?_set_self hml) hrlq hvq hIq (q := s) ((z - t * y) % p)
                          rw [List.set_set, mix_set (by rw [hsl]; omega) (subRow_get hxq hy)] at hO4
                          have HO4 := Lib.hid hO4
                          have HK4 := Lib.hid (hkp.trans hK4)
                          obtain ⟨u', hu'⟩ : ∃ u', (z - t * y) % p = u' := ⟨_, rfl⟩
                          rw [hu'] at HO4 HK4
                          have HU' := Lib.hid hu'
                          clear hO4 hK4 hkp hom hVq hrlq hrvq hqx hvq hIq hIAq hl hxq hz hz' hy hml hsl hlt' hrlt' hrvt' htx' hvt' hIt' hIAt' hu'
                          go_wp2_with (fail)
                          refine wp_quiet_tail 25 (by kernel_rfl) (by kernel_rfl) ?_
                          simp only [List.take_succ_cons, List.take_zero, List.drop_succ_cons, List.drop_zero]
                          repeat (go_big_quiet_step ((go_at_call 28; exact quiet_same (l1Mod_is HU'.out _ hpb.1 hpb.2))))
                          refine wpQuiet_nil ?_
                          intro _ hw'
                          obtain ⟨nq, hw''⟩ := hw'
                          subst hw''
                          go_wp2_with (fail)
                          go_roundw
                          case rel => exact ⟨s + 1, by omega, by go_num, HO4.out.drewN _, HK4.out.drewN _⟩
                          case measure => simp [intOf]; omega
                        · obtain rfl : s = n := by omega
                          rw [mixDone hsl HRL.out, set_step _ _ ri _ (downM_len _ _ _ _) HSR.out] at hom
                          have HO5 := Lib.hid hom
                          have HK5 := Lib.hid hkp
                          clear hom hkp hVq hrlq hrvq hqx hvq hIq hIAq hml hsl hrlt' hrvt' htx' hvt' hIt' hIAt'
                          go_wp2_with (fail)
                          go_roundw
                          case rel => exact ⟨k + 1, by omega, by rw [← hri]; go_num, by rw [← Nat.add_assoc, hri]; exact HO5.out, HK5.out⟩
                          case measure => simp [intOf]; omega
                    · obtain rfl : ri = n := by omega
                      rw [mixDone (by rw [downM_len]; exact HNL2.out) HNL2.out] at hom
                      have HO5 := Lib.hid hom
                      have HK5 := Lib.hid hkp
                      clear hom hkp
                      go_wp2_with (fail)
                      go_roundw
                      case rel => exact ⟨col + 1, _, _, vs', by omega, by go_num, rfl, HDE2.out, HO5.out, HK5.out⟩
                      case measure => simp [intOf]; omega
                · have hqr : ((r : Int) != (col : Int)) = true := neInt hrc
                  obtain ⟨rowT, bT, cT, hmT, hrlT, hrvT, hTx, hfT⟩ := HO.out.cellAt HV.out hlt
                  obtain ⟨hvT, hcT, hIT, hIAT⟩ := hTx hl1
                  obtain ⟨hO2, hK2⟩ := HO.out.swapped' hrn hlt HVR.out hvT
                  obtain ⟨v2, hv2⟩ : ∃ v2, (wo.setCell ⟨g, r, none⟩ (.slice (some ⟨bT, 0, none⟩) n cT)).cell? ⟨g, col, none⟩ = some v2 := ⟨_, (World.cell?_setCell_other _ _ _ _ (fun h => hrc (congrArg Addr.off h))).trans hcT⟩
                  have HDE1 := Lib.hid (show detE p M (col + 1) = some (downM p (swapM N r col) col (invM p (at2 (swapM N r col) col col)), -d % p * at2 (swapM N r col) col col % p) by rw [detE_step HDN.out, detStep_some HSM.out, if_neg hrc])
                  obtain ⟨N2, hN2⟩ : ∃ N2, swapM N r col = N2 := ⟨_, rfl⟩
                  obtain ⟨vs2, hvs2⟩ : ∃ vs2, swapV vs' r col = vs2 := ⟨_, rfl⟩
                  obtain ⟨d2, hd2⟩ : ∃ d2, -d % p = d2 := ⟨_, rfl⟩
                  have hd0 : 0 ≤ d2 := hd2 ▸ Int.emod_nonneg _ (by omega)
                  have hd1 : d2 < p := hd2 ▸ Int.emod_lt_of_pos _ (by omega)
                  rw [hN2] at hO2
                  rw [hvs2] at hO2
                  rw [hN2, hd2] at HDE1
                  have HDE := HDE1
                  have HVM2 := Lib.hid (show VM p n N2 from hN2 ▸ HV.out.swap (i := r) (j := col) (by rw [HNL.out]; exact hrn) (by rw [HNL.out]; exact hlt))
                  have HNL2 := Lib.hid (show N2.length = n by rw [← hN2, swapM_len]; exact HNL.out)
                  have HNZ := Lib.hid (show at2 N2 col col ≠ 0 by
                    have e2 : at2 (swapM N r col) col col = at2 N r col := by unfold at2; rw [getD_congr (swapM_at (by rw [HNL.out]; exact hrn) (by rw [HNL.out]; exact hlt))]
                    rw [← hN2, e2, HAT.out]; exact HX0.out)
                  have HO2' := Lib.hid hO2
                  have HK2' := Lib.hid (HK.out.trans (hK2.mono (T := fun q => w.heap.size ≤ q ∧ q < w1.heap.size) (fun q _ hq => by rw [hq]; exact ⟨(HOF.out.om.out.lt g rfl).1, (HOF.out.om.out.lt g rfl).2⟩)))
                  have HD2 := Lib.hid hd2
                  clear HDE1 hmT hrlT hrvT hTx hvT hIT hIAT hO2 hK2 hN2 hvs2 hd2 hrc HAT HVR HSM HDN
                  go_wp2_with (fail)
                  refine (l1Mod_is HD2.out _ hpb.1 hpb.2).mono ?_
                  rintro e w3 ⟨rfl, rfl⟩
                  obtain ⟨w2, hw2⟩ : ∃ w2, w2 = (wo.setCell ⟨g, r, none⟩ (.slice (some ⟨bT, 0, none⟩) n cT)).setCell ⟨g, col, none⟩ (.slice (some ⟨bk, 0, none⟩) n ck) := ⟨_, rfl⟩
                  rw [← hw2]
                  have HO2 := Lib.hid (show OMF w2 w.heap.size w1.heap.size g n c1 N2 vs2 from hw2 ▸ HO2'.out)
                  have HK2 := Lib.hid (show Keep (fun q => w.heap.size ≤ q ∧ q < w1.heap.size) w1 w2 from hw2 ▸ HK2'.out)
                  clear hw2 hv2 hcR hcT hfR hfT hxc
                  obtain ⟨row2, b2, c2, hm2, hrl2, hrv2, h2x, hf2⟩ := HO2.out.cellAt HVM2.out hlt
                  obtain ⟨hv2, hc2, hI2, hIA2⟩ := h2x hl1
                  obtain ⟨x2, hx2, hxc2⟩ := hIA2.cell col hlt
                  rw [Nat.zero_add] at hxc2
                  have hxn := hrv2 x2 (List.mem_of_getElem? hx2)
                  have hxb := numB_bd hxn
                  have hat2 : at2 N2 col col = x2 := at2_of hm2 hx2
                  have hb2 : (x2 == 0) = false := by have h9 := HNZ.out; rw [hat2] at h9; simp [h9]
                  have hmb := mul_bd hd0 (by omega) hxb.1 (by omega)
                  obtain ⟨u, hu⟩ : ∃ u, invM p x2 = u := ⟨_, rfl⟩
                  have hun : numB p u = true := by rw [← hu]; exact numB_mk HP.out (inv_bd HP.out).1 (inv_bd HP.out).2
                  have hub := numB_bd hun
                  have HDE2 := Lib.hid (show detE p M (col + 1) = some (downM p N2 col u, d2 * x2 % p) by rw [HDE.out, hat2, hu])
                  have HU := Lib.hid hu
                  clear hm2 hrl2 hrv2 h2x hv2 hI2 hIA2 hx2 hxn hat2 hu HDE hun HNZ
                  go_wp2_with (fail)
                  refine (specBack p x2 _ HP.out hxb.1 hxb.2.1).mono ?_
                  rintro e w3 ⟨rfl, rfl⟩
                  rw [HU.out]
                  go_wp2_with (fail)
                  go_loopw [11] (fun i wi => ∃ k : Nat, k ≤ n - (col + 1) ∧ i = .int .i64 ((col + 1 + k : Nat) : Int) ∧ OMF wi w.heap.size w1.heap.size g n c1 ((downM p N2 col u).take (col + 1 + k) ++ N2.drop (col + 1 + k)) vs2 ∧ Keep (fun q => w.heap.size ≤ q ∧ q < w1.heap.size) w1 wi) (fun i _ => n - (intOf i).toNat)
                  case atStart => exact ⟨0, by omega, by go_num, by rw [Nat.add_zero, downMix_start (by rw [HNL2.out]; exact hlt)]; exact HO2.out, HK2.out⟩
                  case round =>
                    obtain ⟨k, hk, rfl, hom, hkp⟩ := hrel
                    obtain ⟨ri, hri⟩ : ∃ ri, col + 1 + k = ri := ⟨_, rfl⟩
                    simp only [hri] at hom ⊢
                    by_cases hin : ri < n
                    · have hVM := HVM2.out.downMix (col := col) (k := ri) (back := u) HP.out (by rw [HNL2.out]; exact hlt)
                      have HVX := Lib.hid hVM
                      obtain ⟨row, bi, ci, hmi, hrl, hrv, hix, hfi⟩ := hom.cellAt hVM hin
                      obtain ⟨hvi, hci, hIi, hIAi⟩ := hix hl1
                      obtain ⟨rowt, bt, ct, hmt, hrlt, hrvt, htx, hft⟩ := hom.cellAt hVM hlt
                      obtain ⟨hvt, hct, hIt, hIAt⟩ := htx hl1
                      rw [mix_get _ _ _ (downM_len p N2 col u) (by rw [downM_len, HNL2.out]; exact hin)] at hmi
                      have hmt0 := hmt
                      rw [downMix_low (by rw [HNL2.out]; exact hlt) (Nat.le_refl _)] at hmt
                      obtain ⟨x, hx, hxc⟩ := hIAi.cell col hlt
                      rw [Nat.zero_add] at hxc
                      have hxb' := numB_bd (hrv x (List.mem_of_getElem? hx))
                      have hmb2 := mul_bd hxb'.1 (by omega) hub.1 (by omega)
                      have hat : at2 N2 ri col = x := at2_of hmi hx
                      obtain ⟨t, ht⟩ : ∃ t, x * u % p = t := ⟨_, rfl⟩
                      have htn : numB p t = true := by rw [← ht]; exact numB_emod HP.out _
                      have htb := numB_bd htn
                      have HSR := Lib.hid (show (downM p N2 col u)[ri]? = some (subRow p t row rowt) by
                        rw [downM_get _ _ _ _ _ (by rw [HNL2.out]; exact hin)]; unfold downRow; rw [if_neg (by omega), hat, getD_of hmi, getD_of hmt, ht])
                      have HO := Lib.hid hom
                      have HKP := Lib.hid hkp
                      have HMI := Lib.hid hmi
                      have HMT := Lib.hid hmt0
                      have HRL := Lib.hid hrl
                      have HRV := Lib.hid hrv
                      have HRVT := Lib.hid hrvt
                      have HRLT := Lib.hid hrlt
                      have HT := Lib.hid ht
                      clear hom hkp hmi hmt hmt0 hvi hvt hrl hrv hrlt hrvt hIi hIt hIAi hIAt hx hat hix htx hVM ht htn
                      go_wp2_with (fail)
                      rw [HT.out]
                      go_loopw [13] (fun i wi => ∃ s : Nat, s ≤ n ∧ i = .int .i64 s ∧ OMF wi w.heap.size w1.heap.size g n c1 (((downM p N2 col u).take ri ++ N2.drop ri).set ri ((subRow p t row rowt).take s ++ row.drop s)) vs2 ∧ Keep (fun q => w.heap.size ≤ q ∧ q < w1.heap.size) w1 wi) (fun i _ => n - (intOf i).toNat)
                      case atStart => exact ⟨0, by omega, rfl, by rw [List.take_zero, List.nil_append, List.drop_zero, set_same (by rw [mix_get _ _ _ (downM_len p N2 col u) (by rw [downM_len, HNL2.out]; exact hin)]; exact HMI.out)]; exact HO.out, HKP.out⟩
                      case round =>
                        obtain ⟨s, hs', rfl, hom, hkp⟩ := hrel
                        have hsl : (subRow p t row rowt).length = n := subRow_full HRL.out HRLT.out
                        have hVq := HVX.out.mixRow (i := ri) hsl HRL.out hs' (subRow_valid HP.out row rowt) HRV.out
                        obtain ⟨rowq, bq, cq, hmq, hrlq, hrvq, hqx, hfq⟩ := hom.cellAt hVq hin
                        obtain ⟨hvq, hcq, hIq, hIAq⟩ := hqx hl1
                        obtain ⟨rowt', bt', ct', hmt', hrlt', hrvt', htx', hft'⟩ := hom.cellAt hVq hlt
                        obtain ⟨hvt', hct', hIt', hIAt'⟩ := htx' hl1
                        have hml : ri < ((downM p N2 col u).take ri ++ N2.drop ri).length := by simp [downM_len, HNL2.out]; omega
                        rw [List.getElem?_set_self hml] at hmq
                        obtain rfl := Option.some.inj hmq
                        rw [List.getElem?_set_ne (by omega), HMT.out] at hmt'
                        obtain rfl := Option.some.inj hmt'
                        by_cases hlq : s < n
                        · have hl := HRL.out
                          have hlt' := HRLT.out
                          have hxq : row[s]? = some (row[s]'(by omega)) := List.getElem?_eq_getElem (by omega)
                          obtain ⟨z, hz⟩ : ∃ z, row[s]'(by omega) = z := ⟨_, rfl⟩
                          rw [hz] at hxq
                          have hzb := numB_bd (HRV.out z (List.mem_of_getElem? hxq))
                          obtain ⟨z', hz', hzc⟩ := hIAq.cell s hlq
                          rw [mix_get _ _ _ (by rw [hsl]; omega) (by rw [hsl]; exact hlq), hxq] at hz'
                          obtain rfl := Option.some.inj hz'
                          obtain ⟨y, hy, hyc⟩ := hIAt'.cell s hlq
                          have hyb := numB_bd (HRVT.out y (List.mem_of_getElem? hy))
                          have hmb3 := mul_bd htb.1 (by omega) hyb.1 (by omega)
                          rw [Nat.zero_add] at hzc hyc
                          have hfz := World.ownsRow.frozenAt hIq s
                          obtain ⟨hO4, hK4⟩ := hom.store (List.getElem?_set_self hml) hrlq hvq hIq (q := s) ((z - t * y) % p)
                          rw [List.set_set, mix_set (by rw [hsl]; omega) (subRow_get hxq hy)] at hO4
                          have HO4 := Lib.hid hO4
                          have HK4 := Lib.hid (hkp.trans hK4)
                          obtain ⟨u', hu'⟩ : ∃ u', (z - t * y) % p = u' := ⟨_, rfl⟩
                          rw [hu'] at HO4 HK4
                          have HU' := Lib.hid hu'
                          clear hO4 hK4 hkp hom hVq hrlq hrvq hqx hvq hIq hIAq hl hxq hz hz' hy hml hsl hlt' hrlt' hrvt' htx' hvt' hIt' hIAt' hu'
                          go_wp2_with (fail)
                          refine wp_quiet_tail 25 (by kernel_rfl) (by kernel_rfl) ?_
                          simp only [List.take_succ_cons, List.take_zero, List.drop_succ_cons, List.drop_zero]
                          repeat (go_big_quiet_step ((go_at_call 28; exact quiet_same (l1Mod_is HU'.out _ hpb.1 hpb.2))))
                          refine wpQuiet_nil ?_
                          intro _ hw'
                          obtain ⟨nq, hw''⟩ := hw'
                          subst hw''
                          go_wp2_with (fail)
                          go_roundw
                          case rel => exact ⟨s + 1, by omega, by go_num, HO4.out.drewN _, HK4.out.drewN _⟩
                          case measure => simp [intOf]; omega
                        · obtain rfl : s = n := by omega
                          rw [mixDone hsl HRL.out, set_step _ _ ri _ (downM_len _ _ _ _) HSR.out] at hom
                          have HO5 := Lib.hid hom
                          have HK5 := Lib.hid hkp
                          clear hom hkp hVq hrlq hrvq hqx hvq hIq hIAq hml hsl hrlt' hrvt' htx' hvt' hIt' hIAt'
                          go_wp2_with (fail)
                          go_roundw
                          case rel => exact ⟨k + 1, by omega, by rw [← hri]; go_num, by rw [← Nat.add_assoc, hri]; exact HO5.out, HK5.out⟩
                          case measure => simp [intOf]; omega
                    · obtain rfl : ri = n := by omega
                      rw [mixDone (by rw [downM_len]; exact HNL2.out) HNL2.out] at hom
                      have HO5 := Lib.hid hom
                      have HK5 := Lib.hid hkp
                      clear hom hkp
                      go_wp2_with (fail)
                      go_roundw
                      case rel => exact ⟨col + 1, _, _, vs2, by omega, by go_num, rfl, HDE2.out, HO5.out, HK5.out⟩
                      case measure => simp [intOf]; omega
            · obtain rfl : r = n := by omega
              have hqn : ((r : Int) == (r : Int)) = true := by simp
              have HR0 := Lib.hid (show detR p M = 0 by rw [HR.out]; exact detV_none (c := col + 1) (by rw [detE_step HDN.out, detStep_none (firstW_not (fun q h1 h2 => hz.out q h1 (by rw [HNL.out] at h2; omega)))]) (by rw [HML.out]; omega))
              go_wp2_with (fail)
              go_ret
              exact ⟨by rw [HR0.out]; rfl, HB.out.trans (HK.out.below (B := w.heap.size) hsz1 (fun q hq => hq.1))⟩
        · obtain rfl : col = n := by omega
          have HR0 := Lib.hid (show detR p M = d by rw [HR.out]; exact detV_some (N := N) (by rw [HML.out]; exact HDN.out))
          go_wp2_with (fail)
          go_ret
          exact ⟨by rw [HR0.out]; rfl, HB.out.trans (HK.out.below (B := w.heap.size) hsz1 (fun q hq => hq.1))⟩
    · have hq : ((n : Int) != (l0 : Int)) = true := neInt hsq
      have HV := Lib.hid hv
      have HR := Lib.hid (show detR p M = -1 from detR_odd (by rw [hl0, hL]; exact hsq))
      clear hv hvm hp hL hrows hl0
      go_enter Try.func7, Try.ntmps7
      go_wp2_with (fail)
      refine (specMatValid p _ n c b o M _ H.out).mono ?_
      rintro e w1 ⟨rfl, md, rfl⟩
      rw [HV.out]
      go_wp2_with (fail)
      go_ret
      exact ⟨by rw [HR.out]; rfl, below_undraw (Below.refl _ _)⟩
end Go.Proofs.Ytpelokdgjdljfac

/-
  The walk of the law of MatForm.
-/
import Derived.Test.YtpelokdgjdljfabDrawMM
import Derived.Test.YtpelokdgjdljfabSame
import Derived.Test.YtpelokdgjdljfabKerS
import Derived.Test.YtpelokdgjdljfabLin6
namespace Go.Proofs.Ytpelokdgjdljfab
open Go.RowKit
set_option maxRecDepth 100000 in
theorem walkFnMatForm (a : Option Addr) (len cap : Nat) (zs : List Int) (w : World) (h : IsRow .u8 w a len cap zs) :
    Calls Try.prog 7 #[.slice a len cap] w fun e w' => e = .returned (.bool true) ∧ Below w.heap.size w w' := by
  have hm : len ≤ 9223372036854775807 := by have := rowBytes h; unfold maxLen at this; omega
  by_cases hb : 1048576 < len
  · go_enter Try.func7, Try.ntmps7
    go_wp2_with (fail)
    go_ret
    exact ⟨rfl, Below.refl _ _⟩
  · go_enter Try.func7, Try.ntmps7
    go_wp2_with (fail)
    refine (drawMatForm a len cap zs w h).mono ?_
    rintro e w1 ⟨p, Ao, co, M, rfl, hp, hD, hB⟩
    obtain ⟨b, hRA⟩ := hD.ra
    have hML := hD.few
    have hcap := hD.cap
    obtain ⟨n, hn⟩ : ∃ n, M.length = n := ⟨_, rfl⟩
    rw [hn] at hRA hML hcap ⊢
    have HRA := Lib.hid hRA
    clear hD h hRA hp
    obtain ⟨R, hR⟩ : ∃ R, formR p M = R := ⟨_, rfl⟩
    have HR := Lib.hid hR
    clear hR
    go_wp2_with (fail)
    refine (implMatForm p Ao n co b 0 M _ HRA.out).mono ?_
    rw [HR.out]
    rintro e w_1 ⟨AX, cX, vX, rfl, hO, hBq⟩
    obtain ⟨bX, hRq⟩ := hO.ra
    have HX_1 := Lib.hid hRq
    have HRA_1 := Lib.hid (HRA.out.below hBq)
    have hK_1 := below_more hB hBq
    clear hO hRq hBq
    have hRbig := HX_1.out.big
    go_wp2_with (fail)
    refine (specMatForm p Ao n co b 0 M _ HRA_1.out).mono ?_
    rw [HR.out]
    rintro e w_2 ⟨AS, cS, bS, oS, rfl, hRq, hBq⟩
    have HS_2 := Lib.hid hRq
    have HRA_2 := Lib.hid (HRA_1.out.below hBq)
    have HX_2 := Lib.hid (HX_1.out.below hBq)
    have hK_2 := below_more hK_1 hBq
    clear hRq hBq
    go_wp2_with (fail)
    refine (sameRowsC AX R.length cX bX 0 R AS R.length cS bS oS R _ HX_2.out HS_2.out).mono ?_
    rintro e w_3 ⟨rfl, hm_3⟩
    rw [decide_eq_true (rfl : R = R)]
    have HRA_3 := Lib.hid (HRA_2.out.drewN hm_3)
    have HX_3 := Lib.hid (HX_2.out.drewN hm_3)
    have HS_3 := Lib.hid (HS_2.out.drewN hm_3)
    have hK_3 := below_drawn hK_2 hm_3
    clear hm_3
    go_wp2_with (fail)
    refine (specMatValid p Ao n co b 0 M _ HRA_3.out).mono ?_
    rintro e w_4 ⟨rfl, hm_4⟩
    have HRA_4 := Lib.hid (HRA_3.out.drewN hm_4)
    have HX_4 := Lib.hid (HX_3.out.drewN hm_4)
    have hK_4 := below_drawn hK_3 hm_4
    clear hm_4
    rcases hv : matB p M
    · have hR0 : R = [] := by rw [← HR.out, formR_no hv]
      subst hR0
      clear hv
      go_wp2_with (fail)
      refine (alive _).mono ?_
      rintro e w_5 ⟨rfl, rfl⟩
      go_wp2_with (fail)
      go_ret
      exact ⟨rfl, hK_4⟩
    · obtain ⟨hn1, hn8, hl1, hl8, hrows⟩ := matB_true hv
      have hp := prime_ge (prime_of_mat hv)
      have hV := VM_of_mat hv
      obtain ⟨l, hl⟩ : ∃ l, (M.headD []).length = l := ⟨_, rfl⟩
      rw [hl] at hl1 hl8 hrows hV
      rw [hn] at hn1 hn8
      have e1 : formR p R = R := by rw [← HR.out]; exact form_form hv
      have e2 : formR p (moreM p M) = R := by rw [form_more hv]; exact HR.out
      have e3 : kernelR p R = kernelR p M := by rw [← HR.out]; exact kernel_form hv
      have HE1 := Lib.hid e1
      have HE2 := Lib.hid e2
      have HE3 := Lib.hid e3
      have HN := Lib.hid hn
      have HV := Lib.hid hV
      have HL := Lib.hid hl
      have HRW := Lib.hid hrows
      clear hv e1 e2 e3 hn hV hl hrows
      have hs0 := hK_4.size
      go_wp2_with (fail)
      go_loopw [6, 7] (fun v i wr => ∃ (k : Nat) (A' : Option Addr) (c' : Nat) (vs : List Value), k ≤ n ∧ i = .int .i64 k ∧ v = .slice A' k c' ∧ OM wr w_4.heap.size A' k c' ((moreM p M).take k) vs ∧ Below w_4.heap.size w_4 wr) (fun _ i _ => n - (intOf i).toNat)
      case atStart => exact ⟨0, _, _, [], by omega, rfl, rfl, OM.empty w_4, (Below.refl _ _).alloc (Nat.le_refl _) _⟩
      case round =>
        obtain ⟨k, A', c', vs, hk, rfl, rfl, hown, hbel⟩ := hrel
        obtain ⟨wo, rfl⟩ : ∃ wo : World, wo = wr := ⟨_, rfl⟩
        by_cases hlt : k < n
        · obtain ⟨row, A1, c1, b1, o1, hrw, hcw, hI⟩ := (HRA_4.out.below hbel).row k hlt
          obtain ⟨row0, A0, c0, b0, o0, hrw0, hcw0, hI0⟩ := (HRA_4.out.below hbel).row 0 (by omega)
          obtain rfl := HRA_4.out.adr (by omega)
          rw [Nat.zero_add] at hcw hcw0
          obtain ⟨hrl, hrv⟩ := HRW.out row (List.mem_of_getElem? hrw)
          obtain ⟨hrl0, hrv0⟩ := HRW.out row0 (List.mem_of_getElem? hrw0)
          rw [hrl] at hcw hI
          rw [hrl0] at hcw0 hI0
          obtain rfl := hI.adr (by omega)
          obtain rfl := hI0.adr (by omega)
          have hs1 := hbel.size
          obtain ⟨new, hnew⟩ : ∃ new, moreRow p M k = new := ⟨_, rfl⟩
          have hnl : new.length = l := by rw [← hnew]; exact moreRow_len HV.out (by rw [HN.out]; exact hlt)
          have hng : ∀ j x y, k ≠ 0 → row[j]? = some x → row0[j]? = some y → new[j]? = some ((x + y) % p) := fun j x y h0 hx hy => by
            rw [← hnew]
            unfold moreRow
            rw [if_neg h0, getD_row hrw, getD_row hrw0, List.getElem?_zipWith, hx, hy]
          have hn0 : k = 0 → new = row := fun h0 => by
            rw [← hnew]
            unfold moreRow
            rw [if_pos h0]
            subst h0
            exact getD_row hrw
          have HS := Lib.hid (show (moreM p M).take k ++ [new] = (moreM p M).take (k + 1) from take_snoc _ k new (by rw [moreM_get p M (by rw [HN.out]; exact hlt), hnew]))
          have HNL := Lib.hid hnl
          have HNG := Lib.hid hng
          have HN0 := Lib.hid hn0
          have HO := Lib.hid hown
          have HB := Lib.hid hbel
          have HI := Lib.hid hI
          have HI0 := Lib.hid hI0
          have HRL := Lib.hid hrl
          have HRV := Lib.hid hrv
          have HRL0 := Lib.hid hrl0
          have HRV0 := Lib.hid hrv0
          have HC0 := Lib.hid hcw0
          clear hown hbel hI hI0 hrw hrw0 hrl hrl0 hrv hrv0 hnew hnl hng hn0 hcw0
          have hc0 : (wo.alloc (.cells #[] 3)).cell? ⟨b, k, none⟩ = some (.slice (some ⟨b1, o1, none⟩) l c1) := by rw [World.cell?_alloc_lt _ _ _ (cell_lt hcw)]; exact hcw
          go_wp2_with (at_builtin; refine wpList_app_ints rfl (.tmp 44) (.tmp 48) rfl wo.heap.size _ 0 0 [] rfl (OI.empty wo) l c1 b1 o1 row rfl (HI.out.below ((Below.refl _ _).alloc (Nat.le_refl _) _)) (by omega) (by simp) ?_)
          intro A2 c2 w2 hI2 hK2
          have HI2 := Lib.hid (show OI w2 wo.heap.size A2 l c2 row by simpa using hI2)
          have hB2 : Below wo.heap.size wo w2 := ((Below.refl _ _).alloc (Nat.le_refl _) _).trans (hK2.below (by simp) (fun q hq => by simp [Value.ownBlock] at hq; omega))
          have HB2 := Lib.hid hB2
          have hs2 := hB2.size
          have hadr := HI2.out.adr
          obtain ⟨g2, hg2, hBg2⟩ : ∃ g, A2 = some ⟨g, 0, none⟩ ∧ wo.heap.size ≤ g := by
            rcases hadr with ⟨_, h0, _⟩ | ⟨g, h1, h2, _⟩
            · omega
            · exact ⟨g, h1, h2⟩
          subst hg2
          clear hI2 hK2 hB2 hadr hc0 hcw
          go_wp2_with (fail)
          go_loopw [9] (fun i wi => ∃ j : Nat, j ≤ l ∧ (k = 0 → j = 0) ∧ i = .int .i64 j ∧ OI wi wo.heap.size (some ⟨g2, 0, none⟩) l c2 (new.take j ++ row.drop j) ∧ Below wo.heap.size wo wi) (fun i _ => l - (intOf i).toNat)
          case atStart => exact ⟨0, by omega, fun _ => rfl, rfl, by simpa using HI2.out, HB2.out⟩
          case round =>
            obtain ⟨j, hj, hkj, rfl, hrow, hbi⟩ := hrel
            have hsi := hbi.size
            by_cases hgo : 0 < k ∧ j < l
            · obtain ⟨hk0, hjl⟩ := hgo
              obtain ⟨x, hx⟩ : ∃ x, row[j]? = some x := ⟨_, List.getElem?_eq_getElem (by rw [HRL.out]; exact hjl)⟩
              obtain ⟨y, hy, hyc⟩ := (HI0.out.below hbi).cell j hjl
              have hxb := numB_bd (HRV.out x (List.mem_of_getElem? hx))
              have hyb := numB_bd (HRV0.out y (List.mem_of_getElem? hy))
              have hcell := World.ownsRow.cellAt hrow j (by omega)
              have hmx : (ints (new.take j ++ row.drop j))[j]? = some (.int .i64 x) := by
                unfold ints; rw [List.getElem?_map, mix_get _ _ _ (by rw [HNL.out, HRL.out]) (by rw [HNL.out]; omega), hx]; rfl
              rw [hmx] at hcell
              have hfr := World.ownsRow.frozenAt hrow j
              have hst := World.ownsRow.stored hrow j (.int .i64 ((x + y) % p))
              rw [ints_set, mix_set (by rw [HNL.out, HRL.out]) (HNG.out j x y (by omega) hx hy)] at hst
              have hc00 := (keep_of_below hbi).cell HC0.out (fun h => h)
              have HST := Lib.hid hst.1
              have HBI := Lib.hid (hbi.trans ((setCell_keep wr ⟨g2, j, none⟩ (.int .i64 ((x + y) % p))).below (B := wo.heap.size) hsi (fun q hq => by have hq : q = g2 := hq; omega)))
              clear hmx hst hrow hbi hx hy
              go_wp2_with (fail)
              refine wp_quiet_tail 16 (by kernel_rfl) (by kernel_rfl) ?_
              simp only [List.take_succ_cons, List.take_zero, List.drop_succ_cons, List.drop_zero]
              repeat (go_big_quiet_step (fail))
              refine wpQuiet_nil ?_
              intro _ hw'
              obtain ⟨nq, hw''⟩ := hw'
              subst hw''
              go_wp2_with (fail)
              go_roundw
              case rel => exact ⟨j + 1, by omega, by omega, by go_num, owns_keep HST.out (drewN_keep (S := fun _ => False) _ _) (fun _ _ h => h), below_drawn HBI.out ⟨nq, rfl⟩⟩
              case measure => simp [intOf]; omega
            · have e : new.take j ++ row.drop j = new := by
                by_cases h0 : k = 0
                · rw [HN0.out h0, List.take_append_drop]
                · rw [List.take_of_length_le (by rw [HNL.out]; omega), List.drop_of_length_le (by rw [HRL.out]; omega)]; simp
              rw [e] at hrow
              have HR5 := Lib.hid hrow
              have HBI := Lib.hid hbi
              clear e hrow hbi
              have hor : (k = 0 ∧ j = 0) ∨ (0 < k ∧ j = l) := by omega
              rcases hor with ⟨h0, h1⟩ | ⟨h0, h1⟩
              · subst h1
                have hk0 : decide (0 < (k : Int)) = false := by simp [h0]
                clear h0
                go_wp2_with (at_builtin; refine wpList_app_row rfl (.tmp 76) (.tmp 78) rfl w_4.heap.size A' k c' vs rfl (World.ownsRow.alloc (owns_below HO.out.out HBI.out) _) (some ⟨g2, 0, none⟩) l c2 _ _ rfl ?_ (by omega) ?_ ?_)
                · omega
                · intro A3 c3 w3 ho3 hK3
                  have hp := HO.out.push (HBI.out.alloc hsi (.cells #[.slice (some ⟨g2, 0, none⟩) l c2] 30)) (row := new) (A1 := some ⟨g2, 0, none⟩) (c1 := c2) (by rw [HNL.out]; exact HR5.out.alloc _) (by rw [HNL.out]; exact ho3) hK3 hs1
                  rw [HS.out] at hp
                  have HP := Lib.hid hp
                  have HB3 := Lib.hid (HB.out.trans (((HBI.out.alloc hsi (.cells #[.slice (some ⟨g2, 0, none⟩) l c2] 30)).mono hs1).trans (hK3.below (B := w_4.heap.size) (by simp; omega) (fun q hq => (HO.out.out.lt q hq).1))))
                  clear hp ho3 hK3
                  go_wp2_with (fail)
                  go_roundw
                  case rel => exact ⟨k + 1, _, _, _, by omega, by go_num, rfl, HP.out, HB3.out⟩
                  case measure => simp [intOf]; omega
              · obtain rfl : l = j := h1.symm
                go_wp2_with (at_builtin; refine wpList_app_row rfl (.tmp 76) (.tmp 78) rfl w_4.heap.size A' k c' vs rfl (World.ownsRow.alloc (owns_below HO.out.out HBI.out) _) (some ⟨g2, 0, none⟩) l c2 _ _ rfl ?_ (by omega) ?_ ?_)
                · omega
                · intro A3 c3 w3 ho3 hK3
                  have hp := HO.out.push (HBI.out.alloc hsi (.cells #[.slice (some ⟨g2, 0, none⟩) l c2] 30)) (row := new) (A1 := some ⟨g2, 0, none⟩) (c1 := c2) (by rw [HNL.out]; exact HR5.out.alloc _) (by rw [HNL.out]; exact ho3) hK3 hs1
                  rw [HS.out] at hp
                  have HP := Lib.hid hp
                  have HB3 := Lib.hid (HB.out.trans (((HBI.out.alloc hsi (.cells #[.slice (some ⟨g2, 0, none⟩) l c2] 30)).mono hs1).trans (hK3.below (B := w_4.heap.size) (by simp; omega) (fun q hq => (HO.out.out.lt q hq).1))))
                  clear hp ho3 hK3
                  go_wp2_with (fail)
                  go_roundw
                  case rel => exact ⟨k + 1, _, _, _, by omega, by go_num, rfl, HP.out, HB3.out⟩
                  case measure => simp [intOf]; omega
        · obtain rfl : k = n := by omega
          have e : (moreM p M).take k = moreM p M := List.take_of_length_le (by rw [moreM_len, HN.out]; omega)
          rw [e] at hown
          obtain ⟨bq, hRq⟩ := hown.ra
          have HOT_x := Lib.hid hRq
          clear e hown hRq
          have HRA_5 := Lib.hid (HRA_4.out.below hbel)
          have HX_5 := Lib.hid (HX_4.out.below hbel)
          have hK_5 := below_more hK_4 hbel
          clear hbel
          go_wp2_with (fail)
          refine (implMatForm p AX R.length cX bX 0 R _ HX_5.out).mono ?_
          rw [HE1.out]
          rintro e w_6 ⟨AFA, cFA, vFA, rfl, hO, hBq⟩
          obtain ⟨bFA, hRq⟩ := hO.ra
          have HFA_6 := Lib.hid hRq
          have HRA_6 := Lib.hid (HRA_5.out.below hBq)
          have HX_6 := Lib.hid (HX_5.out.below hBq)
          have HOT_6 := Lib.hid (HOT_x.out.below hBq)
          have hK_6 := below_more hK_5 hBq
          clear hO hRq hBq
          go_wp2_with (fail)
          refine (sameRowsC AFA R.length cFA bFA 0 R AX R.length cX bX 0 R _ HFA_6.out HX_6.out).mono ?_
          rintro e w_7 ⟨rfl, hm_7⟩
          rw [decide_eq_true (rfl : R = R)]
          have HRA_7 := Lib.hid (HRA_6.out.drewN hm_7)
          have HX_7 := Lib.hid (HX_6.out.drewN hm_7)
          have HOT_7 := Lib.hid (HOT_6.out.drewN hm_7)
          have HFA_7 := Lib.hid (HFA_6.out.drewN hm_7)
          have hK_7 := below_drawn hK_6 hm_7
          clear hm_7
          go_wp2_with (fail)
          refine (implMatForm p A' k c' bq 0 (moreM p M) _ HOT_7.out).mono ?_
          rw [HE2.out]
          rintro e w_8 ⟨AFB, cFB, vFB, rfl, hO, hBq⟩
          obtain ⟨bFB, hRq⟩ := hO.ra
          have HFB_8 := Lib.hid hRq
          have HRA_8 := Lib.hid (HRA_7.out.below hBq)
          have HX_8 := Lib.hid (HX_7.out.below hBq)
          have HOT_8 := Lib.hid (HOT_7.out.below hBq)
          have hK_8 := below_more hK_7 hBq
          clear hO hRq hBq
          go_wp2_with (fail)
          refine (sameRowsC AFB R.length cFB bFB 0 R AX R.length cX bX 0 R _ HFB_8.out HX_8.out).mono ?_
          rintro e w_9 ⟨rfl, hm_9⟩
          rw [decide_eq_true (rfl : R = R)]
          have HRA_9 := Lib.hid (HRA_8.out.drewN hm_9)
          have HX_9 := Lib.hid (HX_8.out.drewN hm_9)
          have HFB_9 := Lib.hid (HFB_8.out.drewN hm_9)
          have hK_9 := below_drawn hK_8 hm_9
          clear hm_9
          obtain ⟨K, hKer⟩ : ∃ K, kernelR p M = K := ⟨_, rfl⟩
          have HK1 := Lib.hid (show kernelR p R = K by rw [HE3.out]; exact hKer)
          have HK2 := Lib.hid hKer
          clear hKer
          go_wp2_with (fail)
          refine (implMatKernel p AX R.length cX bX 0 R _ HX_9.out).mono ?_
          rw [HK1.out]
          rintro e w_10 ⟨AKA, cKA, vKA, rfl, hO, hBq⟩
          obtain ⟨bKA, hRq⟩ := hO.ra
          have HKA_10 := Lib.hid hRq
          have HRA_10 := Lib.hid (HRA_9.out.below hBq)
          have HX_10 := Lib.hid (HX_9.out.below hBq)
          have hK_10 := below_more hK_9 hBq
          clear hO hRq hBq
          go_wp2_with (fail)
          refine (implMatKernel p _ k co b 0 M _ HRA_10.out).mono ?_
          rw [HK2.out]
          rintro e w_11 ⟨AKB, cKB, vKB, rfl, hO, hBq⟩
          obtain ⟨bKB, hRq⟩ := hO.ra
          have HKB_11 := Lib.hid hRq
          have HRA_11 := Lib.hid (HRA_10.out.below hBq)
          have HX_11 := Lib.hid (HX_10.out.below hBq)
          have HKA_11 := Lib.hid (HKA_10.out.below hBq)
          have hK_11 := below_more hK_10 hBq
          clear hO hRq hBq
          go_wp2_with (fail)
          refine (sameRowsC AKA K.length cKA bKA 0 K AKB K.length cKB bKB 0 K _ HKA_11.out HKB_11.out).mono ?_
          rintro e w_12 ⟨rfl, hm_12⟩
          rw [decide_eq_true (rfl : K = K)]
          have HRA_12 := Lib.hid (HRA_11.out.drewN hm_12)
          have HX_12 := Lib.hid (HX_11.out.drewN hm_12)
          have HKA_12 := Lib.hid (HKA_11.out.drewN hm_12)
          have HKB_12 := Lib.hid (HKB_11.out.drewN hm_12)
          have hK_12 := below_drawn hK_11 hm_12
          clear hm_12
          go_wp2_with (fail)
          go_ret
          exact ⟨rfl, hK_12⟩
end Go.Proofs.Ytpelokdgjdljfab

/-
  The walk of the law of MatKernel.
-/
import Derived.Deep.RegionHeld3
import Derived.Test.YtpelokdgjdljfabDrawMM
import Derived.Test.YtpelokdgjdljfabSame
import Derived.Test.YtpelokdgjdljfabKerS
import Derived.Test.YtpelokdgjdljfabLin6
namespace Go.Proofs.Ytpelokdgjdljfab
open Go.RowKit
set_option maxHeartbeats 2000000 in
set_option linter.unusedSimpArgs false in
set_option maxRecDepth 100000 in
theorem walkFnMatKernel (a : Option Addr) (len cap : Nat) (zs : List Int) (w : World) (h : IsRow .u8 w a len cap zs) :
    Calls Try.prog 11 #[.slice a len cap] w fun e w' => e = .returned (.bool true) ∧ Below w.heap.size w w' := by
  have hm : len ≤ 9223372036854775807 := by have := rowBytes h; unfold maxLen at this; omega
  by_cases hb : 1048576 < len
  · go_enter Try.func11, Try.ntmps11
    go_wp2_with (fail)
    go_ret
    exact ⟨rfl, Below.refl _ _⟩
  · go_enter Try.func11, Try.ntmps11
    go_wp2_with (fail)
    refine (drawMatKernel a len cap zs w h).mono ?_
    rintro e w1 ⟨p, Ao, co, M, rfl, hp, hD, hB⟩
    obtain ⟨b, hRA⟩ := hD.ra
    have hML := hD.few
    have hcap := hD.cap
    obtain ⟨n, hn⟩ : ∃ n, M.length = n := ⟨_, rfl⟩
    rw [hn] at hRA hML hcap ⊢
    have HRA := Lib.hid hRA
    clear hD h hRA hp
    obtain ⟨R, hR⟩ : ∃ R, kernelR p M = R := ⟨_, rfl⟩
    have HR := Lib.hid hR
    clear hR
    go_wp2_with (fail)
    refine (implMatKernel p Ao n co b 0 M _ HRA.out).mono ?_
    rw [HR.out]
    rintro e w_1 ⟨AX, cX, vX, rfl, hO, hBq⟩
    obtain ⟨bX, hRq⟩ := hO.ra
    have HX_1 := Lib.hid hRq
    have HRA_1 := Lib.hid (HRA.out.below hBq)
    have hK_1 := below_more hB hBq
    clear hO hRq hBq
    have hRbig := HX_1.out.big
    go_wp2_with (fail)
    refine (specMatKernel p Ao n co b 0 M _ HRA_1.out).mono ?_
    rw [HR.out]
    rintro e w_2 ⟨AS, cS, bS, oS, rfl, hRq, hBq⟩
    have HS_2 := Lib.hid hRq
    have HRA_2 := Lib.hid (HRA_1.out.below hBq)
    have HX_2 := Lib.hid (HX_1.out.below hBq)
    have hK_2 := below_more hK_1 hBq
    clear hRq hBq
    go_wp2_with (fail)
    refine (sameRowsC AX R.length cX bX 0 R AS R.length cS bS oS R _ HX_2.out HS_2.out).mono ?_
    rintro e w_3 ⟨rfl, hm_3⟩
    rw [decide_eq_true (rfl : R = R)]
    have HRA_3 := Lib.hid (HRA_2.out.drewN hm_3)
    have HX_3 := Lib.hid (HX_2.out.drewN hm_3)
    have HS_3 := Lib.hid (HS_2.out.drewN hm_3)
    have hK_3 := below_drawn hK_2 hm_3
    clear hm_3
    go_wp2_with (fail)
    refine (specMatValid p Ao n co b 0 M _ HRA_3.out).mono ?_
    rintro e w_4 ⟨rfl, hm_4⟩
    have HRA_4 := Lib.hid (HRA_3.out.drewN hm_4)
    have HX_4 := Lib.hid (HX_3.out.drewN hm_4)
    have hK_4 := below_drawn hK_3 hm_4
    clear hm_4
    rcases hv : matB p M
    · have hR0 : R = [] := by rw [← HR.out, kernelR_no hv]
      subst hR0
      clear hv
      go_wp2_with (fail)
      refine (alive _).mono ?_
      rintro e w_5 ⟨rfl, rfl⟩
      go_wp2_with (fail)
      go_ret
      exact ⟨rfl, hK_4⟩
    · obtain ⟨hn1, hn8, hl1, hl8, hrows⟩ := matB_true hv
      have hprime := prime_of_mat hv
      have hp := prime_ge hprime
      obtain ⟨k1, k2, k3, k4⟩ := kernel_law hv
      obtain ⟨l, hl⟩ : ∃ l, (M.headD []).length = l := ⟨_, rfl⟩
      obtain ⟨rk, hrk⟩ : ∃ r, rankR p M = r := ⟨_, rfl⟩
      rw [HR.out] at k1 k2 k3 k4
      rw [hl] at hl1 hl8 hrows k1 k2 k3
      rw [hrk] at k1
      rw [hn] at hn1 hn8 k3
      have HN := Lib.hid hn
      have HL := Lib.hid hl
      have HRW := Lib.hid hrows
      have HK2 := Lib.hid k2
      have HK3 := Lib.hid k3
      have HK4 := Lib.hid k4
      have HRK := Lib.hid hrk
      have hm0 : R.length ≤ 8 := by
        have h := rankR_yes hv
        rw [hrk] at h
        omega
      clear hn hl hrows k2 k3 k4 hrk hv
      have hs0 := hK_4.size
      have hdl : (l : Int) ≤ 8 := by omega
      go_wp2_with (fail)
      go_loopw [6] (fun i wr => ∃ k : Nat, k ≤ R.length ∧ i = .int .i64 k ∧ Hid (∃ m, wr = w_4.drewN m)) (fun i _ => R.length - (intOf i).toNat)
      case atStart => exact ⟨0, by omega, rfl, 0, rfl⟩
      case round =>
        obtain ⟨k, hk, rfl, hw⟩ := hrel
        obtain ⟨wa, rfl⟩ : ∃ wa : World, wa = wr := ⟨_, rfl⟩
        by_cases hlt : k < R.length
        · obtain ⟨rk1, A1, c1, b1, o1, hr1, hc1, hI1⟩ := (HX_4.out.drewN hw.out).row k hlt
          obtain rfl := HX_4.out.adr (by omega)
          rw [Nat.zero_add] at hc1
          obtain ⟨hrl1, hrv1⟩ := HK2.out rk1 (List.mem_of_getElem? hr1)
          rw [hrl1] at hc1 hI1
          obtain rfl := hI1.adr (by omega)
          have hker := HK3.out k hlt
          have HI1 := Lib.hid hI1
          have HC1 := Lib.hid hc1
          have HRV1 := Lib.hid hrv1
          have HRL1 := Lib.hid hrl1
          have HR1 := Lib.hid hr1
          have HKER := Lib.hid hker
          clear hI1 hc1 hrv1 hr1 hker hrl1
          go_wp2_with (fail)
          go_loopw [7] (fun i wr => ∃ q : Nat, q ≤ n ∧ i = .int .i64 q ∧ Hid (∃ m, wr = wa.drewN m)) (fun i _ => n - (intOf i).toNat)
          case atStart => exact ⟨0, by omega, rfl, 0, rfl⟩
          case round =>
            obtain ⟨q, hq, rfl, hw2⟩ := hrel
            obtain ⟨wb, rfl⟩ : ∃ wb : World, wb = wr := ⟨_, rfl⟩
            by_cases hlq : q < n
            · obtain ⟨rq, A2, c2, b2, o2, hr2, hc2, hI2⟩ := ((HRA_4.out.drewN hw.out).drewN hw2.out).row q hlq
              obtain rfl := HRA_4.out.adr (by omega)
              rw [Nat.zero_add] at hc2
              obtain ⟨hrl2, hrv2⟩ := HRW.out rq (List.mem_of_getElem? hr2)
              rw [hrl2] at hc2 hI2
              obtain rfl := hI2.adr (by omega)
              have hz : dot rq rk1 % p = 0 := by
                refine Int.emod_eq_zero_of_dvd ?_
                rw [dot_sig rq rk1 l (by omega)]
                have := HKER.out q hlq
                unfold at2 at this
                rw [getD_row hr2, getD_row HR1.out] at this
                exact this
              have hc1 := (keep_of_below (below_drawn (Below.refl _ _) hw2.out)).cell HC1.out (fun h => h)
              have HI2 := Lib.hid hI2
              have HC2 := Lib.hid hc2
              have HRV2 := Lib.hid hrv2
              have HRL2 := Lib.hid hrl2
              have HZ := Lib.hid hz
              have HC1b := Lib.hid hc1
              clear hI2 hc2 hrv2 hr2 hz hc1 hrl2
              go_wp2_with (fail)
              go_loopw [8, 9] (fun s i wr => ∃ j : Nat, j ≤ l ∧ i = .int .i64 j ∧ s = .int .i64 (dot (rq.take j) (rk1.take j)) ∧ Hid (∃ m, wr = wb.drewN m)) (fun _ i _ => l - (intOf i).toNat)
              case atStart => exact ⟨0, by omega, rfl, by simp [dot], 0, rfl⟩
              case round =>
                obtain ⟨j, hj, rfl, rfl, hw3⟩ := hrel
                have hb3 := dot_take_bd hp.2 rq rk1 j (by omega) HRV2.out HRV1.out
                have hK3 := keep_of_below (below_drawn (Below.refl _ _) hw3.out)
                have hc1 := hK3.cell HC1b.out (fun h => h)
                have hc2 := hK3.cell HC2.out (fun h => h)
                clear hK3
                by_cases hlj : j < l
                · obtain ⟨x, hx, hxc⟩ := (HI2.out.drewN hw3.out).cell j hlj
                  obtain ⟨y, hy, hyc⟩ := ((HI1.out.drewN hw2.out).drewN hw3.out).cell j hlj
                  have hxb := numB_bd (HRV2.out x (List.mem_of_getElem? hx))
                  have hyb := numB_bd (HRV1.out y (List.mem_of_getElem? hy))
                  have hmb := mul_bd hxb.1 (by omega) hyb.1 (by omega)
                  have HD := Lib.hid (dot_take rq rk1 j x y hx hy)
                  clear hx hy
                  go_wp2_with (fail)
                  go_quiet (fail)
                  go_wp2_with (fail)
                  go_roundw
                  case rel => exact ⟨j + 1, by omega, by go_num, by rw [HD.out], drewN_more hw3.out _⟩
                  case measure => simp [intOf]; omega
                · obtain rfl : j = l := by omega
                  rw [dot_same rq rk1 j HRL2.out HRL1.out] at hb3 ⊢
                  have hz := HZ.out
                  generalize dot rq rk1 = S at hb3 hz ⊢
                  have hne : (S % p != 0) = false := by rw [hz]; rfl
                  have hll : ((j : Int) != (j : Int)) = false := by simp
                  have hmm := drewN_more hw3.out
                  have hmm2 := hw2.out
                  go_wp2_with (fail)
                  go_quiet (fail)
                  go_wp2_with (fail)
                  go_roundw
                  case rel => exact ⟨q + 1, by omega, by go_num, by obtain ⟨m2, hm2⟩ := hmm2; obtain ⟨m3, hm3⟩ := hmm _; exact ⟨m2 + m3, by rw [hm3, hm2, World.drewN_drewN]⟩⟩
                  case measure => simp [intOf]; omega
            · obtain rfl : q = n := by omega
              go_wp2_with (fail)
              go_roundw
              case rel => exact ⟨k + 1, by omega, by go_num, by obtain ⟨m, hm⟩ := hw2.out; rw [hm]; exact drewN_more hw.out _⟩
              case measure => simp [intOf]; omega
        · obtain rfl : k = R.length := by omega
          obtain ⟨row0, A0, c0, b0, o0, hr0, hc0, hI0⟩ := (HRA_4.out.drewN hw.out).row 0 (by omega)
          obtain rfl := HRA_4.out.adr (by omega)
          have hrl0 := HL.out
          rw [headD_of hr0] at hrl0
          rw [Nat.zero_add, hrl0] at hc0
          have hq1 : ((R.length : Int) + rk == (l : Int)) = true := by rw [k1]; simp
          have HX5 := Lib.hid (HX_4.out.drewN hw.out)
          have HA5 := Lib.hid (HRA_4.out.drewN hw.out)
          have hK5 := below_drawn hK_4 hw.out
          have hcd : (World.drew wa).cell? ⟨b, 0, none⟩ = some (.slice A0 l c0) := hc0
          clear hr0 hI0 hrl0 hw
          by_cases hR0 : R.length = 0
          · obtain rfl : R = [] := List.eq_nil_of_length_eq_zero hR0
            have h0n : 0 < n := by omega
            have k1' : rk = (l : Int) := by simpa using k1
            rw [k1'] at HRK
            have hq2 : ((l : Int) == (l : Int)) = true := by simp
            have hz0 : ((0 : Int) == (0 : Int)) = true := rfl
            have hw1 : IntKind.i64.wrap ((l : Nat) : Int) = (l : Int) := IntWalk.i64_in _ ⟨by omega, by omega⟩
            have hw2 : IntKind.i64.wrap ((0 : Int) + ((l : Nat) : Int)) = (l : Int) := by rw [Int.zero_add]; exact hw1
            clear hR0 hlt hk hq1 k1 k1'
            go_wp2_with (fail)
            refine wp_region_held_drew (S := fun w' => w'.cell? ⟨b, 0, none⟩ = some (.slice A0 l c0)) (by kernel_rfl) ?_ (fun hHeld => ?_)
            · exact hcd
            refine wpAnyH_take (i := 0) (oi := _) (v := ?v0) rfl (by kernel_rfl) (by kernel_rfl) (by kernel_rfl) (fun _ _ _ h => h) (Or.inl ⟨by rfl, ?hy0⟩) (by assumption) ?rest0
            case hy0 => (intro w hSw; (try dsimp only at hSw); go_simp; try with_reducible rfl)
            try simp only [Act.put, List.getElem_toArray, List.getElem_cons_zero, List.getElem_cons_succ, List.setIfInBounds_toArray, List.set_cons_zero, List.set_cons_succ]
            refine wpAnyH_take (i := 1) (oi := _) (v := ?v1) rfl (by kernel_rfl) (by kernel_rfl) (by kernel_rfl) (fun _ _ _ h => h) (Or.inl ⟨by rfl, ?hy1⟩) (by assumption) ?rest1
            case hy1 => (intro w hSw; (try dsimp only at hSw); go_simp; try with_reducible rfl)
            try simp only [Act.put, List.getElem_toArray, List.getElem_cons_zero, List.getElem_cons_succ, List.setIfInBounds_toArray, List.set_cons_zero, List.set_cons_succ]
            refine wpAnyH_take (i := 2) (oi := _) (v := ?v2) rfl (by kernel_rfl) (by kernel_rfl) (by kernel_rfl) (fun _ _ _ h => h) (Or.inl ⟨by rfl, ?hy2⟩) (by assumption) ?rest2
            case hy2 => (intro w hSw; (try dsimp only at hSw); go_simp; try with_reducible rfl)
            try simp only [Act.put, List.getElem_toArray, List.getElem_cons_zero, List.getElem_cons_succ, List.setIfInBounds_toArray, List.set_cons_zero, List.set_cons_succ]
            refine wpAnyH_take (i := 3) (oi := _) (v := ?v3) rfl (by kernel_rfl) (by kernel_rfl) (by kernel_rfl) (fun _ _ _ h => h) (Or.inl ⟨by rfl, ?hy3⟩) (by assumption) ?rest3
            case hy3 => (intro w hSw; (try dsimp only at hSw); go_simp; try with_reducible rfl)
            try simp only [Act.put, List.getElem_toArray, List.getElem_cons_zero, List.getElem_cons_succ, List.setIfInBounds_toArray, List.set_cons_zero, List.set_cons_succ]
            refine wpAnyH_take (i := 6) (oi := _) (v := ?v6) rfl (by kernel_rfl) (by kernel_rfl) (by kernel_rfl) (fun _ _ _ h => h) (Or.inl ⟨by rfl, ?hy6⟩) (by assumption) ?rest6
            case hy6 => (intro w hSw; (try dsimp only at hSw); go_simp; try with_reducible rfl)
            try simp only [Act.put, List.getElem_toArray, List.getElem_cons_zero, List.getElem_cons_succ, List.setIfInBounds_toArray, List.set_cons_zero, List.set_cons_succ]
            refine wpAnyH_take (i := 7) (oi := _) (v := ?v7) rfl (by kernel_rfl) (by kernel_rfl) (by kernel_rfl) (fun _ _ _ h => h) (Or.inl ⟨by rfl, ?hy7⟩) (by assumption) ?rest7
            case hy7 => (intro w hSw; (try dsimp only at hSw); go_simp; try with_reducible rfl)
            try simp only [Act.put, List.getElem_toArray, List.getElem_cons_zero, List.getElem_cons_succ, List.setIfInBounds_toArray, List.set_cons_zero, List.set_cons_succ]
            refine wpAnyH_take (i := 8) (oi := _) (v := ?v8) rfl (by kernel_rfl) (by kernel_rfl) (by kernel_rfl) (fun _ _ _ h => h) (Or.inl ⟨by rfl, ?hy8⟩) (by assumption) ?rest8
            case hy8 => (intro w hSw; (try dsimp only at hSw); go_simp; try with_reducible rfl)
            try simp only [Act.put, List.getElem_toArray, List.getElem_cons_zero, List.getElem_cons_succ, List.setIfInBounds_toArray, List.set_cons_zero, List.set_cons_succ]
            refine wpAnyH_take (i := 9) (oi := _) (v := ?v9) rfl (by kernel_rfl) (by kernel_rfl) (by kernel_rfl) (fun _ _ _ h => h) (Or.inl ⟨by rfl, ?hy9⟩) (by assumption) ?rest9
            case hy9 => (intro w hSw; (try dsimp only at hSw); go_simp; try with_reducible rfl)
            try simp only [Act.put, List.getElem_toArray, List.getElem_cons_zero, List.getElem_cons_succ, List.setIfInBounds_toArray, List.set_cons_zero, List.set_cons_succ]
            refine wpAnyH_ready (rs := [4]) (by kernel_rfl) (by simp) ?_
            refine AllReadyH.cons (o := _) rfl (fun K hK => ?_) AllReadyH.nil
            go_simp
            refine (implMatRank p (some ⟨b, 0, none⟩) n co b 0 M _ (HA5.out.drewN ⟨1, rfl⟩)).mono ?_
            rw [HRK.out]
            rintro e w_6 ⟨rfl, hBq⟩
            have hc1 := (keep_of_below hBq).cell (show (World.drew wa).cell? ⟨b, 0, none⟩ = _ from hc0) (fun h => h)
            have HX6 := Lib.hid ((HX5.out.drewN ⟨1, rfl⟩).below hBq)
            have hK6 := below_more hK5 (below_undraw (m := 1) hBq)
            clear hBq
            refine hK.out _ _ ?_ (fun hHeld => ?_)
            · exact hc1
            clear hK K
            try simp only [Act.put, List.getElem_toArray, List.getElem_cons_zero, List.getElem_cons_succ, List.setIfInBounds_toArray, List.set_cons_zero, List.set_cons_succ]
            refine wpAnyH_take (i := 5) (oi := _) (v := ?v5) rfl (by kernel_rfl) (by kernel_rfl) (by kernel_rfl) (fun _ _ _ h => h) (Or.inl ⟨by rfl, ?hy5⟩) (by assumption) ?rest5
            case hy5 => (intro w hSw; (try dsimp only at hSw); go_simp; try with_reducible rfl)
            try simp only [Act.put, List.getElem_toArray, List.getElem_cons_zero, List.getElem_cons_succ, List.setIfInBounds_toArray, List.set_cons_zero, List.set_cons_succ]
            refine wpAnyH_take (i := 10) (oi := _) (v := ?v10) rfl (by kernel_rfl) (by kernel_rfl) (by kernel_rfl) (fun _ _ _ h => h) (Or.inl ⟨by rfl, ?hy10⟩) (by assumption) ?rest10
            case hy10 => (intro w hSw; (try dsimp only at hSw); go_simp; try with_reducible rfl)
            try simp only [Act.put, List.getElem_toArray, List.getElem_cons_zero, List.getElem_cons_succ, List.setIfInBounds_toArray, List.set_cons_zero, List.set_cons_succ]
            refine wpAnyH_take (i := 11) (oi := _) (v := ?v11) rfl (by kernel_rfl) (by kernel_rfl) (by kernel_rfl) (fun _ _ _ h => h) (Or.inl ⟨by rfl, ?hy11⟩) (by assumption) ?rest11
            case hy11 => (intro w hSw; (try dsimp only at hSw); go_simp; try with_reducible rfl)
            try simp only [Act.put, List.getElem_toArray, List.getElem_cons_zero, List.getElem_cons_succ, List.setIfInBounds_toArray, List.set_cons_zero, List.set_cons_succ]
            refine wpAnyH_take (i := 12) (oi := _) (v := ?v12) rfl (by kernel_rfl) (by kernel_rfl) (by kernel_rfl) (fun _ _ _ h => h) (Or.inl ⟨by rfl, ?hy12⟩) (by assumption) ?rest12
            case hy12 => (intro w hSw; (try dsimp only at hSw); go_simp; try with_reducible rfl)
            try simp only [Act.put, List.getElem_toArray, List.getElem_cons_zero, List.getElem_cons_succ, List.setIfInBounds_toArray, List.set_cons_zero, List.set_cons_succ]
            refine wpAnyH_take (i := 13) (oi := _) (v := ?v13) rfl (by kernel_rfl) (by kernel_rfl) (by kernel_rfl) (fun _ _ _ h => h) (Or.inl ⟨by rfl, ?hy13⟩) (by assumption) ?rest13
            case hy13 => (intro w hSw; (try dsimp only at hSw); go_simp; try with_reducible rfl)
            try simp only [Act.put, List.getElem_toArray, List.getElem_cons_zero, List.getElem_cons_succ, List.setIfInBounds_toArray, List.set_cons_zero, List.set_cons_succ]
            refine wpAnyH_take (i := 14) (oi := _) (v := ?v14) rfl (by kernel_rfl) (by kernel_rfl) (by kernel_rfl) (fun _ _ _ h => h) (Or.inl ⟨by rfl, ?hy14⟩) (by assumption) ?rest14
            case hy14 => (intro w hSw; (try dsimp only at hSw); go_simp; try with_reducible rfl)
            try simp only [Act.put, List.getElem_toArray, List.getElem_cons_zero, List.getElem_cons_succ, List.setIfInBounds_toArray, List.set_cons_zero, List.set_cons_succ]
            refine wpAnyH_take (i := 15) (oi := _) (v := ?v15) rfl (by kernel_rfl) (by kernel_rfl) (by kernel_rfl) (fun _ _ _ h => h) (Or.inl ⟨by rfl, ?hy15⟩) (by assumption) ?rest15
            case hy15 => (intro w hSw; (try dsimp only at hSw); go_simp; try with_reducible rfl)
            try simp only [Act.put, List.getElem_toArray, List.getElem_cons_zero, List.getElem_cons_succ, List.setIfInBounds_toArray, List.set_cons_zero, List.set_cons_succ]
            refine wpAnyH_take (i := 16) (oi := _) (v := undef) rfl (by kernel_rfl) (by kernel_rfl) (by kernel_rfl) (fun _ _ _ h => h) (Or.inr ⟨by rfl, rfl⟩) (by assumption) ?_
            try simp only [Act.put, List.getElem_toArray, List.getElem_cons_zero, List.getElem_cons_succ, List.setIfInBounds_toArray, List.set_cons_zero, List.set_cons_succ]
            refine wpAnyH_take (i := 17) (oi := _) (v := undef) rfl (by kernel_rfl) (by kernel_rfl) (by kernel_rfl) (fun _ _ _ h => h) (Or.inr ⟨by rfl, rfl⟩) (by assumption) ?_
            try simp only [Act.put, List.getElem_toArray, List.getElem_cons_zero, List.getElem_cons_succ, List.setIfInBounds_toArray, List.set_cons_zero, List.set_cons_succ]
            refine wpAnyH_take (i := 18) (oi := _) (v := undef) rfl (by kernel_rfl) (by kernel_rfl) (by kernel_rfl) (fun _ _ _ h => h) (Or.inr ⟨by rfl, rfl⟩) (by assumption) ?_
            try simp only [Act.put, List.getElem_toArray, List.getElem_cons_zero, List.getElem_cons_succ, List.setIfInBounds_toArray, List.set_cons_zero, List.set_cons_succ]
            refine wpAnyH_take (i := 19) (oi := _) (v := undef) rfl (by kernel_rfl) (by kernel_rfl) (by kernel_rfl) (fun _ _ _ h => h) (Or.inr ⟨by rfl, rfl⟩) (by assumption) ?_
            try simp only [Act.put, List.getElem_toArray, List.getElem_cons_zero, List.getElem_cons_succ, List.setIfInBounds_toArray, List.set_cons_zero, List.set_cons_succ]
            refine wpAnyH_take (i := 20) (oi := _) (v := undef) rfl (by kernel_rfl) (by kernel_rfl) (by kernel_rfl) (fun _ _ _ h => h) (Or.inr ⟨by rfl, rfl⟩) (by assumption) ?_
            try simp only [Act.put, List.getElem_toArray, List.getElem_cons_zero, List.getElem_cons_succ, List.setIfInBounds_toArray, List.set_cons_zero, List.set_cons_succ]
            refine wpAnyH_take (i := 21) (oi := _) (v := undef) rfl (by kernel_rfl) (by kernel_rfl) (by kernel_rfl) (fun _ _ _ h => h) (Or.inr ⟨by rfl, rfl⟩) (by assumption) ?_
            try simp only [Act.put, List.getElem_toArray, List.getElem_cons_zero, List.getElem_cons_succ, List.setIfInBounds_toArray, List.set_cons_zero, List.set_cons_succ]
            refine wpAnyH_take (i := 22) (oi := _) (v := ?v22) rfl (by kernel_rfl) (by kernel_rfl) (by kernel_rfl) (fun _ _ _ h => h) (Or.inl ⟨by rfl, ?hy22⟩) (by assumption) ?rest22
            case hy22 => (intro w hSw; (try dsimp only at hSw); go_simp; try with_reducible rfl)
            try simp only [Act.put, List.getElem_toArray, List.getElem_cons_zero, List.getElem_cons_succ, List.setIfInBounds_toArray, List.set_cons_zero, List.set_cons_succ]
            refine wpAnyH_take (i := 23) (oi := _) (v := ?v23) rfl (by kernel_rfl) (by kernel_rfl) (by kernel_rfl) (fun _ _ _ h => h) (Or.inl ⟨by rfl, ?hy23⟩) (by assumption) ?rest23
            case hy23 => (intro w hSw; (try dsimp only at hSw); go_simp; try with_reducible rfl)
            try simp only [Act.put, List.getElem_toArray, List.getElem_cons_zero, List.getElem_cons_succ, List.setIfInBounds_toArray, List.set_cons_zero, List.set_cons_succ]
            refine wpAnyH_take (i := 24) (oi := _) (v := ?v24) rfl (by kernel_rfl) (by kernel_rfl) (by kernel_rfl) (fun _ _ _ h => h) (Or.inl ⟨by rfl, ?hy24⟩) (by assumption) ?rest24
            case hy24 => (intro w hSw; (try dsimp only at hSw); go_simp; try with_reducible rfl)
            try simp only [Act.put, List.getElem_toArray, List.getElem_cons_zero, List.getElem_cons_succ, List.setIfInBounds_toArray, List.set_cons_zero, List.set_cons_succ]
            refine wpAnyH_done (by kernel_rfl) ?_ _
            go_wp2_with (fail)
            go_ret
            exact ⟨rfl, hK6⟩
          · obtain ⟨g1, g2⟩ := HK4.out (by omega)
            have HG := Lib.hid g2
            have hq2 : ((R.length : Int) == (R.length : Int)) = true := by simp
            have hq3 : ((R.length : Int) == 0) = false := by simp; exact fun h => hR0 (by rw [h]; rfl)
            obtain ⟨nr, hnr⟩ : ∃ n, R.length = n := ⟨_, rfl⟩
            rw [hnr] at HX5 HG hq1 hq2 hq3 hR0 ⊢
            have h0n : 0 < n := by omega
            have k1' : (nr : Int) + rk = (l : Int) := by rw [← hnr]; exact k1
            have hq4 : ((l : Int) == (l : Int)) = true := by simp
            have hwl : IntKind.i64.wrap ((l : Nat) : Int) = (l : Int) := IntWalk.i64_in _ ⟨by omega, by omega⟩
            have hw1 : IntKind.i64.wrap ((nr : Int) + rk) = (l : Int) := by rw [k1']; exact IntWalk.i64_in _ ⟨by omega, by omega⟩
            clear g1 g2 hlt hk k1 hq1
            go_wp2_with (fail)
            refine wp_region_held_drew (S := fun w' => w'.cell? ⟨b, 0, none⟩ = some (.slice A0 l c0)) (by kernel_rfl) ?_ (fun hHeld => ?_)
            · exact hcd
            refine wpAnyH_take (i := 0) (oi := _) (v := ?v200) rfl (by kernel_rfl) (by kernel_rfl) (by kernel_rfl) (fun _ _ _ h => h) (Or.inl ⟨by rfl, ?hy200⟩) (by assumption) ?rest200
            case hy200 => (intro w hSw; (try dsimp only at hSw); go_simp; try with_reducible rfl)
            try simp only [Act.put, List.getElem_toArray, List.getElem_cons_zero, List.getElem_cons_succ, List.setIfInBounds_toArray, List.set_cons_zero, List.set_cons_succ]
            refine wpAnyH_take (i := 1) (oi := _) (v := ?v201) rfl (by kernel_rfl) (by kernel_rfl) (by kernel_rfl) (fun _ _ _ h => h) (Or.inl ⟨by rfl, ?hy201⟩) (by assumption) ?rest201
            case hy201 => (intro w hSw; (try dsimp only at hSw); go_simp; try with_reducible rfl)
            try simp only [Act.put, List.getElem_toArray, List.getElem_cons_zero, List.getElem_cons_succ, List.setIfInBounds_toArray, List.set_cons_zero, List.set_cons_succ]
            refine wpAnyH_take (i := 2) (oi := _) (v := ?v202) rfl (by kernel_rfl) (by kernel_rfl) (by kernel_rfl) (fun _ _ _ h => h) (Or.inl ⟨by rfl, ?hy202⟩) (by assumption) ?rest202
            case hy202 => (intro w hSw; (try dsimp only at hSw); go_simp; try with_reducible rfl)
            try simp only [Act.put, List.getElem_toArray, List.getElem_cons_zero, List.getElem_cons_succ, List.setIfInBounds_toArray, List.set_cons_zero, List.set_cons_succ]
            refine wpAnyH_take (i := 3) (oi := _) (v := ?v203) rfl (by kernel_rfl) (by kernel_rfl) (by kernel_rfl) (fun _ _ _ h => h) (Or.inl ⟨by rfl, ?hy203⟩) (by assumption) ?rest203
            case hy203 => (intro w hSw; (try dsimp only at hSw); go_simp; try with_reducible rfl)
            try simp only [Act.put, List.getElem_toArray, List.getElem_cons_zero, List.getElem_cons_succ, List.setIfInBounds_toArray, List.set_cons_zero, List.set_cons_succ]
            refine wpAnyH_take (i := 6) (oi := _) (v := ?v206) rfl (by kernel_rfl) (by kernel_rfl) (by kernel_rfl) (fun _ _ _ h => h) (Or.inl ⟨by rfl, ?hy206⟩) (by assumption) ?rest206
            case hy206 => (intro w hSw; (try dsimp only at hSw); go_simp; try with_reducible rfl)
            try simp only [Act.put, List.getElem_toArray, List.getElem_cons_zero, List.getElem_cons_succ, List.setIfInBounds_toArray, List.set_cons_zero, List.set_cons_succ]
            refine wpAnyH_take (i := 7) (oi := _) (v := ?v207) rfl (by kernel_rfl) (by kernel_rfl) (by kernel_rfl) (fun _ _ _ h => h) (Or.inl ⟨by rfl, ?hy207⟩) (by assumption) ?rest207
            case hy207 => (intro w hSw; (try dsimp only at hSw); go_simp; try with_reducible rfl)
            try simp only [Act.put, List.getElem_toArray, List.getElem_cons_zero, List.getElem_cons_succ, List.setIfInBounds_toArray, List.set_cons_zero, List.set_cons_succ]
            refine wpAnyH_take (i := 8) (oi := _) (v := ?v208) rfl (by kernel_rfl) (by kernel_rfl) (by kernel_rfl) (fun _ _ _ h => h) (Or.inl ⟨by rfl, ?hy208⟩) (by assumption) ?rest208
            case hy208 => (intro w hSw; (try dsimp only at hSw); go_simp; try with_reducible rfl)
            try simp only [Act.put, List.getElem_toArray, List.getElem_cons_zero, List.getElem_cons_succ, List.setIfInBounds_toArray, List.set_cons_zero, List.set_cons_succ]
            refine wpAnyH_take (i := 9) (oi := _) (v := ?v209) rfl (by kernel_rfl) (by kernel_rfl) (by kernel_rfl) (fun _ _ _ h => h) (Or.inl ⟨by rfl, ?hy209⟩) (by assumption) ?rest209
            case hy209 => (intro w hSw; (try dsimp only at hSw); go_simp; try with_reducible rfl)
            try simp only [Act.put, List.getElem_toArray, List.getElem_cons_zero, List.getElem_cons_succ, List.setIfInBounds_toArray, List.set_cons_zero, List.set_cons_succ]
            refine wpAnyH_ready (rs := [4]) (by kernel_rfl) (by simp) ?_
            refine AllReadyH.cons (o := _) rfl (fun K hK => ?_) AllReadyH.nil
            go_simp
            refine (implMatRank p (some ⟨b, 0, none⟩) n co b 0 M _ (HA5.out.drewN ⟨1, rfl⟩)).mono ?_
            rw [HRK.out]
            rintro e w_6 ⟨rfl, hBq⟩
            have hc1 := (keep_of_below hBq).cell (show (World.drew wa).cell? ⟨b, 0, none⟩ = _ from hc0) (fun h => h)
            have HX6 := Lib.hid ((HX5.out.drewN ⟨1, rfl⟩).below hBq)
            have hK6 := below_more hK5 (below_undraw (m := 1) hBq)
            clear hBq
            refine hK.out _ _ ?_ (fun hHeld => ?_)
            · exact hc1
            clear hK K
            try simp only [Act.put, List.getElem_toArray, List.getElem_cons_zero, List.getElem_cons_succ, List.setIfInBounds_toArray, List.set_cons_zero, List.set_cons_succ]
            refine wpAnyH_take (i := 5) (oi := _) (v := ?v205) rfl (by kernel_rfl) (by kernel_rfl) (by kernel_rfl) (fun _ _ _ h => h) (Or.inl ⟨by rfl, ?hy205⟩) (by assumption) ?rest205
            case hy205 => (intro w hSw; (try dsimp only at hSw); go_simp; try with_reducible rfl)
            try simp only [Act.put, List.getElem_toArray, List.getElem_cons_zero, List.getElem_cons_succ, List.setIfInBounds_toArray, List.set_cons_zero, List.set_cons_succ]
            refine wpAnyH_take (i := 10) (oi := _) (v := ?v210) rfl (by kernel_rfl) (by kernel_rfl) (by kernel_rfl) (fun _ _ _ h => h) (Or.inl ⟨by rfl, ?hy210⟩) (by assumption) ?rest210
            case hy210 => (intro w hSw; (try dsimp only at hSw); go_simp; try with_reducible rfl)
            try simp only [Act.put, List.getElem_toArray, List.getElem_cons_zero, List.getElem_cons_succ, List.setIfInBounds_toArray, List.set_cons_zero, List.set_cons_succ]
            refine wpAnyH_take (i := 11) (oi := _) (v := ?v211) rfl (by kernel_rfl) (by kernel_rfl) (by kernel_rfl) (fun _ _ _ h => h) (Or.inl ⟨by rfl, ?hy211⟩) (by assumption) ?rest211
            case hy211 => (intro w hSw; (try dsimp only at hSw); go_simp; try with_reducible rfl)
            try simp only [Act.put, List.getElem_toArray, List.getElem_cons_zero, List.getElem_cons_succ, List.setIfInBounds_toArray, List.set_cons_zero, List.set_cons_succ]
            refine wpAnyH_take (i := 12) (oi := _) (v := ?v212) rfl (by kernel_rfl) (by kernel_rfl) (by kernel_rfl) (fun _ _ _ h => h) (Or.inl ⟨by rfl, ?hy212⟩) (by assumption) ?rest212
            case hy212 => (intro w hSw; (try dsimp only at hSw); go_simp; try with_reducible rfl)
            try simp only [Act.put, List.getElem_toArray, List.getElem_cons_zero, List.getElem_cons_succ, List.setIfInBounds_toArray, List.set_cons_zero, List.set_cons_succ]
            refine wpAnyH_take (i := 13) (oi := _) (v := ?v213) rfl (by kernel_rfl) (by kernel_rfl) (by kernel_rfl) (fun _ _ _ h => h) (Or.inl ⟨by rfl, ?hy213⟩) (by assumption) ?rest213
            case hy213 => (intro w hSw; (try dsimp only at hSw); go_simp; try with_reducible rfl)
            try simp only [Act.put, List.getElem_toArray, List.getElem_cons_zero, List.getElem_cons_succ, List.setIfInBounds_toArray, List.set_cons_zero, List.set_cons_succ]
            refine wpAnyH_take (i := 14) (oi := _) (v := ?v214) rfl (by kernel_rfl) (by kernel_rfl) (by kernel_rfl) (fun _ _ _ h => h) (Or.inl ⟨by rfl, ?hy214⟩) (by assumption) ?rest214
            case hy214 => (intro w hSw; (try dsimp only at hSw); go_simp; try with_reducible rfl)
            try simp only [Act.put, List.getElem_toArray, List.getElem_cons_zero, List.getElem_cons_succ, List.setIfInBounds_toArray, List.set_cons_zero, List.set_cons_succ]
            refine wpAnyH_take (i := 15) (oi := _) (v := ?v215) rfl (by kernel_rfl) (by kernel_rfl) (by kernel_rfl) (fun _ _ _ h => h) (Or.inl ⟨by rfl, ?hy215⟩) (by assumption) ?rest215
            case hy215 => (intro w hSw; (try dsimp only at hSw); go_simp; try with_reducible rfl)
            try simp only [Act.put, List.getElem_toArray, List.getElem_cons_zero, List.getElem_cons_succ, List.setIfInBounds_toArray, List.set_cons_zero, List.set_cons_succ]
            refine wpAnyH_take (i := 16) (oi := _) (v := ?v216) rfl (by kernel_rfl) (by kernel_rfl) (by kernel_rfl) (fun _ _ _ h => h) (Or.inl ⟨by rfl, ?hy216⟩) (by assumption) ?rest216
            case hy216 => (intro w hSw; (try dsimp only at hSw); go_simp; try with_reducible rfl)
            try simp only [Act.put, List.getElem_toArray, List.getElem_cons_zero, List.getElem_cons_succ, List.setIfInBounds_toArray, List.set_cons_zero, List.set_cons_succ]
            refine wpAnyH_take (i := 17) (oi := _) (v := ?v217) rfl (by kernel_rfl) (by kernel_rfl) (by kernel_rfl) (fun _ _ _ h => h) (Or.inl ⟨by rfl, ?hy217⟩) (by assumption) ?rest217
            case hy217 => (intro w hSw; (try dsimp only at hSw); go_simp; try with_reducible rfl)
            try simp only [Act.put, List.getElem_toArray, List.getElem_cons_zero, List.getElem_cons_succ, List.setIfInBounds_toArray, List.set_cons_zero, List.set_cons_succ]
            refine wpAnyH_take (i := 19) (oi := _) (v := ?v219) rfl (by kernel_rfl) (by kernel_rfl) (by kernel_rfl) (fun _ _ _ h => h) (Or.inl ⟨by rfl, ?hy219⟩) (by assumption) ?rest219
            case hy219 => (intro w hSw; (try dsimp only at hSw); go_simp; try with_reducible rfl)
            try simp only [Act.put, List.getElem_toArray, List.getElem_cons_zero, List.getElem_cons_succ, List.setIfInBounds_toArray, List.set_cons_zero, List.set_cons_succ]
            refine wpAnyH_take (i := 20) (oi := _) (v := ?v220) rfl (by kernel_rfl) (by kernel_rfl) (by kernel_rfl) (fun _ _ _ h => h) (Or.inl ⟨by rfl, ?hy220⟩) (by assumption) ?rest220
            case hy220 => (intro w hSw; (try dsimp only at hSw); go_simp; try with_reducible rfl)
            try simp only [Act.put, List.getElem_toArray, List.getElem_cons_zero, List.getElem_cons_succ, List.setIfInBounds_toArray, List.set_cons_zero, List.set_cons_succ]
            refine wpAnyH_ready (rs := [18]) (by kernel_rfl) (by simp) ?_
            refine AllReadyH.cons (o := _) rfl (fun K hK => ?_) AllReadyH.nil
            go_simp
            refine (implMatRank p AX nr cX bX 0 R _ HX6.out).mono ?_
            rw [HG.out]
            rintro e w_7 ⟨rfl, hBq⟩
            have hc2 := (keep_of_below hBq).cell hc1 (fun h => h)
            have hK7 := below_more hK6 hBq
            clear hBq
            refine hK.out _ _ ?_ (fun hHeld => ?_)
            · exact hc2
            clear hK K
            try simp only [Act.put, List.getElem_toArray, List.getElem_cons_zero, List.getElem_cons_succ, List.setIfInBounds_toArray, List.set_cons_zero, List.set_cons_succ]
            refine wpAnyH_take (i := 21) (oi := _) (v := ?v221) rfl (by kernel_rfl) (by kernel_rfl) (by kernel_rfl) (fun _ _ _ h => h) (Or.inl ⟨by rfl, ?hy221⟩) (by assumption) ?rest221
            case hy221 => (intro w hSw; (try dsimp only at hSw); go_simp; try with_reducible rfl)
            try simp only [Act.put, List.getElem_toArray, List.getElem_cons_zero, List.getElem_cons_succ, List.setIfInBounds_toArray, List.set_cons_zero, List.set_cons_succ]
            refine wpAnyH_take (i := 22) (oi := _) (v := ?v222) rfl (by kernel_rfl) (by kernel_rfl) (by kernel_rfl) (fun _ _ _ h => h) (Or.inl ⟨by rfl, ?hy222⟩) (by assumption) ?rest222
            case hy222 => (intro w hSw; (try dsimp only at hSw); go_simp; try with_reducible rfl)
            try simp only [Act.put, List.getElem_toArray, List.getElem_cons_zero, List.getElem_cons_succ, List.setIfInBounds_toArray, List.set_cons_zero, List.set_cons_succ]
            refine wpAnyH_take (i := 23) (oi := _) (v := ?v223) rfl (by kernel_rfl) (by kernel_rfl) (by kernel_rfl) (fun _ _ _ h => h) (Or.inl ⟨by rfl, ?hy223⟩) (by assumption) ?rest223
            case hy223 => (intro w hSw; (try dsimp only at hSw); go_simp; try with_reducible rfl)
            try simp only [Act.put, List.getElem_toArray, List.getElem_cons_zero, List.getElem_cons_succ, List.setIfInBounds_toArray, List.set_cons_zero, List.set_cons_succ]
            refine wpAnyH_take (i := 24) (oi := _) (v := ?v224) rfl (by kernel_rfl) (by kernel_rfl) (by kernel_rfl) (fun _ _ _ h => h) (Or.inl ⟨by rfl, ?hy224⟩) (by assumption) ?rest224
            case hy224 => (intro w hSw; (try dsimp only at hSw); go_simp; try with_reducible rfl)
            try simp only [Act.put, List.getElem_toArray, List.getElem_cons_zero, List.getElem_cons_succ, List.setIfInBounds_toArray, List.set_cons_zero, List.set_cons_succ]
            refine wpAnyH_done (by kernel_rfl) ?_ _
            go_wp2_with (fail)
            go_ret
            exact ⟨rfl, hK7⟩
end Go.Proofs.Ytpelokdgjdljfab

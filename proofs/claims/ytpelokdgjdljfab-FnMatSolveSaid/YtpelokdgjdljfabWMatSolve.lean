/-
  The walk of the law of MatSolve.
-/
import Derived.Test.YtpelokdgjdljfabDrawS
import Derived.Test.YtpelokdgjdljfabSame
import Derived.Test.YtpelokdgjdljfabSolS
import Derived.Test.YtpelokdgjdljfabFormM
import Derived.Test.YtpelokdgjdljfabLin6
namespace Go.Proofs.Ytpelokdgjdljfab
open Go.RowKit
theorem solFill_valid {p : Int} (hp : primeB p = true) {F : List (List Int)} {hs : List Nat} {l : Nat} (h : ∀ q, q < hs.length → numB p (at2 F q l) = true) : ∀ k, k ≤ hs.length → ∀ x ∈ solFill F hs l k, numB p x = true
  | 0, _, x, hx => by
    rw [List.eq_of_mem_replicate (show x ∈ List.replicate l (0 : Int) from hx)]; exact numB_zero hp
  | k + 1, hk, x, hx => by
    rcases List.mem_or_eq_of_mem_set (show x ∈ (solFill F hs l k).set (hs.getD k 0) (at2 F k l) from hx) with h1 | h1
    · exact solFill_valid hp h k (by omega) x h1
    · rw [h1]; exact h k (by omega)
theorem solve_valid {p : Int} {M : List (List Int)} {want x : List Int} (h : solveR p M want = some x) (hok : okS p M want = true) : ∀ y ∈ x, numB p y = true := by
  rw [solveR_yes hok] at h
  unfold okS at hok
  simp only [Bool.and_eq_true, decide_eq_true_eq] at hok
  have hp := prime_of_mat hok.1
  have hVW := VM.widen (VM_of_mat hok.1) (rowB_mem hok.2.2)
  obtain ⟨i1, i2, i3, _⟩ := elim_inv hp hVW (M.headD []).length
  rcases hf : firstW (elim p (widenM M want) (M.headD []).length).1 (M.headD []).length ((elim p (widenM M want) (M.headD []).length).1.length - (elim p (widenM M want) (M.headD []).length).2.length) (elim p (widenM M want) (M.headD []).length).2.length with _ | r
  · rw [solveW_yes hf] at h
    obtain rfl := (Option.some.inj h).symm
    exact solFill_valid hp (fun q hq => i2.at2 (by omega) (by omega)) _ (Nat.le_refl _)
  · rw [solveW_no hf] at h; cases h
theorem implSol {R : Option (List Int)} {ys : List Int} {t : Bool} (hy : R.getD [] = ys) (ht : R.isSome = t) (p : Int) (A : Option Addr) (n c b o : Nat) (M : List (List Int)) (A' : Option Addr) (n' c' b' o' : Nat) (want : List Int) (w : World) (h : RA w A n b o M) (h' : IA w A' n' b' o' want) (hR : solveR p M want = R) :
    Calls Try.prog 40 #[.int .i64 p, .slice A n c, .slice A' n' c'] w fun e w' => ∃ (A : Option Addr) (c : Nat), e = .returned (.tuple #[.slice A ys.length c, .bool t]) ∧ OI w' w.heap.size A ys.length c ys ∧ Below w.heap.size w w' := by
  subst hR hy ht
  exact implMatSolve p A n c b o M A' n' c' b' o' want w h h'
theorem specSol {R : Option (List Int)} {ys : List Int} {t : Bool} (hy : R.getD [] = ys) (ht : R.isSome = t) (p : Int) (A : Option Addr) (n c b o : Nat) (M : List (List Int)) (A' : Option Addr) (n' c' b' o' : Nat) (want : List Int) (w : World) (h : RA w A n b o M) (h' : IA w A' n' b' o' want) (hR : solveR p M want = R) :
    Calls Try.prog 41 #[.int .i64 p, .slice A n c, .slice A' n' c'] w fun e w' => ∃ (A : Option Addr) (c b o : Nat), e = .returned (.tuple #[.slice A ys.length c, .bool t]) ∧ IA w' A ys.length b o ys ∧ Below w.heap.size w w' := by
  subst hR hy ht
  exact specMatSolve p A n c b o M A' n' c' b' o' want w h h'
set_option maxHeartbeats 2000000 in
set_option maxRecDepth 100000 in
theorem walkFnMatSolve (a : Option Addr) (len cap : Nat) (zs : List Int) (w : World) (h : IsRow .u8 w a len cap zs) :
    Calls Try.prog 13 #[.slice a len cap] w fun e w' => e = .returned (.bool true) ∧ Below w.heap.size w w' := by
  have hm : len ≤ 9223372036854775807 := by have := rowBytes h; unfold maxLen at this; omega
  by_cases hb : 1048576 < len
  · go_enter Try.func13, Try.ntmps13
    go_wp2_with (fail)
    go_ret
    exact ⟨rfl, Below.refl _ _⟩
  · go_enter Try.func13, Try.ntmps13
    go_wp2_with (fail)
    refine (drawMatSolve a len cap zs w h).mono ?_
    rintro e w1 ⟨p, Ao, co, M, Aw, cw, want, rfl, hp, hD, hOW, hB⟩
    obtain ⟨b, hRA⟩ := hD.ra
    obtain ⟨bw, hIW⟩ := hOW.ia
    have hML := hD.few
    have hcap := hD.cap
    obtain ⟨n, hn⟩ : ∃ n, M.length = n := ⟨_, rfl⟩
    rw [hn] at hRA hML hcap hIW ⊢
    have HRA := Lib.hid hRA
    have HIW := Lib.hid hIW
    clear hD h hRA hp hOW hIW
    obtain ⟨R, hR⟩ : ∃ R, solveR p M want = R := ⟨_, rfl⟩
    have HR := Lib.hid hR
    clear hR
    obtain ⟨ys, hys⟩ : ∃ ys, R.getD [] = ys := ⟨_, rfl⟩
    obtain ⟨t, ht⟩ : ∃ t, R.isSome = t := ⟨_, rfl⟩
    have HYS := Lib.hid hys
    have HTS := Lib.hid ht
    have htt : (t != t) = false := by simp
    clear hys ht
    go_wp2_with (fail)
    refine (implSol HYS.out HTS.out p Ao n co b 0 M Aw n cw bw 0 want _ HRA.out HIW.out HR.out).mono ?_
    rintro e w2 ⟨AX, cX, rfl, hOX, hBq⟩
    obtain ⟨bX, hIX⟩ := hOX.ia
    have HX2 := Lib.hid hIX
    have HRA2 := Lib.hid (HRA.out.below hBq)
    have HIW2 := Lib.hid (HIW.out.below hBq)
    have hK2 := below_more hB hBq
    clear hIX hOX hBq
    have hxbig := HX2.out.big
    go_wp2_with (fail)
    refine (specSol HYS.out HTS.out p Ao n co b 0 M Aw n cw bw 0 want _ HRA2.out HIW2.out HR.out).mono ?_
    rintro e w3 ⟨AS, cS, bS, oS, rfl, hIS, hBq⟩
    have HS3 := Lib.hid hIS
    have HX3 := Lib.hid (HX2.out.below hBq)
    have HRA3 := Lib.hid (HRA2.out.below hBq)
    have HIW3 := Lib.hid (HIW2.out.below hBq)
    have hK3 := below_more hK2 hBq
    clear hIS hBq
    go_wp2_with (fail)
    refine (sameIntsC AX ys.length cX bX 0 ys AS ys.length cS bS oS ys _ HX3.out HS3.out).mono ?_
    rintro e w_4 ⟨rfl, hm_4⟩
    rw [decide_eq_true (rfl : ys = ys)]
    have HX_4 := Lib.hid (HX3.out.drewN hm_4)
    have HRA_4 := Lib.hid (HRA3.out.drewN hm_4)
    have HIW_4 := Lib.hid (HIW3.out.drewN hm_4)
    have hK_4 := below_drawn hK3 hm_4
    clear hm_4
    go_wp2_with (fail)
    refine (specMatValid p Ao n co b 0 M _ HRA_4.out).mono ?_
    rintro e w_5 ⟨rfl, hm_5⟩
    have HX_5 := Lib.hid (HX_4.out.drewN hm_5)
    have HRA_5 := Lib.hid (HRA_4.out.drewN hm_5)
    have HIW_5 := Lib.hid (HIW_4.out.drewN hm_5)
    have hK_5 := below_drawn hK_4 hm_5
    clear hm_5
    have hnn : ((n : Int) != (n : Int)) = false := by simp
    rcases hv : matB p M
    · have hR0 : solveR p M want = none := solveR_no (by unfold okS; rw [hv]; rfl)
      rw [HR.out] at hR0
      have ht0 : t = false := by rw [← HTS.out, hR0]; rfl
      have hy0 : ys = [] := by rw [← HYS.out, hR0]; rfl
      subst ht0 hy0
      clear hv hR0
      go_wp2_with (fail)
      refine (alive _).mono ?_
      rintro e w_6 ⟨rfl, rfl⟩
      go_wp2_with (fail)
      go_ret
      exact ⟨rfl, hK_5⟩
    · obtain ⟨hn1, hn8, hl1, hl8, hrows⟩ := matB_true hv
      have hprime := prime_of_mat hv
      have hp := prime_ge hprime
      obtain ⟨l, hl⟩ : ∃ l, (M.headD []).length = l := ⟨_, rfl⟩
      rw [hl] at hl1 hl8 hrows
      rw [hn] at hn1 hn8
      have HN := Lib.hid hn
      have HL := Lib.hid hl
      have HRW := Lib.hid hrows
      have HV := Lib.hid hv
      clear hn hl hrows hv
      have hs0 := hK_5.size
      obtain ⟨W, hW⟩ : ∃ W, widenM M want = W := ⟨_, rfl⟩
      have hwl := HIW_5.out.len
      have hWL : W.length = n := by rw [← hW, widenM_len (by rw [hwl, HN.out]), HN.out]
      have HGET := Lib.hid (show ∀ (k : Nat) (row : List Int) (x : Int), M[k]? = some row → want[k]? = some x → W[k]? = some (row ++ [x]) from fun k row x hr hx => by rw [← hW]; exact widenM_get hr hx)
      have HWD := Lib.hid hW
      have HWL := Lib.hid hWL
      have HWN := Lib.hid hwl
      obtain ⟨L, hLl⟩ : ∃ L, L = l + 1 := ⟨_, rfl⟩
      clear hW hWL hwl
      go_wp2_with (fail)
      go_loopw [10, 11] (fun v i wr => ∃ (k : Nat) (A1 : Option Addr) (c1 : Nat) (vs : List Value), k ≤ n ∧ i = .int .i64 k ∧ v = .slice A1 k c1 ∧ OM wr w_5.heap.size A1 k c1 (W.take k) vs ∧ Below w_5.heap.size w_5 wr) (fun _ i _ => n - (intOf i).toNat)
      case atStart => exact ⟨0, _, _, [], by omega, rfl, rfl, OM.empty w_5, (Below.refl _ _).alloc (Nat.le_refl _) _⟩
      case round =>
        obtain ⟨k, A1, c1, vs, hk, rfl, rfl, hown, hbel⟩ := hrel
        obtain ⟨wo, rfl⟩ : ∃ wo : World, wo = wr := ⟨_, rfl⟩
        have hs0 := hbel.size
        by_cases hlt : k < n
        · obtain rfl := HRA_5.out.adr (by omega)
          obtain rfl := HIW_5.out.adr (by omega)
          obtain ⟨x, hx, hxw⟩ := HIW_5.out.cell k hlt
          have hxc := (keep_of_below hbel).cell hxw (fun h => h)
          obtain ⟨row, A2, c2, b2, o2, hrw, hcw, hI⟩ := HRA_5.out.row k hlt
          have hc := (keep_of_below hbel).cell hcw (fun h => h)
          obtain ⟨hrl, _⟩ := HRW.out row (List.mem_of_getElem? hrw)
          rw [hrl] at hc hcw hI
          obtain rfl := hI.adr (by omega)
          rw [Nat.zero_add] at hc hcw hxc hxw
          have HS := Lib.hid (take_snoc W k (row ++ [x]) (HGET.out k row x hrw hx))
          have HO := Lib.hid hown
          have HB := Lib.hid hbel
          have HI := Lib.hid hI
          have HRL := Lib.hid hrl
          have HRL3 := Lib.hid (show (row ++ [x]).length = L by simp [hrl]; omega)
          clear hown hbel hI hrw hrl hx
          go_wp2_with (fail)
          have hc9 : (World.drew wo).cell? ⟨b, k, none⟩ = some (.slice (some ⟨b2, o2, none⟩) l c2) := hc
          have hx9 : (World.drew wo).cell? ⟨bw, k, none⟩ = some (.int .i64 x) := hxc
          go_region_held3 (fun w' => w'.cell? ⟨b, k, none⟩ = some (.slice (some ⟨b2, o2, none⟩) l c2) ∧ w'.cell? ⟨bw, k, none⟩ = some (.int .i64 x))
            (first | exact ⟨hc, hxc⟩ | go_keep | exact ⟨(keep_of_below hb2).cell hc (fun h => h), (keep_of_below hb2).cell hxc (fun h => h)⟩ | exact ⟨(keep_of_below hb1).cell hc (fun h => h), (keep_of_below hb1).cell hxc (fun h => h)⟩ | exact ⟨(keep_of_below hb5).cell hcw (fun h => h), (keep_of_below hb5).cell hxw (fun h => h)⟩)
            (first
              | (refine step_app_row rfl (.tmp 75) (.tmp 88) (by rfl) w_5.heap.size A1 k c1 vs (by rfl) (by repeat' (first | exact owns_below HO.out.out hb2 | refine owns_drewU ?_ | refine World.ownsRow.alloc ?_ _)) A4 L c4 _ _ (by rfl) (by simp [hLl]) (by omega) (by have := hb2.size; simp; omega) ?_; intro A5 c5 w5 ho5 hk5; have hb5 : Below w_5.heap.size w_5 w5 := HB.out.trans (Below.trans (Below.mono (show Below wo.heap.size wo _ from (by repeat' (first | exact hb2 | refine Below.drewU ?_ | refine Below.alloc ?_ (by have := hb2.size; omega) _))) hs0) (hk5.below (B := w_5.heap.size) (by have := hb2.size; simp; omega) (fun q hq => (HO.out.out.lt q hq).1))))
              | (refine step_app_ints rfl (.tmp 81) (.tmp 86) (by rfl) (w0 := wo) wo.heap.size A3 l c3 row (by rfl) (by repeat' (first | exact hI1 | refine OI.drewU ?_ | refine OI.alloc ?_ _)) 1 _ _ _ [x] (by rfl) (by repeat' (first | exact IA.freshAt (by simp) _ | refine IA.drewU ?_ | refine IA.alloc ?_ _ | refine IA.keepb ?_ hk1 (by intro _ hq; simp [Value.ownBlock] at hq))) (by omega) (by omega) (by repeat' (first | exact hb1 | refine Below.drewU ?_ | refine Below.alloc ?_ (by have := hb1.size; omega) _)) rfl L (by omega) (row ++ [x]) rfl ?_; intro A4 c4 w4 hI2 hb2 hk2)
              | (refine step_app_ints rfl (.tmp 76) (.tmp 80) (by rfl) (w0 := wo) wo.heap.size _ 0 0 [] (by rfl) (by repeat' (first | exact OI.emptyAt (by simp) (by simp) | assumption | refine OI.alloc ?_ _ | refine OI.drewU ?_)) l c2 b2 o2 row (by rfl) (HI.out.below (HB.out.trans ((show Below wo.heap.size wo _ by repeat' (first | exact Below.refl _ _ | assumption | refine Below.alloc ?_ (by simp) _ | refine Below.drewU ?_)).mono hs0))) (by omega) (by omega) (by repeat' (first | exact Below.refl _ _ | assumption | refine Below.alloc ?_ (by simp) _ | refine Below.drewU ?_)) rfl l (by omega) row rfl ?_; intro A3 c3 w3 hI1 hb1 hk1))
          all_goals
            have hp := OM.push (row := row ++ [x]) (A1 := A4) (c1 := c4) HO.out (by repeat' (first | exact hb2 | refine Below.drewU ?_ | refine Below.alloc ?_ (by have := hb2.size; omega) _)) (by rw [HRL3.out]; repeat' (first | exact hI2 | refine OI.drewU ?_ | refine OI.alloc ?_ _)) (by rw [HRL3.out]; exact ho5) hk5 hs0
            rw [HS.out] at hp
            have HP5 := Lib.hid hp
            have HB5 := Lib.hid hb5
            clear hp ho5 hk5 hb5 hI2 hb2 hk2 hI1 hb1 hk1
            go_wp2_with (fail)
            go_roundw
            case rel => exact ⟨k + 1, _, _, _, by omega, by go_num, rfl, HP5.out, HB5.out⟩
            case measure => simp [intOf]; omega
        · obtain rfl : k = n := by omega
          have hWt : W.take k = W := List.take_of_length_le (by rw [HWL.out]; exact Nat.le_refl _)
          rw [hWt] at hown
          obtain ⟨br, hRq⟩ := hown.ra
          have HWR_x := Lib.hid hRq
          clear hWt hown hRq
          have HX_6 := Lib.hid (HX_5.out.below hbel)
          have HRA_6 := Lib.hid (HRA_5.out.below hbel)
          have HIW_6 := Lib.hid (HIW_5.out.below hbel)
          have hK_6 := below_more hK_5 hbel
          clear hbel
          go_wp2_with (fail)
          refine (implMatValid p A1 k c1 br 0 W _ HWR_x.out).mono ?_
          rintro e w_7 ⟨rfl, rfl⟩
          rcases hvw : matB p W
          · clear hvw
            rcases ht0 : t
            · have hy0 : ys = [] := by
                rw [← HYS.out]
                cases R with
                | none => rfl
                | some r => have := HTS.out; rw [ht0] at this; cases this
              subst hy0 ht0
              go_wp2_with (fail)
              go_loopw [12] (fun i wr => i = .int .i64 0 ∧ wr = wo) (fun _ _ => 0)
              case atStart => exact ⟨rfl, rfl⟩
              case round =>
                obtain ⟨rfl, rfl⟩ := hrel
                go_wp2_with (fail)
                go_ret
                exact ⟨rfl, hK_6⟩
            · have hRy : R = some ys := by
                rw [← HYS.out]
                cases R with
                | none => have := HTS.out; rw [ht0] at this; cases this
                | some r => rfl
              have hok : okS p M want = true := Classical.byContradiction fun h => by
                have h2 := solveR_no (p := p) (M := M) (want := want) (by simpa using h)
                rw [HR.out, hRy] at h2
                cases h2
              have hwant : rowB p want = true := by
                unfold okS at hok
                simp only [Bool.and_eq_true] at hok
                exact hok.2.2
              obtain ⟨hyl, hsum⟩ := (solve_law HV.out (by rw [HWN.out, HN.out]) hwant).2 ys (by rw [HR.out, hRy])
              have hyv := solve_valid (by rw [HR.out, hRy]) hok
              rw [HL.out] at hyl hsum
              have HSUM := Lib.hid hsum
              have HYV := Lib.hid hyv
              have HYL := Lib.hid hyl
              have hXX := HX_6.out
              rw [hyl] at hXX ⊢
              have HXX := Lib.hid hXX
              have htt3 : t = true := ht0
              subst ht0
              clear hRy hok hwant hsum hyv hyl hXX htt3
              obtain rfl := HXX.out.adr (by omega)
              obtain rfl := HRA_6.out.adr (by omega)
              obtain rfl := HIW_6.out.adr (by omega)
              go_wp2_with (fail)
              go_loopw [12] (fun i wr => ∃ q : Nat, q ≤ k ∧ i = .int .i64 q ∧ Hid (∃ m, wr = wo.drewN m)) (fun i _ => k - (intOf i).toNat)
              case atStart => exact ⟨0, by omega, rfl, 0, rfl⟩
              case round =>
                obtain ⟨q, hq, rfl, hw2⟩ := hrel
                obtain ⟨wb, rfl⟩ : ∃ wb : World, wb = wr := ⟨_, rfl⟩
                by_cases hlq : q < k
                · obtain ⟨rq, A2, c2, b2, o2, hr2, hc2, hI2⟩ := (HRA_6.out.drewN hw2.out).row q hlq
                  obtain ⟨z, hz, hzc⟩ := (HIW_6.out.drewN hw2.out).cell q hlq
                  rw [Nat.zero_add] at hc2 hzc
                  obtain ⟨hrl2, hrv2⟩ := HRW.out rq (List.mem_of_getElem? hr2)
                  rw [hrl2] at hc2 hI2
                  obtain rfl := hI2.adr (by omega)
                  have hsz : dot rq ys % p = z := by
                    rw [dot_sig rq ys l (by omega)]
                    have := HSUM.out q (by rw [HN.out]; exact hlq)
                    unfold at2 at this
                    rw [getD_row hr2, List.getD_eq_getElem?_getD (l := want), hz] at this
                    exact this
                  have HI2 := Lib.hid hI2
                  have HC2 := Lib.hid hc2
                  have HZC := Lib.hid hzc
                  have HRV2 := Lib.hid hrv2
                  have HRL2 := Lib.hid hrl2
                  have HSZ := Lib.hid hsz
                  clear hI2 hc2 hrv2 hr2 hrl2 hsz hz hzc
                  go_wp2_with (fail)
                  go_loopw [13, 14] (fun s i wr => ∃ j : Nat, j ≤ l ∧ i = .int .i64 j ∧ s = .int .i64 (dot (rq.take j) (ys.take j)) ∧ Hid (∃ m, wr = wb.drewN m)) (fun _ i _ => l - (intOf i).toNat)
                  case atStart => exact ⟨0, by omega, rfl, by simp [dot], 0, rfl⟩
                  case round =>
                    obtain ⟨j, hj, rfl, rfl, hw3⟩ := hrel
                    have hb3 := dot_take_bd hp.2 rq ys j (by omega) HRV2.out HYV.out
                    have hK3 := keep_of_below (below_drawn (Below.refl _ _) hw3.out)
                    have hc2 := hK3.cell HC2.out (fun h => h)
                    have hzc := hK3.cell HZC.out (fun h => h)
                    clear hK3
                    by_cases hlj : j < l
                    · obtain ⟨x, hx, hxc⟩ := (HI2.out.drewN hw3.out).cell j hlj
                      obtain ⟨y, hy, hyc⟩ := ((HXX.out.drewN hw2.out).drewN hw3.out).cell j hlj
                      rw [Nat.zero_add] at hyc
                      have hxb := numB_bd (HRV2.out x (List.mem_of_getElem? hx))
                      have hyb := numB_bd (HYV.out y (List.mem_of_getElem? hy))
                      have hmb := mul_bd hxb.1 (by omega) hyb.1 (by omega)
                      have HD := Lib.hid (dot_take rq ys j x y hx hy)
                      clear hx hy
                      go_wp2_with (fail)
                      go_quiet (fail)
                      go_wp2_with (fail)
                      go_roundw
                      case rel => exact ⟨j + 1, by omega, by go_num, by rw [HD.out], drewN_more hw3.out _⟩
                      case measure => simp [intOf]; omega
                    · obtain rfl : j = l := by omega
                      rw [dot_same rq ys j HRL2.out HYL.out] at hb3 ⊢
                      have hz := HSZ.out
                      generalize dot rq ys = S at hb3 hz ⊢
                      have hne : (S % p != z) = false := by rw [hz]; simp
                      have hll : ((j : Int) != (j : Int)) = false := by simp
                      have hmm := drewN_more hw3.out
                      have hmm2 := hw2.out
                      go_wp2_with (fail)
                      go_quiet (fail)
                      go_wp2_with (fail)
                      go_roundw
                      case rel => exact ⟨q + 1, by omega, by go_num, by obtain ⟨m2, hm2⟩ := hmm2; obtain ⟨m3, hm3⟩ := hmm _; exact ⟨m2 + m3, by rw [hm3, hm2, World.drewN_drewN]⟩⟩
                      case measure => simp [intOf]; omega
                · obtain rfl : q = k := by omega
                  have hKE := below_drawn hK_6 hw2.out
                  go_wp2_with (fail)
                  go_ret
                  exact ⟨rfl, hKE⟩
          · have hwant : rowB p want = true := by
              refine List.all_eq_true.2 fun x hx => ?_
              obtain ⟨i, hi, rfl⟩ := List.getElem_of_mem hx
              have h1 : W[i]? = some (M.getD i [] ++ [want[i]]) := HGET.out i _ _ (by rw [getQ, List.getElem?_eq_getElem (by rw [HN.out, ← HWN.out]; exact hi)]; rfl) (List.getElem?_eq_getElem hi)
              exact ((matB_true hvw).2.2.2.2 _ (List.mem_of_getElem? h1)).2 _ (by simp)
            have hlaw := (solve_law HV.out (by rw [HWN.out, HN.out]) hwant).1
            have hWh : (W.headD []).length = l + 1 := by
              have hh := headD_len (VM.widen (VM_of_mat HV.out) (rowB_mem hwant)) (by rw [HWD.out, HWL.out]; omega)
              rw [HWD.out, HL.out] at hh
              exact hh
            rw [HR.out, HTS.out, HWD.out, HL.out] at hlaw
            obtain ⟨r1, hr1⟩ : ∃ r, rankR p W = r := ⟨_, rfl⟩
            obtain ⟨r2, hr2⟩ : ∃ r, rankR p M = r := ⟨_, rfl⟩
            have hr1' := rankR_yes hvw
            have hr2' := rankR_yes HV.out
            rw [hr1, hWh] at hr1'
            rw [hr2, HL.out] at hr2'
            have hteq : (r1 == r2) = t := by
              rw [hlaw, hr1', hr2', Bool.eq_iff_iff]
              simp only [beq_iff_eq, decide_eq_true_eq, Int.ofNat_inj]
            have HR1 := Lib.hid hr1
            have HR2 := Lib.hid hr2
            clear hwant hlaw hWh hr1 hr2 hr1' hr2' hvw
            go_wp2_with (fail)
            refine (implMatRank p A1 k c1 br 0 W _ HWR_x.out).mono ?_
            rw [HR1.out]
            rintro e w_8 ⟨rfl, hBq⟩
            have HX_8 := Lib.hid (HX_6.out.below hBq)
            have HRA_8 := Lib.hid (HRA_6.out.below hBq)
            have HIW_8 := Lib.hid (HIW_6.out.below hBq)
            have HWR_8 := Lib.hid (HWR_x.out.below hBq)
            have hK_8 := below_more hK_6 hBq
            clear hBq
            go_wp2_with (fail)
            refine (implMatRank p _ k co b 0 M _ HRA_8.out).mono ?_
            rw [HR2.out]
            rintro e w_9 ⟨rfl, hBq⟩
            have HX_9 := Lib.hid (HX_8.out.below hBq)
            have HRA_9 := Lib.hid (HRA_8.out.below hBq)
            have HIW_9 := Lib.hid (HIW_8.out.below hBq)
            have HWR_9 := Lib.hid (HWR_8.out.below hBq)
            have hK_9 := below_more hK_8 hBq
            clear hBq
            rcases ht0 : t
            · have hy0 : ys = [] := by
                rw [← HYS.out]
                cases R with
                | none => rfl
                | some r => have := HTS.out; rw [ht0] at this; cases this
              subst hy0 ht0
              go_wp2_with (fail)
              go_loopw [12] (fun i wr => i = .int .i64 0 ∧ wr = w_9) (fun _ _ => 0)
              case atStart => exact ⟨rfl, rfl⟩
              case round =>
                obtain ⟨rfl, rfl⟩ := hrel
                go_wp2_with (fail)
                go_ret
                exact ⟨rfl, hK_9⟩
            · have hRy : R = some ys := by
                rw [← HYS.out]
                cases R with
                | none => have := HTS.out; rw [ht0] at this; cases this
                | some r => rfl
              have hok : okS p M want = true := Classical.byContradiction fun h => by
                have h2 := solveR_no (p := p) (M := M) (want := want) (by simpa using h)
                rw [HR.out, hRy] at h2
                cases h2
              have hwant : rowB p want = true := by
                unfold okS at hok
                simp only [Bool.and_eq_true] at hok
                exact hok.2.2
              obtain ⟨hyl, hsum⟩ := (solve_law HV.out (by rw [HWN.out, HN.out]) hwant).2 ys (by rw [HR.out, hRy])
              have hyv := solve_valid (by rw [HR.out, hRy]) hok
              rw [HL.out] at hyl hsum
              have HSUM := Lib.hid hsum
              have HYV := Lib.hid hyv
              have HYL := Lib.hid hyl
              have hXX := HX_9.out
              rw [hyl] at hXX ⊢
              have HXX := Lib.hid hXX
              have htt3 : t = true := ht0
              subst ht0
              clear hRy hok hwant hsum hyv hyl hXX htt3
              obtain rfl := HXX.out.adr (by omega)
              obtain rfl := HRA_9.out.adr (by omega)
              obtain rfl := HIW_9.out.adr (by omega)
              go_wp2_with (fail)
              go_loopw [12] (fun i wr => ∃ q : Nat, q ≤ k ∧ i = .int .i64 q ∧ Hid (∃ m, wr = w_9.drewN m)) (fun i _ => k - (intOf i).toNat)
              case atStart => exact ⟨0, by omega, rfl, 0, rfl⟩
              case round =>
                obtain ⟨q, hq, rfl, hw2⟩ := hrel
                obtain ⟨wb, rfl⟩ : ∃ wb : World, wb = wr := ⟨_, rfl⟩
                by_cases hlq : q < k
                · obtain ⟨rq, A2, c2, b2, o2, hr2, hc2, hI2⟩ := (HRA_9.out.drewN hw2.out).row q hlq
                  obtain ⟨z, hz, hzc⟩ := (HIW_9.out.drewN hw2.out).cell q hlq
                  rw [Nat.zero_add] at hc2 hzc
                  obtain ⟨hrl2, hrv2⟩ := HRW.out rq (List.mem_of_getElem? hr2)
                  rw [hrl2] at hc2 hI2
                  obtain rfl := hI2.adr (by omega)
                  have hsz : dot rq ys % p = z := by
                    rw [dot_sig rq ys l (by omega)]
                    have := HSUM.out q (by rw [HN.out]; exact hlq)
                    unfold at2 at this
                    rw [getD_row hr2, List.getD_eq_getElem?_getD (l := want), hz] at this
                    exact this
                  have HI2 := Lib.hid hI2
                  have HC2 := Lib.hid hc2
                  have HZC := Lib.hid hzc
                  have HRV2 := Lib.hid hrv2
                  have HRL2 := Lib.hid hrl2
                  have HSZ := Lib.hid hsz
                  clear hI2 hc2 hrv2 hr2 hrl2 hsz hz hzc
                  go_wp2_with (fail)
                  go_loopw [13, 14] (fun s i wr => ∃ j : Nat, j ≤ l ∧ i = .int .i64 j ∧ s = .int .i64 (dot (rq.take j) (ys.take j)) ∧ Hid (∃ m, wr = wb.drewN m)) (fun _ i _ => l - (intOf i).toNat)
                  case atStart => exact ⟨0, by omega, rfl, by simp [dot], 0, rfl⟩
                  case round =>
                    obtain ⟨j, hj, rfl, rfl, hw3⟩ := hrel
                    have hb3 := dot_take_bd hp.2 rq ys j (by omega) HRV2.out HYV.out
                    have hK3 := keep_of_below (below_drawn (Below.refl _ _) hw3.out)
                    have hc2 := hK3.cell HC2.out (fun h => h)
                    have hzc := hK3.cell HZC.out (fun h => h)
                    clear hK3
                    by_cases hlj : j < l
                    · obtain ⟨x, hx, hxc⟩ := (HI2.out.drewN hw3.out).cell j hlj
                      obtain ⟨y, hy, hyc⟩ := ((HXX.out.drewN hw2.out).drewN hw3.out).cell j hlj
                      rw [Nat.zero_add] at hyc
                      have hxb := numB_bd (HRV2.out x (List.mem_of_getElem? hx))
                      have hyb := numB_bd (HYV.out y (List.mem_of_getElem? hy))
                      have hmb := mul_bd hxb.1 (by omega) hyb.1 (by omega)
                      have HD := Lib.hid (dot_take rq ys j x y hx hy)
                      clear hx hy
                      go_wp2_with (fail)
                      go_quiet (fail)
                      go_wp2_with (fail)
                      go_roundw
                      case rel => exact ⟨j + 1, by omega, by go_num, by rw [HD.out], drewN_more hw3.out _⟩
                      case measure => simp [intOf]; omega
                    · obtain rfl : j = l := by omega
                      rw [dot_same rq ys j HRL2.out HYL.out] at hb3 ⊢
                      have hz := HSZ.out
                      generalize dot rq ys = S at hb3 hz ⊢
                      have hne : (S % p != z) = false := by rw [hz]; simp
                      have hll : ((j : Int) != (j : Int)) = false := by simp
                      have hmm := drewN_more hw3.out
                      have hmm2 := hw2.out
                      go_wp2_with (fail)
                      go_quiet (fail)
                      go_wp2_with (fail)
                      go_roundw
                      case rel => exact ⟨q + 1, by omega, by go_num, by obtain ⟨m2, hm2⟩ := hmm2; obtain ⟨m3, hm3⟩ := hmm _; exact ⟨m2 + m3, by rw [hm3, hm2, World.drewN_drewN]⟩⟩
                      case measure => simp [intOf]; omega
                · obtain rfl : q = k := by omega
                  have hKE := below_drawn hK_9 hw2.out
                  go_wp2_with (fail)
                  go_ret
                  exact ⟨rfl, hKE⟩
end Go.Proofs.Ytpelokdgjdljfab

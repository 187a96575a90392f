/-
  The walk of the law of TableOf.
-/
import Derived.Test.YtcjpjcigjljplaaDrZ
import Derived.Test.YtcjpjcigjljplaaSame
import Derived.Test.YtcjpjcigjljplaaTab
namespace Go.Proofs.Ytcjpjcigjljplaa
open Go.RowKit
theorem tab_mat {p : Int} {s : List Int} {R Q : Nat} (hs : serB p s = true) (r1 : 1 ≤ R) (r8 : R ≤ 8) (q1 : 1 ≤ Q) (q8 : Q ≤ 8) (hl : R + Q - 1 ≤ s.length) : matB p (tabL s R Q) = true := by
  obtain ⟨_, _, hx⟩ := serB_true hs
  have h0 : (tabL s R Q).headD [] = winL s Q 0 := headD_of (tabL_get s (by omega))
  have hq : ((tabL s R Q).headD []).length = Q := by rw [h0]; exact winL_len (by omega)
  rw [matB_of ⟨by rw [tabL_len]; exact r1, by rw [tabL_len]; exact r8, by rw [hq]; exact q1, by rw [hq]; exact q8⟩, hq]
  refine List.all_eq_true.2 (fun row hr => ?_)
  obtain ⟨k, hk, rfl⟩ := List.mem_map.1 hr
  have hk := List.mem_range.1 hk
  unfold rowOk rowB
  rw [winL_len (by omega), decide_eq_true rfl, Bool.true_and]
  refine List.all_eq_true.2 (fun x hxm => hx x ?_)
  unfold winL at hxm
  exact List.mem_of_mem_drop (List.mem_of_mem_take hxm)
theorem tab_turn {s : List Int} {R Q : Nat} (r1 : 1 ≤ R) (q1 : 1 ≤ Q) (hl : R + Q - 1 ≤ s.length) : turnM (tabL s R Q) = tabL s Q R := by
  have h0 : (tabL s R Q).headD [] = winL s Q 0 := headD_of (tabL_get s (by omega))
  unfold turnM
  rw [h0, winL_len (by omega)]
  unfold tabL
  refine List.map_congr_left (fun j hj => ?_)
  have hj := List.mem_range.1 hj
  apply List.ext_getElem?
  intro k
  by_cases hk : k < R
  · have hx : (winL s Q k)[j]? = some (s[k + j]'(by omega)) := by
      unfold winL
      rw [List.getElem?_take_of_lt hj, List.getElem?_drop, List.getElem?_eq_getElem]
    have hr : (tabL s R Q)[k]? = some (winL s Q k) := tabL_get s hk
    unfold tabL at hr
    rw [colM_get hr hx]
    unfold winL
    rw [List.getElem?_take_of_lt hk, List.getElem?_drop, Nat.add_comm j k, List.getElem?_eq_getElem]
  · rw [List.getElem?_eq_none (by rw [colM_len]; simp; omega), List.getElem?_eq_none (by rw [winL_len (by omega)]; omega)]
theorem tabOk_swap (p : Int) (s : List Int) (r q : Int) : tabOk p s r q = tabOk p s q r := by
  unfold tabOk
  rw [show r + q - 1 = q + r - 1 by omega]
  cases serB p s <;> cases inB r 1 8 <;> cases inB q 1 8 <;> rfl
set_option maxRecDepth 100000 in
set_option maxHeartbeats 2000000 in
theorem walkFnTableOf (a : Option Addr) (len cap : Nat) (zs : List Int) (w : World) (h : IsRow .u8 w a len cap zs) :
    Calls Try.prog 3 #[.slice a len cap] w fun e w' => e = .returned (.bool true) ∧ Below w.heap.size w w' := by
  have hm : len ≤ 9223372036854775807 := by have := rowBytes h; unfold maxLen at this; omega
  by_cases hb : 1048576 < len
  · go_enter Try.func3, Try.ntmps3
    go_wp2_with (fail)
    go_ret
    exact ⟨rfl, Below.refl _ _⟩
  · go_enter Try.func3, Try.ntmps3
    go_wp2_with (fail)
    refine (drawTableOf a len cap zs w h).mono ?_
    rintro e w1 ⟨p, A, c, s, r, q, rfl, hp0, hp1, hl, hr0, hr1, hq0, hq1, hO, hB⟩
    have hcap := OI.capLe hO
    obtain ⟨b, hI⟩ := hO.ia
    obtain ⟨n, hn⟩ : ∃ n, s.length = n := ⟨_, rfl⟩
    rw [hn] at hI hcap hl ⊢
    have HI := Lib.hid hI
    have HB := Lib.hid hB
    have HN := Lib.hid hn
    clear hO hI hB h hn
    obtain ⟨R, hR⟩ : ∃ R, tabR p s r q = R := ⟨_, rfl⟩
    have HR := Lib.hid hR
    clear hR
    go_wp2_with (fail)
    refine (implTableOf p A n c b 0 s r q _ HI.out hcap).mono ?_
    rw [HR.out]
    rintro e w2 ⟨A2, c2, v2, rfl, hO2, hB2⟩
    obtain ⟨b2, hR2⟩ := hO2.ra
    have HR2 := Lib.hid hR2
    have hK2 := below_more HB.out hB2
    have HA2 := Lib.hid (HI.out.below hB2)
    clear hO2 hR2 hB2
    have hRbig := HR2.out.big
    go_wp2_with (fail)
    refine (specTableOf p A n c b 0 s r q _ HA2.out hcap).mono ?_
    rw [HR.out]
    rintro e w3 ⟨A3, c3, v3, rfl, hO3, hB3⟩
    obtain ⟨b3, hR3⟩ := hO3.ra
    have HR3 := Lib.hid hR3
    have HX3 := Lib.hid (HR2.out.below hB3)
    have HA3 := Lib.hid (HA2.out.below hB3)
    have hK3 := below_more hK2 hB3
    clear hR3 hO3 hB3 hK2
    go_wp2_with (fail)
    refine (sameRowsC A2 R.length c2 b2 0 R A3 R.length c3 b3 0 R _ HX3.out HR3.out).mono ?_
    rintro e w4 ⟨rfl, hm4⟩
    rw [decide_eq_true (rfl : R = R)]
    have hK4 := below_drawn hK3 hm4
    have HX4 := Lib.hid (HX3.out.drewN hm4)
    have HA4 := Lib.hid (HA3.out.drewN hm4)
    clear hK3
    rcases hv : tabOk p s r q
    · have hR0 : R = [] := by rw [← HR.out]; unfold tabR; rw [if_neg (by simp [hv])]
      subst hR0
      clear hv
      go_wp2_with (fail)
      refine (alive _).mono ?_
      rintro e w6 ⟨rfl, rfl⟩
      go_wp2_with (fail)
      go_ret
      exact ⟨rfl, hK4⟩
    · have hsw := hv
      rw [tabOk_swap] at hsw
      obtain ⟨hs, X, Y, rfl, rfl, r1, r8, q1, q8, hrq⟩ := tabOk_true hv
      have hRL : R = tabL s X Y := by rw [← HR.out]; unfold tabR; rw [if_pos hv]; rfl
      have hRn : R.length = X := by rw [hRL, tabL_len]
      have hMV := tab_mat hs r1 r8 q1 q8 hrq
      have hTU := tab_turn (s := s) r1 q1 hrq
      obtain ⟨S, hS⟩ : ∃ S, tabL s Y X = S := ⟨_, rfl⟩
      have HS1 := Lib.hid (show tabR p s (Y : Int) (X : Int) = S by unfold tabR; rw [if_pos hsw, ← hS]; rfl)
      have HS2 := Lib.hid (show turnR p R = S by rw [hRL, ← hS, ← hTU]; unfold turnR; rw [if_pos hMV])
      have HV := Lib.hid (show matB p R = true by rw [hRL]; exact hMV)
      have HRN := Lib.hid hRn
      have hR0 : ((R.length : Int) == 0) = false := by rw [beq_eq_false_iff_ne]; omega
      have hR0' : ¬ (R.length : Int) = 0 := by omega
      have hRX : ((R.length : Int) == (X : Int)) = true := by rw [beq_iff_eq]; omega
      clear hv hsw hs hRL hMV hTU hS hRn
      go_wp2_with (fail)
      refine (implMatValid p A2 R.length c2 b2 0 R _ HX4.out).mono ?_
      rintro e w5 ⟨rfl, rfl⟩
      rw [HV.out]
      go_wp2_with (fail)
      refine (implMatTurn p A2 R.length c2 b2 0 R _ HX4.out).mono ?_
      rw [HS2.out]
      rintro e w6 ⟨A6, c6, v6, rfl, hO6, hB6⟩
      obtain ⟨b6, hR6⟩ := hO6.ra
      have HR6 := Lib.hid hR6
      have HA6 := Lib.hid (HA4.out.below hB6)
      have hK6 := below_more hK4 hB6
      clear hO6 hR6 hB6
      have hSbig := HR6.out.big
      go_wp2_with (fail)
      refine (implTableOf p A n c b 0 s (Y : Int) (X : Int) _ HA6.out hcap).mono ?_
      rw [HS1.out]
      rintro e w7 ⟨A7, c7, v7, rfl, hO7, hB7⟩
      obtain ⟨b7, hR7⟩ := hO7.ra
      have HR7 := Lib.hid hR7
      have HR6b := Lib.hid (HR6.out.below hB7)
      have hK7 := below_more hK6 hB7
      clear hO7 hR7 hB7
      go_wp2_with (fail)
      refine (sameRowsC A6 S.length c6 b6 0 S A7 S.length c7 b7 0 S _ HR6b.out HR7.out).mono ?_
      rintro e w8 ⟨rfl, hm8⟩
      rw [decide_eq_true (rfl : S = S)]
      have hK8 := below_drawn hK7 hm8
      go_wp2_with (fail)
      go_ret
      exact ⟨rfl, hK8⟩
end Go.Proofs.Ytcjpjcigjljplaa

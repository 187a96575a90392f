/-
  The walk of the law of MatTurn.
-/
import Derived.Test.YtpelokdgjdljfabDrawMM
import Derived.Test.YtpelokdgjdljfabSame
import Derived.Test.YtpelokdgjdljfabRankI
import Derived.Test.YtpelokdgjdljfabLin6
namespace Go.Proofs.Ytpelokdgjdljfab
open Go.RowKit
theorem turnR_yes {p : Int} {M : List (List Int)} (h : matB p M = true) : turnR p M = turnM M := by unfold turnR; rw [if_pos h]
theorem turnR_no {p : Int} {M : List (List Int)} (h : matB p M = false) : turnR p M = [] := by unfold turnR; rw [if_neg (by simp [h])]
set_option maxRecDepth 100000 in
theorem walkFnMatTurn (a : Option Addr) (len cap : Nat) (zs : List Int) (w : World) (h : IsRow .u8 w a len cap zs) :
    Calls Try.prog 5 #[.slice a len cap] w fun e w' => e = .returned (.bool true) ∧ Below w.heap.size w w' := by
  have hm : len ≤ 9223372036854775807 := by have := rowBytes h; unfold maxLen at this; omega
  by_cases hb : 1048576 < len
  · go_enter Try.func5, Try.ntmps5
    go_wp2_with (fail)
    go_ret
    exact ⟨rfl, Below.refl _ _⟩
  · go_enter Try.func5, Try.ntmps5
    go_wp2_with (fail)
    refine (drawMatTurn a len cap zs w h).mono ?_
    rintro e w1 ⟨p, Ao, co, M, rfl, hp, hD, hB⟩
    obtain ⟨b, hRA⟩ := hD.ra
    have hML := hD.few
    have HB := Lib.hid hB
    obtain ⟨n, hn⟩ : ∃ n, M.length = n := ⟨_, rfl⟩
    rw [hn] at hRA hML ⊢
    have HRA := Lib.hid hRA
    clear hD hB h hRA hp
    obtain ⟨R, hR⟩ : ∃ R, turnR p M = R := ⟨_, rfl⟩
    have HR := Lib.hid hR
    clear hR
    go_wp2_with (fail)
    refine (implMatTurn p Ao n co b 0 M _ HRA.out).mono ?_
    rw [HR.out]
    rintro e w2 ⟨A2, c2, v2, rfl, hO2, hB2⟩
    obtain ⟨b2, hR2⟩ := hO2.ra
    have HR2 := Lib.hid hR2
    have hK2 := below_more HB.out hB2
    have HA2 := Lib.hid (HRA.out.below hB2)
    clear hO2 hR2 hB2
    have hRbig := HR2.out.big
    go_wp2_with (fail)
    refine (specMatTurn p Ao n co b 0 M _ HA2.out).mono ?_
    rw [HR.out]
    rintro e w3 ⟨A3, c3, b3, o3, rfl, hR3, hB3⟩
    have HR3 := Lib.hid hR3
    have HX3 := Lib.hid (HR2.out.below hB3)
    have HA3 := Lib.hid (HA2.out.below hB3)
    have hK3 := below_more hK2 hB3
    clear hR3 hB3 hK2
    go_wp2_with (fail)
    refine (sameRowsC A2 R.length c2 b2 0 R A3 R.length c3 b3 o3 R _ HX3.out HR3.out).mono ?_
    rintro e w4 ⟨rfl, hm4⟩
    rw [decide_eq_true (rfl : R = R)]
    have hK4 := below_drawn hK3 hm4
    have HX4 := Lib.hid (HX3.out.drewN hm4)
    have HA4 := Lib.hid (HA3.out.drewN hm4)
    clear hK3
    go_wp2_with (fail)
    refine (specMatValid p Ao n co b 0 M _ HA4.out).mono ?_
    rintro e w5 ⟨rfl, hm5⟩
    have hK5 := below_drawn hK4 hm5
    have HX5 := Lib.hid (HX4.out.drewN hm5)
    have HA5 := Lib.hid (HA4.out.drewN hm5)
    clear hK4
    rcases hv : matB p M
    · have hR0 : R = [] := by rw [← HR.out, turnR_no hv]
      subst hR0
      clear hv
      go_wp2_with (fail)
      refine (alive _).mono ?_
      rintro e w6 ⟨rfl, rfl⟩
      go_wp2_with (fail)
      go_ret
      exact ⟨rfl, hK5⟩
    · have e1 : turnR p R = M := by
        rw [← HR.out, turnR_yes hv, turnR_yes (turn_mat hv).1, turn_turn hv]
      have e2 : rankR p R = rankR p M := by rw [← HR.out, turnR_yes hv, rank_turn hv]
      obtain ⟨k, hk⟩ : ∃ k, rankR p M = k := ⟨_, rfl⟩
      rw [hk] at e2
      have HE1 := Lib.hid e1
      have HE2 := Lib.hid e2
      have HK := Lib.hid hk
      have HN := Lib.hid hn
      have hq : (k == k) = true := by simp
      clear hv e1 e2 hk hn
      go_wp2_with (fail)
      refine (implMatTurn p A2 R.length c2 b2 0 R _ HX5.out).mono ?_
      rw [HE1.out]
      rintro e w6 ⟨A6, c6, v6, rfl, hO6, hB6⟩
      obtain ⟨b6, hR6⟩ := hO6.ra
      have HR6 := Lib.hid hR6
      have hK6 := below_more hK5 hB6
      have HX6 := Lib.hid (HX5.out.below hB6)
      have HA6 := Lib.hid (HA5.out.below hB6)
      clear hO6 hR6 hB6 hK5
      go_wp2_with (fail)
      refine (sameRowsC A6 M.length c6 b6 0 M Ao n co b 0 M _ HR6.out HA6.out).mono ?_
      rintro e w7 ⟨rfl, hm7⟩
      rw [decide_eq_true (rfl : M = M)]
      have hK7 := below_drawn hK6 hm7
      have HX7 := Lib.hid (HX6.out.drewN hm7)
      have HA7 := Lib.hid (HA6.out.drewN hm7)
      clear hK6
      go_wp2_with (fail)
      refine (implMatRank p A2 R.length c2 b2 0 R _ HX7.out).mono ?_
      rw [HE2.out]
      rintro e w8 ⟨rfl, hB8⟩
      have HA8 := Lib.hid (HA7.out.below hB8)
      have hK8 := below_more hK7 hB8
      clear hB8 hK7
      go_wp2_with (fail)
      refine (implMatRank p Ao n co b 0 M _ HA8.out).mono ?_
      rw [HK.out]
      rintro e w9 ⟨rfl, hB9⟩
      have hK9 := below_more hK8 hB9
      clear hB9 hK8
      go_wp2_with (fail)
      go_ret
      exact ⟨rfl, hK9⟩
end Go.Proofs.Ytpelokdgjdljfab

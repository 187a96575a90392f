/-
  The walk of the law of MatRank.
-/
import Derived.Test.YtpelokdgjdljfabDrawT
import Derived.Test.YtpelokdgjdljfabSame
import Derived.Test.YtpelokdgjdljfabFormM
import Derived.Test.YtpelokdgjdljfabLin6
namespace Go.Proofs.Ytpelokdgjdljfab
open Go.RowKit
theorem IsRow.below {k : IntKind} {w w' : World} {a : Option Addr} {len cap : Nat} {zs : List Int} (h : IsRow k w a len cap zs) (hb : Below w.heap.size w w') : IsRow k w' a len cap zs := by
  rcases h with h | ⟨x, h1, h2, h3, h4, h5, h6⟩
  · exact .inl h
  · exact .inr ⟨x, h1, h2, h3, h4, fun i hi => (keep_of_below hb).cell (h5 i hi) (fun h => h), h6⟩
set_option maxRecDepth 100000 in
theorem walkFnMatRank (a : Option Addr) (len cap : Nat) (zs : List Int) (a1 : Option Addr) (len1 cap1 : Nat) (zs1 : List Int) (w : World) (h : IsRow .u8 w a len cap zs) (h1 : IsRow .u8 w a1 len1 cap1 zs1) :
    Calls Try.prog 9 #[.slice a len cap, .slice a1 len1 cap1] w fun e w' => e = .returned (.bool true) ∧ Below w.heap.size w w' := by
  have hm : len ≤ 9223372036854775807 := by have := rowBytes h; unfold maxLen at this; omega
  have hm1 : len1 ≤ 9223372036854775807 := by have := rowBytes h1; unfold maxLen at this; omega
  by_cases hb : 1048576 < len
  · go_enter Try.func9, Try.ntmps9
    go_wp2_with (fail)
    go_ret
    exact ⟨rfl, Below.refl _ _⟩
  by_cases hb1 : 1048576 < len1
  · go_enter Try.func9, Try.ntmps9
    go_wp2_with (fail)
    go_ret
    exact ⟨rfl, Below.refl _ _⟩
  have hd0 : decide (1048576 < (len : Int)) = false := by simp; omega
  have hd1 : decide (1048576 < (len1 : Int)) = false := by simp; omega
  go_enter Try.func9, Try.ntmps9
  go_wp2_with (fail)
  refine (drawMatRank a len cap zs w h).mono ?_
  rintro e w1 ⟨p, Ao, co, M, rfl, hp, hD, hB⟩
  obtain ⟨b, hRA⟩ := hD.ra
  have hML := hD.few
  have hcap := hD.cap
  have HIN := Lib.hid (h1.below hB)
  obtain ⟨n, hn⟩ : ∃ n, M.length = n := ⟨_, rfl⟩
  rw [hn] at hRA hML hcap ⊢
  have HRA := Lib.hid hRA
  clear hD h h1 hRA hp
  obtain ⟨k, hk⟩ : ∃ k, rankR p M = k := ⟨_, rfl⟩
  have HK := Lib.hid hk
  have hq : (k != k) = false := by simp
  clear hk
  go_wp2_with (fail)
  refine (implMatRank p Ao n co b 0 M _ HRA.out).mono ?_
  rw [HK.out]
  rintro e w_1 ⟨rfl, hBq⟩
  have HRA_1 := Lib.hid (HRA.out.below hBq)
  have HIN_1 := Lib.hid (HIN.out.below hBq)
  have hK_1 := below_more hB hBq
  clear hBq
  go_wp2_with (fail)
  refine (specMatRank p Ao n co b 0 M _ HRA_1.out).mono ?_
  rw [HK.out]
  rintro e w_2 ⟨rfl, hBq⟩
  have HRA_2 := Lib.hid (HRA_1.out.below hBq)
  have HIN_2 := Lib.hid (HIN_1.out.below hBq)
  have hK_2 := below_more hK_1 hBq
  clear hBq
  rcases hv : matB p M
  · have hk0 : k = -1 := by rw [← HK.out, rankR_no hv]
    subst hk0
    clear hv
    go_wp2_with (fail)
    refine (alive _).mono ?_
    rintro e w_3 ⟨rfl, rfl⟩
    go_wp2_with (fail)
    go_ret
    exact ⟨rfl, hK_2⟩
  · obtain ⟨hn1, hn8, hl1, hl8, hrows⟩ := matB_true hv
    obtain ⟨hk1, hk2⟩ := rank_bd hv
    have hk3 := rankR_yes hv
    rw [HK.out] at hk3
    rw [hn] at hn1 hn8 hk1
    obtain ⟨l, hl⟩ : ∃ l, (M.headD []).length = l := ⟨_, rfl⟩
    rw [hl] at hl1 hl8 hk1 hk2 hk3
    have hd2 : decide (k < 0) = false := by rw [hk3]; simp
    have hd3 : decide (k ≤ (n : Int)) = true := by rw [hk3]; simpa using hk1
    have hd4 : decide (k ≤ (l : Int)) = true := by rw [hk3]; simpa using hk2
    have HL := Lib.hid hl
    clear hrows hk1 hk2 hk3 hl hv hn
    go_wp2_with (fail)
    refine (drawMatTimes a1 len1 cap1 zs1 _ HIN_2.out).mono ?_
    rintro e w_d ⟨q, Aa, ca, MA, Ab, cb, MB, rfl, hq0, hDA, hDB, hBd⟩
    obtain ⟨ba, hRa⟩ := hDA.ra
    obtain ⟨bb, hRb⟩ := hDB.ra
    have hMA := hDA.few
    have hMB := hDB.few
    have hcapa := hDA.cap
    have hcapb := hDB.cap
    obtain ⟨na, hna⟩ : ∃ n, MA.length = n := ⟨_, rfl⟩
    obtain ⟨nb, hnb⟩ : ∃ n, MB.length = n := ⟨_, rfl⟩
    rw [hna] at hRa hMA hcapa ⊢
    rw [hnb] at hRb hMB hcapb ⊢
    have HA := Lib.hid hRa
    have HB := Lib.hid hRb
    clear hRa hRb hDA hDB hq0
    obtain ⟨X, hX⟩ : ∃ X, timesR q MA MB = X := ⟨_, rfl⟩
    have HX := Lib.hid hX
    clear hX
    have HRA_3 := Lib.hid (HRA_2.out.below hBd)
    have hK_3 := below_more hK_2 hBd
    clear hBd
    go_wp2_with (fail)
    refine (implMatTimes q Aa na ca ba 0 MA Ab nb cb bb 0 MB _ HA.out HB.out).mono ?_
    rw [HX.out]
    rintro e w_4 ⟨AXX, cXX, vXX, rfl, hO, hBq⟩
    obtain ⟨bXX, hRq⟩ := hO.ra
    have HXX_4 := Lib.hid hRq
    have HRA_4 := Lib.hid (HRA_3.out.below hBq)
    have HA_4 := Lib.hid (HA.out.below hBq)
    have HB_4 := Lib.hid (HB.out.below hBq)
    have hK_4 := below_more hK_3 hBq
    clear hO hRq hBq
    have hXbig := HXX_4.out.big
    obtain ⟨row0, A0, c0, b0, o0, hr0, hc0, hI0⟩ := HRA_4.out.row 0 (by omega)
    obtain rfl := HRA_4.out.adr (by omega)
    have hrl0 := HL.out
    rw [headD_of hr0] at hrl0
    rw [Nat.zero_add, hrl0] at hc0
    clear hr0 hI0 hrl0
    by_cases hx0 : 0 < X.length
    · have hyes : matB q MA = true ∧ matB q MB = true ∧ (MA.headD []).length = MB.length := Classical.byContradiction fun hno => by rw [← HX.out, timesR_no hno] at hx0; simp at hx0
      obtain ⟨r1, r2⟩ := rank_times hyes.1 hyes.2.1 hyes.2.2
      rw [← timesR_yes hyes, HX.out] at r1 r2
      obtain ⟨u1, hu1⟩ : ∃ u, rankR q X = u := ⟨_, rfl⟩
      obtain ⟨u2, hu2⟩ : ∃ u, rankR q MA = u := ⟨_, rfl⟩
      obtain ⟨u3, hu3⟩ : ∃ u, rankR q MB = u := ⟨_, rfl⟩
      rw [hu1, hu2] at r1
      rw [hu1, hu3] at r2
      have hd5 : decide (u2 < u1) = false := by simp; omega
      have hd6 : decide (u3 < u1) = false := by simp; omega
      have HU1 := Lib.hid hu1
      have HU2 := Lib.hid hu2
      have HU3 := Lib.hid hu3
      clear hyes r1 r2 hu1 hu2 hu3
      have HC := Lib.hid hc0
      clear hc0
      go_wp2_with (fail)
      refine (implMatRank q AXX X.length cXX bXX 0 X _ HXX_4.out).mono ?_
      rw [HU1.out]
      rintro e w_5 ⟨rfl, hBq⟩
      have HA_5 := Lib.hid (HA_4.out.below hBq)
      have HB_5 := Lib.hid (HB_4.out.below hBq)
      have HXX_5 := Lib.hid (HXX_4.out.below hBq)
      have HC_5 := Lib.hid ((keep_of_below hBq).cell HC.out (fun h => h))
      have hK_5 := below_more hK_4 hBq
      clear hBq
      go_wp2_with (fail)
      refine (implMatRank q Aa na ca ba 0 MA _ HA_5.out).mono ?_
      rw [HU2.out]
      rintro e w_6 ⟨rfl, hBq⟩
      have HA_6 := Lib.hid (HA_5.out.below hBq)
      have HB_6 := Lib.hid (HB_5.out.below hBq)
      have HXX_6 := Lib.hid (HXX_5.out.below hBq)
      have HC_6 := Lib.hid ((keep_of_below hBq).cell HC_5.out (fun h => h))
      have hK_6 := below_more hK_5 hBq
      clear hBq
      go_wp2_with (fail)
      refine (implMatRank q AXX X.length cXX bXX 0 X _ HXX_6.out).mono ?_
      rw [HU1.out]
      rintro e w_7 ⟨rfl, hBq⟩
      have HA_7 := Lib.hid (HA_6.out.below hBq)
      have HB_7 := Lib.hid (HB_6.out.below hBq)
      have HXX_7 := Lib.hid (HXX_6.out.below hBq)
      have HC_7 := Lib.hid ((keep_of_below hBq).cell HC_6.out (fun h => h))
      have hK_7 := below_more hK_6 hBq
      clear hBq
      go_wp2_with (fail)
      refine (implMatRank q Ab nb cb bb 0 MB _ HB_7.out).mono ?_
      rw [HU3.out]
      rintro e w_8 ⟨rfl, hBq⟩
      have HA_8 := Lib.hid (HA_7.out.below hBq)
      have HB_8 := Lib.hid (HB_7.out.below hBq)
      have HXX_8 := Lib.hid (HXX_7.out.below hBq)
      have HC_8 := Lib.hid ((keep_of_below hBq).cell HC_7.out (fun h => h))
      have hK_8 := below_more hK_7 hBq
      clear hBq
      have hc1 := HC_8.out
      go_wp2_with (fail)
      go_ret
      exact ⟨rfl, hK_8⟩
    · obtain rfl : X = [] := List.eq_nil_of_length_eq_zero (by omega)
      clear hx0
      go_wp2_with (fail)
      go_ret
      exact ⟨rfl, hK_4⟩
end Go.Proofs.Ytpelokdgjdljfab

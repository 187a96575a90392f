/-
  The walk of the law of SeriesBack.
-/
import Derived.Test.YtmmadmfpbancmabSBack
import Derived.Test.YtmmadmfpbancmabDrawQ
import Derived.Test.YtmmadmfpbancmabSame
import Derived.Test.YtmmadmfpbancmabISer
namespace Go.Proofs.Ytmmadmfpbancmab
open Go.RowKit
theorem back_unit {p : Int} {s : List Int} (hs : serB p s = true) (h1 : 1 ≤ s.length) (h0 : co s 0 ≠ 0) : serT p s (backL p s) = (List.range s.length).map (fun k => unitF k) ∧ serBk p (backL p s) = s := by
  obtain ⟨b1, b2, b3, b4⟩ := back_law hs h1 h0
  have hp := prime_ge (serB_true hs).1
  refine ⟨?_, ?_⟩
  · unfold serT
    rw [if_pos ⟨hs, b1⟩]
    unfold serL convR
    rw [b2, Nat.min_self]
    apply List.map_congr_left
    intro k hk
    have hk := List.mem_range.1 hk
    have h := mod_of_near (b4 k hk)
    rw [conv_eq, h]
    unfold unitF
    split
    · exact Int.emod_eq_of_lt (by omega) (by omega)
    · rfl
  · unfold serBk
    rw [if_pos ⟨b1, by rw [b2]; omega, b3⟩, back_back hs h1 h0]
set_option maxRecDepth 100000 in
set_option maxHeartbeats 600000 in
theorem walkFnSeriesBack (a : Option Addr) (len cap : Nat) (zs : List Int) (w : World) (h : IsRow .u8 w a len cap zs) :
    Calls Try.prog 9 #[.slice a len cap] w fun e w' => e = .returned (.bool true) ∧ Below w.heap.size w w' := by
  have hm : len ≤ 9223372036854775807 := by have := rowBytes h; unfold maxLen at this; omega
  by_cases hb : 1048576 < len
  · go_enter Try.func9, Try.ntmps9
    go_wp2_with (fail)
    go_ret
    exact ⟨rfl, Below.refl _ _⟩
  have hd0 : decide (1048576 < (len : Int)) = false := by simp; omega
  go_enter Try.func9, Try.ntmps9
  go_wp2_with (fail)
  refine (drawSeriesBack a len cap zs w h).mono ?_
  rintro e w1 ⟨p, Aa, ca, s, rfl, hp0, hp1, hsl, hO, hB⟩
  obtain ⟨ba, hRa⟩ := hO.ia
  obtain ⟨n, hn⟩ : ∃ n, s.length = n := ⟨_, rfl⟩
  rw [hn] at hRa hsl ⊢
  have HS := Lib.hid hRa
  have HN := Lib.hid hn
  obtain ⟨X, hX⟩ : ∃ X, serBk p s = X := ⟨_, rfl⟩
  have HX := Lib.hid hX
  have hXl : X.length = 0 ∨ (X.length = n ∧ serB p s = true ∧ 1 ≤ n ∧ co s 0 ≠ 0 ∧ X = backL p s) := by
    rw [← hX]; unfold serBk
    split
    · rename_i hc; right; rw [backL_len]; exact ⟨hn, hc.1, by have := hc.2.1; omega, hc.2.2, rfl⟩
    · left; rfl
  have HXL := Lib.hid hXl
  have hXb : X.length ≤ 33 := by rcases hXl with h1 | h1 <;> omega
  clear hRa hO hX hXl h hn hp0 hp1
  go_wp2_with (fail)
  refine (implSeriesBack p Aa n ca ba 0 s _ HS.out).mono ?_
  rw [HX.out]
  rintro e w_1 ⟨AX, cX, rfl, hO, hBq⟩
  obtain ⟨bX, hRq⟩ := hO.ia
  have HX_1 := Lib.hid hRq
  have HS_1 := Lib.hid (HS.out.below hBq)
  have hK_1 := below_more hB hBq
  clear hO hRq hBq
  go_wp2_with (fail)
  refine (specSeriesBack p Aa n ca ba 0 s _ HS_1.out).mono ?_
  rw [HX.out]
  rintro e w_2 ⟨AY, cY, rfl, hO, hBq⟩
  obtain ⟨bY, hRq⟩ := hO.ia
  have HY_2 := Lib.hid hRq
  have HS_2 := Lib.hid (HS_1.out.below hBq)
  have HX_2 := Lib.hid (HX_1.out.below hBq)
  have hK_2 := below_more hK_1 hBq
  clear hO hRq hBq
  go_wp2_with (fail)
  refine (sameIntsC AX X.length cX bX 0 X AY X.length cY bY 0 X _ HX_2.out HY_2.out).mono ?_
  rintro e w_3 ⟨rfl, hm_3⟩
  rw [decide_eq_true (rfl : X = X)]
  have HS_3 := Lib.hid (HS_2.out.drewN hm_3)
  have HX_3 := Lib.hid (HX_2.out.drewN hm_3)
  have HY_3 := Lib.hid (HY_2.out.drewN hm_3)
  have hK_3 := below_drawn hK_2 hm_3
  clear hm_3
  by_cases hz : X.length = 0
  · have hz0 : ((X.length : Int) == 0) = true := by simp [hz]
    go_wp2_with (fail)
    refine (alive _).mono ?_
    rintro e w_4 ⟨rfl, rfl⟩
    go_wp2_with (fail)
    go_ret
    exact ⟨rfl, hK_3⟩
  have hz0 : ((X.length : Int) == 0) = false := by simpa using hz
  obtain ⟨hXn, hsv, hn1, hc0, hXe⟩ := HXL.out.resolve_left hz
  obtain ⟨hu1, hu2⟩ := back_unit hsv (by rw [HN.out]; exact hn1) hc0
  rw [← hXe] at hu1 hu2
  obtain ⟨P, hP⟩ : ∃ P, serT p s X = P := ⟨_, rfl⟩
  have HP := Lib.hid hP
  rw [hP] at hu1
  have hPl : P.length = n := by rw [hu1, List.length_map, List.length_range, HN.out]
  have HPG := Lib.hid (show ∀ k, k < n → P[k]? = some (unitF k) from fun k hk => by rw [hu1, List.getElem?_map, List.getElem?_range (by rw [HN.out]; exact hk)]; rfl)
  have HU2 := Lib.hid hu2
  have HXN := Lib.hid hXn
  have HPLE := Lib.hid hPl
  have hXnz : 0 < X.length := by omega
  clear hXe hsv hc0 hu1 hu2 hP hz hXn hPl
  go_wp2_with (fail)
  refine (implSeriesTimes p Aa n ca ba 0 s AX X.length cX bX 0 X _ HS_3.out HX_3.out).mono ?_
  rw [HP.out]
  rintro e w_4 ⟨AP, cP, rfl, hO, hBq⟩
  obtain ⟨bP, hRq⟩ := hO.ia
  have HP_4 := Lib.hid hRq
  have HS_4 := Lib.hid (HS_3.out.below hBq)
  have HX_4 := Lib.hid (HX_3.out.below hBq)
  have HY_4 := Lib.hid (HY_3.out.below hBq)
  have hK_4 := below_more hK_3 hBq
  clear hO hRq hBq
  rw [HPLE.out] at HP_4 ⊢
  obtain ⟨wk, rfl⟩ : ∃ wk : World, wk = w_4 := ⟨_, rfl⟩
  go_wp2_with (fail)
  go_loopw [7] (fun v wr => ∃ k : Nat, k ≤ n ∧ v = .int .i64 (k : Int) ∧ Hid (∃ m, wr = wk.drewN m)) (fun v _ => n - (intOf v).toNat)
  case atStart => exact ⟨0, by omega, rfl, 0, rfl⟩
  case round =>
    obtain ⟨k, hk, rfl, hw⟩ := hrel
    by_cases hkn : k < n
    · obtain ⟨x, hx, hxw⟩ := HP_4.out.cell k hkn
      obtain rfl := HP_4.out.adr (by omega)
      have hxc := (keep_of_below (below_drawn (Below.refl wk.heap.size wk) hw.out)).cell hxw (fun h => h)
      rw [Nat.zero_add] at hxc
      have hxu : x = unitF k := by have := HPG.out k hkn; rw [hx] at this; exact Option.some.inj this
      clear hx hxw
      by_cases hk0 : k = 0
      · subst hk0
        have hx1 : x = 1 := hxu
        subst hx1
        clear hxu
        go_wp2_with (fail)
        go_roundw
        case rel => exact ⟨1, by omega, by go_num, hw⟩
        case measure => simp [intOf]; omega
      · have hx1 : x = 0 := by rw [hxu]; unfold unitF; rw [if_neg hk0]
        subst hx1
        have hk1 : ((k : Int) == 0) = false := by simpa using hk0
        have hk2 : decide ((0 : Int) < (k : Int)) = true := decide_eq_true (by omega)
        clear hxu
        go_wp2_with (fail)
        go_roundw
        case rel => exact ⟨k + 1, by omega, by go_num, hw⟩
        case measure => simp [intOf]; omega
    · obtain rfl : k = n := by omega
      have HS_5 := Lib.hid (HS_4.out.drewN hw.out)
      have HX_5 := Lib.hid (HX_4.out.drewN hw.out)
      have HY_5 := Lib.hid (HY_4.out.drewN hw.out)
      have HP_5 := Lib.hid (HP_4.out.drewN hw.out)
      have hK_5 := below_drawn hK_4 hw.out
      go_wp2_with (fail)
      refine (implSeriesBack p AX X.length cX bX 0 X _ HX_5.out).mono ?_
      rw [HU2.out]
      rintro e w_5 ⟨AZ, cZ, rfl, hO, hBq⟩
      obtain ⟨bZ, hRq⟩ := hO.ia
      have HZ_5 := Lib.hid hRq
      have HS_5 := Lib.hid (HS_5.out.below hBq)
      have HX_5 := Lib.hid (HX_5.out.below hBq)
      have HY_5 := Lib.hid (HY_5.out.below hBq)
      have HP_5 := Lib.hid (HP_5.out.below hBq)
      have hK_5 := below_more hK_5 hBq
      clear hO hRq hBq
      rw [HN.out] at HZ_5 ⊢
      go_wp2_with (fail)
      refine (sameIntsC AZ k cZ bZ 0 s Aa k ca ba 0 s _ HZ_5.out HS_5.out).mono ?_
      rintro e w_6 ⟨rfl, hm_6⟩
      rw [decide_eq_true (rfl : s = s)]
      have HS_6 := Lib.hid (HS_5.out.drewN hm_6)
      have HX_6 := Lib.hid (HX_5.out.drewN hm_6)
      have HY_6 := Lib.hid (HY_5.out.drewN hm_6)
      have HP_6 := Lib.hid (HP_5.out.drewN hm_6)
      have HZ_6 := Lib.hid (HZ_5.out.drewN hm_6)
      have hK_6 := below_drawn hK_5 hm_6
      clear hm_6
      go_wp2_with (fail)
      go_ret
      exact ⟨rfl, hK_6⟩
end Go.Proofs.Ytmmadmfpbancmab

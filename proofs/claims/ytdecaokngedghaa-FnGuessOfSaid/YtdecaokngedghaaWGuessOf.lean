/-
  The walk of the law of GuessOf.
-/
import Derived.Test.YtdecaokngedghaaGf
import Derived.Test.YtdecaokngedghaaGe
import Derived.Deep.RegionHeld3
namespace Go.Proofs.Ytdecaokngedghaa
open Go.RowKit
theorem guess_num (p : Int) (s : List Int) (x : Int) : ((guessR p s x).1 = -1 ∧ (guessR p s x).2 = false) ∨ numB p (guessR p s x).1 = true := by
  unfold guessR
  rcases h : shortR p s with _ | ⟨q, t, f⟩
  · exact .inl ⟨rfl, rfl⟩
  · obtain ⟨h1, rfl, _⟩ := shortR_rec h
    simp only
    split
    · exact .inr (stm_num h1 _)
    · exact .inl ⟨rfl, rfl⟩
theorem guess_sure {p : Int} {T F : List Int} (h : recB p T F = true) : guessR p (trm p T F (2 * F.length)) (F.length : Int) = (stm p T F (2 * F.length), true) := by
  obtain ⟨_, h6, hl, _, _⟩ := recB_true h
  obtain ⟨k, u, k1, hR, k2, k3⟩ := short_sure h (m := 2 * F.length) (by omega) (by omega)
  unfold guessR
  rw [hR]
  simp only
  rw [if_pos ⟨by omega, by omega, by rw [List.length_take, trm_len]; omega⟩, trm_len, k3, decide_eq_true (by omega)]
set_option maxRecDepth 100000 in
set_option maxHeartbeats 2000000 in
theorem walkFnGuessOf (a : Option Addr) (len cap : Nat) (zs : List Int) (a' : Option Addr) (len' cap' : Nat) (zs' : List Int) (w : World) (h : IsRow .u8 w a len cap zs) (h' : IsRow .u8 w a' len' cap' zs') :
    Calls Try.prog 5 #[.slice a len cap, .slice a' len' cap'] w fun e w' => e = .returned (.bool true) ∧ Below w.heap.size w w' := by
  have hm : len ≤ 9223372036854775807 := by have := rowBytes h; unfold maxLen at this; omega
  have hm' : len' ≤ 9223372036854775807 := by have := rowBytes h'; unfold maxLen at this; omega
  by_cases hb : 1048576 < len
  · go_enter Try.func5, Try.ntmps5
    go_wp2_with (fail)
    go_ret
    exact ⟨rfl, Below.refl _ _⟩
  by_cases hb' : 1048576 < len'
  · go_enter Try.func5, Try.ntmps5
    go_wp2_with (fail)
    go_ret
    exact ⟨rfl, Below.refl _ _⟩
  go_enter Try.func5, Try.ntmps5
  go_wp2_with (fail)
  refine (drawGuessOf a len cap zs w h).mono ?_
  rintro e w1 ⟨p, A, c, s, x, rfl, hp0, hp1, hl, hx0, hx1, hO, hB⟩
  have hcap := OI.capLe hO
  obtain ⟨b, hI⟩ := hO.ia
  obtain ⟨n, hn⟩ : ∃ n, s.length = n := ⟨_, rfl⟩
  rw [hn] at hI hcap hl ⊢
  have HI := Lib.hid hI
  have HB := Lib.hid hB
  have HM := Lib.hid (isRow_below h' hB)
  clear hO hI hB h h' hn
  obtain ⟨G, hG⟩ : ∃ G, (guessR p s x).1 = G := ⟨_, rfl⟩
  obtain ⟨Z, hZ⟩ : ∃ Z, (guessR p s x).2 = Z := ⟨_, rfl⟩
  have hgn := guess_num p s x
  rw [hG, hZ] at hgn
  have HGN := Lib.hid hgn
  have HG := Lib.hid (And.intro hG hZ)
  clear hG hZ hgn
  go_wp2_with (fail)
  refine (implGuessOf p A n c b 0 s x _ HI.out hcap).mono ?_
  rw [HG.out.1, HG.out.2]
  rintro e w2 ⟨rfl, hB2⟩
  have hK2 := below_more HB.out hB2
  have HI2 := Lib.hid (HI.out.below hB2)
  have HM2 := Lib.hid (isRow_below HM.out hB2)
  clear hB2
  go_wp2_with (fail)
  refine (specGuessOf p A n c b 0 s x _ HI2.out hcap).mono ?_
  rw [HG.out.1, HG.out.2]
  rintro e w3 ⟨rfl, hB3⟩
  have hK3 := below_more hK2 hB3
  have HM3 := Lib.hid (isRow_below HM2.out hB3)
  clear hB3 hK2
  have hq1 : (G != G) = false := by simp
  have hq2 : (Z != Z) = false := by cases Z <;> rfl
  rcases HGN.out with ⟨hg, hz⟩ | hg
  · subst hg; subst hz
    go_wp2_with (fail)
    refine (alive _).mono ?_
    rintro e w6 ⟨rfl, rfl⟩
    go_wp2_with (fail)
    go_ret
    exact ⟨rfl, hK3⟩
  have hgb := numB_true hg
  have hg0 : ¬ G < 0 := by have := hgb.2.1; omega
  have HV := Lib.hid hg
  clear hg hgb
  have HK3 := Lib.hid hK3
  clear hK3
  go_wp2_with (fail)
  refine (drawStreamRank a' len' cap' zs' _ HM3.out).mono ?_
  rintro e w4 ⟨v, q, T, F, rfl, hRO, hT8, hF8, hq0, hq17, hB4⟩
  have HK4 := Lib.hid (below_more HK3.out hB4)
  obtain ⟨A1, c1, A2, c2, rfl, hO1, hO2, hap⟩ := hRO
  have hbn := below_new w4 (.cells #[.int .i64 q, .slice A1 T.length c1, .slice A2 F.length c2] 27)
  have HRV := Lib.hid ((RO.rv ⟨A1, c1, A2, c2, rfl, hO1, hO2, hap⟩ : RV w4 (.agg #[.int .i64 q, .slice A1 T.length c1, .slice A2 F.length c2]) q T F).below hbn)
  have HBX := Lib.hid (Bx.new w4 (.int .i64 q) (.slice A1 T.length c1) (.slice A2 F.length c2) 27)
  have HK5 := Lib.hid (below_more HK4.out hbn)
  clear hO1 hO2 hap hB4 hbn
  rcases hv : recB q T F
  · have HVV := Lib.hid hv
    clear hv
    go_wp2_with (go_at_call 23; refine (specRecValid _ q T F _ HRV.out).mono ?_; rintro e w5 ⟨rfl, hB⟩; rw [HVV.out]; have HK6 := Lib.hid (below_more HK5.out hB); clear hB)
    refine (implNumValid p G _).mono ?_
    rintro e w6 ⟨rfl, rfl⟩
    rw [HV.out]
    go_wp2_with (fail)
    go_ret
    exact ⟨rfl, HK6.out⟩
  obtain ⟨_, h6, hfl, _, _⟩ := recB_true hv
  have HVV := Lib.hid hv
  obtain ⟨L, hL⟩ : ∃ L, F.length = L := ⟨_, rfl⟩
  have hL6 : L ≤ 6 := by omega
  have HT24 := Lib.hid (show termsO q T F 24 = trm q T F 24 by unfold termsO; rw [if_pos ⟨hv, by decide, by decide⟩]; rfl)
  have HGS := Lib.hid (show guessR q (trm q T F (2 * L)) (L : Int) = (stm q T F (2 * L), true) by rw [← hL]; exact guess_sure hv)
  rw [hL] at HBX HRV HK5 ⊢
  have hw1 : IntKind.i64.wrap (2 * (L : Int)) = ((2 * L : Nat) : Int) := by rw [IntWalk.i64_in _ ⟨by omega, by omega⟩]; omega
  have hw2 : (2 * (L : Int)) = ((2 * L : Nat) : Int) := by omega
  clear hv h6 hfl hL
  go_wp2_with (go_at_call 23; refine (specRecValid _ q T F _ HRV.out).mono ?_; rintro e w5 ⟨rfl, hB⟩; rw [HVV.out]; have HBX5 := Lib.hid (HBX.out.below hB); have HRV5 := Lib.hid (HRV.out.below hB); have HK6 := Lib.hid (below_more HK5.out hB); have y0 := HBX5.out.1; have y1 := HBX5.out.2.1; have y2 := HBX5.out.2.2; clear hB)
  refine (implRecTerms _ q T F 24 _ HRV5.out).mono ?_
  rw [HT24.out, trm_len]
  rintro e w6 ⟨A5, c5, rfl, hO, hB⟩
  have hc5 := OI.capLe hO
  obtain ⟨b5, hI5⟩ := hO.ia
  obtain rfl := hI5.adr (by omega)
  have HI5 := Lib.hid hI5
  have HIT := Lib.hid (show IA w6 (some ⟨b5, 0, none⟩) (2 * L) b5 0 (trm q T F (2 * L)) by
    have := hI5.take (k := 2 * L) (by omega)
    rwa [trm_take q T F (show 2 * L ≤ 24 by omega)] at this)
  have HBX6 := Lib.hid (HBX5.out.below hB)
  have HK7 := Lib.hid (below_more HK6.out hB)
  have hlt : ((2 * L : Nat) : Int) < 24 := by omega
  have hlt2 : ¬ (24 : Int) ≤ ((2 * L : Nat) : Int) := by omega
  have hlc : 2 * L ≤ c5 := by omega
  obtain ⟨MM, hMM⟩ : ∃ MM, 2 * L = MM := ⟨_, rfl⟩
  rw [hMM] at hw1 hw2 hlt hlt2 hlc HIT HGS
  have hM12 : MM ≤ 12 := by omega
  clear hO hI5 hB y0 y1 y2 hMM
  obtain ⟨y0, y1, y2⟩ := HBX6.out
  go_wp2_with (fail)
  have hMlt : MM < 24 := by omega
  have HITd := Lib.hid (HIT.out.below (below_new_drew _))
  have HI5d := Lib.hid (HI5.out.below (below_new_drew _))
  have HK7d := Lib.hid HK7.out.drew
  have ZS := HBX6.out
  have Zd := HBX6.out.drew
  unfold Bx at ZS Zd
  go_region_held3 (fun w' => w'.cell? ⟨w4.heap.size, 0, none⟩ = some (.int .i64 q) ∧ w'.cell? ⟨w4.heap.size, 1, none⟩ = some (.slice A1 T.length c1) ∧ w'.cell? ⟨w4.heap.size, 2, none⟩ = some (.slice A2 L c2)) (first | assumption | exact ZA | exact Zd | exact ZS | go_keep)
    ((go_at_call 20; refine (implGuessOf q (some ⟨b5, 0, none⟩) MM c5 b5 0 (trm q T F MM) (L : Int) _ HITd.out hlc).mono ?_; rw [HGS.out]; rintro e w7 ⟨rfl, hB7⟩; have ZA := HBX6.out.drew.below hB7; unfold Bx at ZA; have HI7 := Lib.hid (HI5d.out.below hB7); have HK8 := Lib.hid (below_more HK7d.out hB7); clear hB7))
  all_goals
    obtain ⟨y, hy, hyc⟩ := HI7.out.cell MM (by omega)
    rw [Nat.zero_add] at hyc
    obtain rfl : stm q T F MM = y := by
      rw [trm_map, List.getElem?_map, List.getElem?_range (by omega)] at hy
      exact Option.some.inj hy
    clear hy
    go_wp2_with (fail)
    refine (implNumValid p G _).mono ?_
    rintro e w8 ⟨rfl, rfl⟩
    rw [HV.out]
    go_wp2_with (fail)
    go_ret
    exact ⟨by simp, HK8.out⟩
end Go.Proofs.Ytdecaokngedghaa

/-
  The contract of RecOf of the program.
  The contract of RecOf of the model.
  The contracts of RecLeast of the program and of the model.
-/
import Derived.Deep.RegionHeld3
import Derived.Test.YtbpndmcejbiedaaDoorFrZp
import Derived.Test.YtbpndmcejbiedaaDoorFrL
import Derived.Test.YtbpndmcejbiedaaDoorRes
import Derived.Test.YtbpndmcejbiedaaDoorSLe
import Derived.Test.YtbpndmcejbiedaaDoorFrZq
namespace Go.Proofs.YtbpndmcejbiedaaDoor
open Go.RowKit
def recOfT (p : Int) (Y : List Int) (d : Nat) : List Int := (List.range d).map fun k => -(co Y (k + 1)) % p
theorem recOfT_len (p : Int) (Y : List Int) (d : Nat) : (recOfT p Y d).length = d := by simp [recOfT]
theorem recOfT_get (p : Int) (Y : List Int) {d k : Nat} (h : k < d) : (recOfT p Y d)[k]? = some (-(co Y (k + 1)) % p) := by unfold recOfT; rw [List.getElem?_map, List.getElem?_range h]; rfl
theorem recOfT_stop {p : Int} {Y : List Int} {d m : Nat} (hm : Y.length = m + 1) (hd : m ≤ d) : (recOfT p Y d).take m ++ List.replicate (d - m) 0 = recOfT p Y d := by
  apply List.ext_getElem?
  intro i
  by_cases hi : i < m
  · rw [List.getElem?_append_left (by rw [List.length_take, recOfT_len]; omega), List.getElem?_take_of_lt hi]
  · rw [List.getElem?_append_right (by rw [List.length_take, recOfT_len]; omega), List.length_take, recOfT_len, Nat.min_eq_left hd]
    by_cases h2 : i < d
    · rw [recOfT_get p Y h2, co_far (by omega), List.getElem?_replicate]
      rw [if_pos (by omega)]
      simp
    · rw [List.getElem?_eq_none (by rw [List.length_replicate]; omega), List.getElem?_eq_none (by rw [recOfT_len]; omega)]
def recOfD (X Y : List Int) : Nat := max X.length (Y.length - 1)
def recOfR (p : Int) (U L : List Int) : Option (Int × List Int × List Int) :=
  if fracB p U L = true ∧ recOfD (leastL p U L).1 (leastL p U L).2 ≤ 6 then some (p, recOfT p (leastL p U L).2 (recOfD (leastL p U L).1 (leastL p U L).2), frT p (leastL p U L).1 (leastL p U L).2 (recOfD (leastL p U L).1 (leastL p U L).2)) else none
theorem recOfR_len (p : Int) (U L : List Int) : ((recOfR p U L).getD (0, [], [])).2.1.length ≤ 1048576 ∧ ((recOfR p U L).getD (0, [], [])).2.2.length ≤ 1048576 := by
  unfold recOfR
  split
  · rename_i h
    have := h.2
    simp only [Option.getD_some, recOfT_len, frT_len]
    omega
  · simp
theorem fracB_mk {p : Int} {X Y : List Int} (h1 : polB p X = true) (h2 : polB p Y = true) (h3 : X.length ≤ 12) (h4 : Y.length ≤ 12) (h5 : Y.length ≠ 0) (h6 : co Y 0 ≠ 0) : fracB p X Y = true := by
  unfold fracB
  simp only [Bool.and_eq_true, decide_eq_true_eq]
  exact ⟨⟨⟨⟨⟨h1, h2⟩, h3⟩, h4⟩, h5⟩, h6⟩
theorem leastL_frac {p : Int} {U L : List Int} (h : fracB p U L = true) : fracB p (leastL p U L).1 (leastL p U L).2 = true := by
  obtain ⟨hu, hl, h1, h2, h3, h4⟩ := fracB_true h
  obtain ⟨l1, l2, l3, l4, l5, l6⟩ := least_law hu hl h3 h4
  exact fracB_mk l1 l2 (by omega) (by omega) (by omega) (by rw [l3]; decide)
set_option maxRecDepth 100000 in
set_option maxHeartbeats 16000000 in
theorem implRecOf (v : Value) (p : Int) (U L : List Int) (w : World) (h : RV w v p U L) (ge : Addr) (hge : GE w ge) :
    Calls Tryd.prog 18 #[v] w (MadeRB (recOfR p U L) w) := by
  obtain ⟨A, n, c, b, o, A', n', c', b', o', rfl, g1, g2⟩ := h
  have hbx := (Bx.new w (.int .i64 p) (.slice A n c) (.slice A' n' c') 27).below (below_new _ (.cells #[.int .i64 0, .slice none 0 0, .slice none 0 0] 29))
  have hbw := BxW.new (w.alloc (.cells #[.int .i64 p, .slice A n c, .slice A' n' c'] 27)) (.int .i64 0) (.slice none 0 0) (.slice none 0 0) 29
  rw [World.size_alloc] at hbw
  have hB0 := ((Below.refl w.heap.size w).alloc (Nat.le_refl _) (.cells #[.int .i64 p, .slice A n c, .slice A' n' c'] 27)).alloc (by simp) (.cells #[.int .i64 0, .slice none 0 0, .slice none 0 0] 29)
  have HV := Lib.hid (show RV _ (.agg #[.int .i64 p, .slice A n c, .slice A' n' c']) p U L from ⟨_, _, _, _, _, _, _, _, _, _, rfl, g1.below hB0, g2.below hB0⟩)
  have HBX := Lib.hid hbx
  have HBW := Lib.hid hbw
  have HG0 := Lib.hid (hge.below hB0)
  have HB0 := Lib.hid hB0
  clear hge g1 g2 hbx hbw hB0
  rcases hv : fracB p U L
  · have HV1 := Lib.hid hv
    have HE := Lib.hid (show recOfR p U L = none by unfold recOfR; rw [if_neg (by simp [hv])])
    clear hv
    go_enter Tryd.func18, Tryd.ntmps18
    go_wp2_with (go_at_call 40; refine (implFracValid _ p U L _ HV.out ge HG0.out).mono ?_; rintro e w1 ⟨rfl, hB⟩; rw [HV1.out]; have HB1 := Lib.hid (below_more HB0.out hB); have hbw := HBW.out.below hB; have x0 := hbw.c.1; have x1 := hbw.c.2.1; have x2 := hbw.c.2.2; have fz := hbw.fz; clear hB hbw)
    refine bodyPost_ret (v := .tuple #[.agg #[.int .i64 0, .slice none 0 0, .slice none 0 0], .bool false]) (by simp [results, Tryd.f18, go_sem, x0, x1, x2]) rfl ?_
    rw [HE.out]
    exact madeb_no HB1.out (by omega)
  have HV1 := Lib.hid hv
  have hlf := leastL_frac hv
  have HLR := Lib.hid (show fracLeastR p U L = (p, (leastL p U L).1, (leastL p U L).2) by unfold fracLeastR; rw [if_pos hv])
  have HE := Lib.hid (show recOfR p U L = if recOfD (leastL p U L).1 (leastL p U L).2 ≤ 6 then some (p, recOfT p (leastL p U L).2 (recOfD (leastL p U L).1 (leastL p U L).2), frT p (leastL p U L).1 (leastL p U L).2 (recOfD (leastL p U L).1 (leastL p U L).2)) else none by
    unfold recOfR
    by_cases h : recOfD (leastL p U L).1 (leastL p U L).2 ≤ 6
    · rw [if_pos ⟨hv, h⟩, if_pos h]
    · rw [if_neg (fun e => h e.2), if_neg h])
  obtain ⟨X, hX⟩ : ∃ X, (leastL p U L).1 = X := ⟨_, rfl⟩
  obtain ⟨Y, hY⟩ : ∃ Y, (leastL p U L).2 = Y := ⟨_, rfl⟩
  rw [hX, hY] at HLR HE hlf
  obtain ⟨hxp, hyp, hx12, hy12, hy0, hyz⟩ := fracB_true hlf
  have HLF := Lib.hid hlf
  have HYV := Lib.hid (serB_true (polB_ser hyp)).2.2
  have hpr := (serB_true (polB_ser hxp)).1
  have hpb := prime_ge hpr
  obtain ⟨m, hm⟩ : ∃ m, Y.length = m + 1 := ⟨Y.length - 1, by omega⟩
  obtain ⟨k, hk⟩ : ∃ k, X.length = k := ⟨_, rfl⟩
  have HYL := Lib.hid hm
  have HXL := Lib.hid hk
  rw [hm] at hy12
  rw [hk] at hx12
  have HDD := Lib.hid (show recOfD X Y = max k m by unfold recOfD; rw [hk, hm]; rfl)
  clear hv hX hY hlf hxp hyp hy0 hyz hpr hm hk
  go_enter Tryd.func18, Tryd.ntmps18
  go_wp2_with (go_at_call 40; refine (implFracValid _ p U L _ HV.out ge HG0.out).mono ?_; rintro e w1 ⟨rfl, hB⟩; rw [HV1.out]; have HB1 := Lib.hid (below_more HB0.out hB); have HBW1 := Lib.hid (HBW.out.below hB); have HBX1 := Lib.hid (HBX.out.below hB); have HVa := Lib.hid (HV.out.below hB); have HG1 := Lib.hid (HG0.out.below hB); have y0 := HBX1.out.1; have y1 := HBX1.out.2.1; have y2 := HBX1.out.2.2; clear hB)
  refine (implFracLeast _ p U L _ HVa.out ge HG1.out).mono ?_
  rw [HLR.out]
  rintro e w2 ⟨v9, rfl, hO, hB⟩
  obtain ⟨A3, c3, A4, c4, rfl, hO1, hO2, hap⟩ := hO
  rw [HXL.out] at hO1 ⊢
  rw [HYL.out] at hO2 ⊢
  have HXL2 := HXL
  have hc4 := OI.capLe hO2
  obtain ⟨b4, hI4⟩ := hO2.ia
  obtain rfl := hI4.adr (by omega)
  have HI4 := Lib.hid hI4
  have HRL := Lib.hid (show RV w2 (.agg #[.int .i64 p, .slice A3 k c3, .slice (some ⟨b4, 0, none⟩) (m + 1) c4]) p X Y from by
    obtain ⟨b3, hI3⟩ := hO1.ia
    exact ⟨_, _, _, _, _, _, _, _, _, _, rfl, hI3, hI4⟩)
  have hs1 := HB1.out.size
  have hlo1 := HBW1.out.c.lt
  have hs2 := hB.size
  have HB2 := Lib.hid (below_more HB1.out hB)
  have HBX2 := Lib.hid (HBX1.out.below hB)
  have HBW2 := Lib.hid (HBW1.out.below hB)
  have HG2 := Lib.hid (HG1.out.below hB)
  clear hO1 hO2 hap hI4 hB y0 y1 y2
  have hbn := below_new w2 (.cells #[.int .i64 p, .slice A3 k c3, .slice (some ⟨b4, 0, none⟩) (m + 1) c4] 27)
  have HBL := Lib.hid (Bx.new w2 (.int .i64 p) (.slice A3 k c3) (.slice (some ⟨b4, 0, none⟩) (m + 1) c4) 27)
  have HBW3 := Lib.hid (HBW2.out.below hbn)
  obtain ⟨x0, x1, x2⟩ := HBW3.out.c
  have fz := HBW3.out.fz
  have hmw : IntKind.i64.wrap (((m + 1 : Nat) : Int) - 1) = (m : Int) := by rw [IntWalk.i64_in _ ⟨by omega, by omega⟩]; omega
  have hmw2 : IntKind.i64.wrap ((m : Int) + 1 - 1) = (m : Int) := by rw [IntWalk.i64_in _ ⟨by omega, by omega⟩]; omega
  have HN := Lib.hid hbn
  clear hbn
  by_cases hkm : (k : Int) < (m : Int)
  · skip
    have HD := Lib.hid (show recOfD X Y = m by rw [HDD.out]; omega)
    by_cases h6 : 6 < m
    · have HR := Lib.hid (show recOfR p U L = none by rw [HE.out, HD.out, if_neg (by omega)])
      have h6i : (6 : Int) < (m : Int) := by omega
      go_wp2_with (fail)
      refine bodyPost_ret (v := .tuple #[.agg #[.int .i64 0, .slice none 0 0, .slice none 0 0], .bool false]) (by simp [results, Tryd.f18, go_sem, x0, x1, x2]) rfl ?_
      rw [HR.out]
      exact madeb_no (below_more HB2.out HN.out) (by omega)
    have hd6 : m ≤ 6 := by omega
    have hmd : m ≤ m := by omega
    obtain ⟨TL, hTL⟩ : ∃ TL, recOfT p Y m = TL := ⟨_, rfl⟩
    obtain ⟨FT, hFT⟩ : ∃ FT, frT p X Y m = FT := ⟨_, rfl⟩
    have HR := Lib.hid (show recOfR p U L = some (p, TL, FT) by rw [HE.out, HD.out, if_pos hd6, hTL, hFT])
    have HTL := Lib.hid (show TL.length = m by rw [← hTL, recOfT_len])
    have HFL := Lib.hid (show FT.length = m by rw [← hFT, frT_len])
    have HFT := Lib.hid (show fracT p X Y (m : Int) = FT by unfold fracT; rw [if_pos ⟨HLF.out, by omega, by omega⟩, ← hFT]; rfl)
    have HTG := Lib.hid (show ∀ j, j < m → TL[j]? = some (-(co Y (j + 1)) % p) from fun j hj => by rw [← hTL]; exact recOfT_get p Y (by omega))
    have HTS := Lib.hid (show TL.take m ++ List.replicate (m - m) 0 = TL by rw [← hTL]; exact recOfT_stop HYL.out hmd)
    have hmk := run_make_row' (P := Tryd.prog) 22 3 (.int .i64 0) 8 Tryd.underlying22 infoInt rfl .i64 .i64 m (by omega) (by omega)
    have h6n : ¬ (6 : Int) < (m : Int) := by omega
    clear hTL hFT
    have hc1 : ¬ c4 = 1 := by omega
    go_wp2_with (fail)
    go_loopw [32] (fun i wr => ∃ j : Nat, j ≤ m ∧ i = .int .i64 (j : Int) ∧ OI wr (w2.heap.size + 1) (some ⟨w2.heap.size + 1, 0, none⟩) m m (TL.take j ++ List.replicate (m - j) 0) ∧ Below (w2.heap.size + 1) (w2.alloc (.cells #[.int .i64 p, .slice A3 k c3, .slice (some ⟨b4, 0, none⟩) (m + 1) c4] 27)) wr) (fun i _ => m - (intOf i).toNat)
    case atStart =>
      have h := made_ints (w2.alloc (.cells #[.int .i64 p, .slice A3 k c3, .slice (some ⟨b4, 0, none⟩) (m + 1) c4] 27)) m (by omega)
      have hb := below_new (w2.alloc (.cells #[.int .i64 p, .slice A3 k c3, .slice (some ⟨b4, 0, none⟩) (m + 1) c4] 27)) (.cells (madeCells #[.int .i64 0] m) 3)
      rw [World.size_alloc] at h hb
      exact ⟨0, by omega, rfl, by simpa using h, hb⟩
    case round =>
      obtain ⟨j, hj, rfl, hown, hbel⟩ := hrel
      have hz3 : (w2.alloc (.cells #[.int .i64 p, .slice A3 k c3, .slice (some ⟨b4, 0, none⟩) (m + 1) c4] 27)).heap.size = w2.heap.size + 1 := by simp
      have hbel' : Below (w2.alloc (.cells #[.int .i64 p, .slice A3 k c3, .slice (some ⟨b4, 0, none⟩) (m + 1) c4] 27)).heap.size (w2.alloc (.cells #[.int .i64 p, .slice A3 k c3, .slice (some ⟨b4, 0, none⟩) (m + 1) c4] 27)) wr := by rw [hz3]; exact hbel
      have HBXr := Lib.hid ((HBX2.out.below HN.out).below hbel')
      have HBLr := Lib.hid (HBL.out.below hbel')
      have HBWr := Lib.hid (HBW3.out.below hbel')
      have HBr := Lib.hid (below_more HN.out hbel')
      have hsr := hbel'.size
      rw [hz3] at hsr
      have HO := Lib.hid hown
      by_cases hlt : j < m
      · obtain ⟨y, hy, hcy⟩ := (HI4.out.below HBr.out).cell (j + 1) (by omega)
        rw [Nat.zero_add, Nat.add_comm j 1] at hcy
        have hyb := numB_bd (HYV.out y (List.mem_of_getElem? hy))
        obtain ⟨u, hu⟩ : ∃ u, -y % p = u := ⟨_, rfl⟩
        have hyc : TL[j]? = some u := by rw [HTG.out j hlt, show co Y (j + 1) = y from getD_at hy, hu]
        have hmx : (TL.take j ++ List.replicate (m - j) 0).set j u = TL.take (j + 1) ++ List.replicate (m - (j + 1)) 0 := by
          have := set_step TL (List.replicate m 0) j u (by rw [HTL.out, List.length_replicate]) hyc
          rwa [List.drop_replicate, List.drop_replicate] at this
        have hcell := World.ownsRow.cellAt hown j (by omega)
        have hfr := World.ownsRow.frozenAt hown j
        have hst := World.ownsRow.stored hown j (.int .i64 u)
        rw [ints_set, hmx] at hst
        obtain ⟨v0, hv0⟩ : ∃ v0, wr.cell? ⟨w2.heap.size + 1, j, none⟩ = some v0 := by
          rw [hcell]; exact ⟨_, List.getElem?_eq_getElem (by simp only [ints, List.length_map, List.length_append, List.length_take, List.length_replicate, HTL.out]; omega)⟩
        have HS := Lib.hid hst.1
        have HB9 := Lib.hid (hbel.setCell (p := ⟨w2.heap.size + 1, j, none⟩) (Nat.le_refl _) (.int .i64 u))
        obtain ⟨y0, y1, y2⟩ := HBXr.out
        have HYB := Lib.hid hyb
        have HU := Lib.hid hu
        clear hcell hst hmx hyc hy hown hbel hbel' hyb hu
        go_wp2_with (go_at_call 30; refine (negative_any2 p y _ HYB.out.2.2.1 HYB.out.2.2.2 HYB.out.1 HYB.out.2.1).mono ?_; rintro e w' ⟨rfl, rfl⟩; rw [show (p - y) % p = u by rw [← HU.out]; simp])
        go_roundw
        case rel => exact ⟨j + 1, by omega, by go_num, HS.out, HB9.out⟩
        case measure => simp [intOf]; omega
      obtain rfl : j = m := by omega
      rw [HTS.out] at HO
      have HRLd := Lib.hid ((HRL.out.below HBr.out).below (below_new_drew wr))
      have HGd := Lib.hid ((HG2.out.below HBr.out).drew)
      have HBd := Lib.hid (below_more HB2.out HBr.out).drew
      have HOd := Lib.hid (owns_below HO.out (below_new_drew wr))
      have ZS := And.intro HBXr.out.1 HBLr.out
      have Zd := And.intro HBXr.out.drew.1 HBLr.out.drew
      unfold Bx at ZS Zd
      have hfar : ∀ (W : World) (g o1 o2 : Nat) (v : Value), g ≠ w.heap.size + 1 → (W.setCell ⟨w.heap.size + 1, o1, none⟩ v).cell? ⟨g, o2, none⟩ = W.cell? ⟨g, o2, none⟩ := fun W g o1 o2 v hg => World.cell?_setCell_far _ _ _ _ (by show w.heap.size + 1 ≠ g; omega)
      clear hown hbel hbel'
      go_wp2_with (fail)
      go_region_held3 (fun w' => w'.cell? ⟨w.heap.size, 0, none⟩ = some (.int .i64 p) ∧ w'.cell? ⟨w2.heap.size, 0, none⟩ = some (.int .i64 p) ∧ w'.cell? ⟨w2.heap.size, 1, none⟩ = some (.slice A3 k c3) ∧ w'.cell? ⟨w2.heap.size, 2, none⟩ = some (.slice (some ⟨b4, 0, none⟩) (j + 1) c4)) (first | assumption | exact ZA | exact Zd | exact ZS | (refine ⟨?_, ?_, ?_, ?_⟩ <;> (simp (disch := omega) only [hfar]; first | exact ZA.1 | exact ZA.2.1 | exact ZA.2.2.1 | exact ZA.2.2.2)) | go_keep)
        ((go_at_call 42; refine (implFracTerms _ p X Y (j : Int) _ HRLd.out ge HGd.out).mono ?_; rw [HFT.out, HFL.out]; rintro e w4 ⟨A8, c8, rfl, hO, hB⟩; have HO8 := Lib.hid hO; have HB4 := Lib.hid (below_more HBd.out hB); have HO4 := Lib.hid (owns_below HOd.out hB); have ZA := And.intro (HBXr.out.drew.below hB).1 (HBLr.out.drew.below hB); unfold Bx at ZA; have HW4 := Lib.hid (HBWr.out.drew.below hB); obtain ⟨x0, x1, x2⟩ := HW4.out.c; have fz := HW4.out.fz; clear hO hB))
      all_goals
        go_wp2_with (fail)
        refine bodyPost_ret (v := .tuple #[.agg #[.int .i64 p, .slice (some ⟨w2.heap.size + 1, 0, none⟩) j j, .slice A8 j c8], .bool true]) (by simp [results, Tryd.f18, go_sem, x0, x1, x2]) rfl ?_
        rw [HR.out]
        refine madeb_put (R := some (p, TL, FT)) (B := w2.heap.size + 1) (g := w.heap.size + 1) ⟨some ⟨w2.heap.size + 1, 0, none⟩, j, A8, c8, by rw [show ((some (p, TL, FT)).getD (0, [], [])).2.1.length = _ from HTL.out, show ((some (p, TL, FT)).getD (0, [], [])).2.2.length = _ from HFL.out]; rfl, by rw [show ((some (p, TL, FT)).getD (0, [], [])).2.1.length = _ from HTL.out]; exact HO4.out, by rw [show ((some (p, TL, FT)).getD (0, [], [])).2.2.length = _ from HFL.out]; exact owns_mono HO8.out hsr, ?_⟩ HB4.out (by omega) (by omega) (by omega)
        rw [show ((some (p, TL, FT)).getD (0, [], [])).2.1.length = _ from HTL.out, show ((some (p, TL, FT)).getD (0, [], [])).2.2.length = _ from HFL.out]
        refine .inr (fun e => ?_)
        have h2 : wr.drew.heap.size ≤ w2.heap.size + 1 := (HO8.out.lt _ e.symm).1
        have h3 : w2.heap.size + 1 < wr.drew.heap.size := (HOd.out.lt _ rfl).2
        omega
  · skip
    have HD := Lib.hid (show recOfD X Y = k by rw [HDD.out]; omega)
    by_cases h6 : 6 < k
    · have HR := Lib.hid (show recOfR p U L = none by rw [HE.out, HD.out, if_neg (by omega)])
      have h6i : (6 : Int) < (k : Int) := by omega
      go_wp2_with (fail)
      refine bodyPost_ret (v := .tuple #[.agg #[.int .i64 0, .slice none 0 0, .slice none 0 0], .bool false]) (by simp [results, Tryd.f18, go_sem, x0, x1, x2]) rfl ?_
      rw [HR.out]
      exact madeb_no (below_more HB2.out HN.out) (by omega)
    have hd6 : k ≤ 6 := by omega
    have hmd : m ≤ k := by omega
    obtain ⟨TL, hTL⟩ : ∃ TL, recOfT p Y k = TL := ⟨_, rfl⟩
    obtain ⟨FT, hFT⟩ : ∃ FT, frT p X Y k = FT := ⟨_, rfl⟩
    have HR := Lib.hid (show recOfR p U L = some (p, TL, FT) by rw [HE.out, HD.out, if_pos hd6, hTL, hFT])
    have HTL := Lib.hid (show TL.length = k by rw [← hTL, recOfT_len])
    have HFL := Lib.hid (show FT.length = k by rw [← hFT, frT_len])
    have HFT := Lib.hid (show fracT p X Y (k : Int) = FT by unfold fracT; rw [if_pos ⟨HLF.out, by omega, by omega⟩, ← hFT]; rfl)
    have HTG := Lib.hid (show ∀ j, j < m → TL[j]? = some (-(co Y (j + 1)) % p) from fun j hj => by rw [← hTL]; exact recOfT_get p Y (by omega))
    have HTS := Lib.hid (show TL.take m ++ List.replicate (k - m) 0 = TL by rw [← hTL]; exact recOfT_stop HYL.out hmd)
    have hmk := run_make_row' (P := Tryd.prog) 22 3 (.int .i64 0) 8 Tryd.underlying22 infoInt rfl .i64 .i64 k (by omega) (by omega)
    have h6n : ¬ (6 : Int) < (k : Int) := by omega
    clear hTL hFT
    by_cases hc1 : c4 = 1
    · obtain rfl : m = 0 := by omega
      subst hc1
      simp only [Nat.zero_add] at *
      go_wp2_with (fail)
      go_loopw [32] (fun i wr => ∃ j : Nat, j ≤ 0 ∧ i = .int .i64 (j : Int) ∧ OI wr (w2.heap.size + 1) (some ⟨w2.heap.size + 1, 0, none⟩) k k (TL.take j ++ List.replicate (k - j) 0) ∧ Below (w2.heap.size + 1) (w2.alloc (.cells #[.int .i64 p, .slice A3 k c3, .slice (some ⟨b4, 0, none⟩) 1 1] 27)) wr) (fun i _ => 0 - (intOf i).toNat)
      case atStart =>
        have h := made_ints (w2.alloc (.cells #[.int .i64 p, .slice A3 k c3, .slice (some ⟨b4, 0, none⟩) 1 1] 27)) k (by omega)
        have hb := below_new (w2.alloc (.cells #[.int .i64 p, .slice A3 k c3, .slice (some ⟨b4, 0, none⟩) 1 1] 27)) (.cells (madeCells #[.int .i64 0] k) 3)
        rw [World.size_alloc] at h hb
        exact ⟨0, by omega, rfl, by simpa using h, hb⟩
      case round =>
        obtain ⟨j, hj, rfl, hown, hbel⟩ := hrel
        have hz3 : (w2.alloc (.cells #[.int .i64 p, .slice A3 k c3, .slice (some ⟨b4, 0, none⟩) 1 1] 27)).heap.size = w2.heap.size + 1 := by simp
        have hbel' : Below (w2.alloc (.cells #[.int .i64 p, .slice A3 k c3, .slice (some ⟨b4, 0, none⟩) 1 1] 27)).heap.size (w2.alloc (.cells #[.int .i64 p, .slice A3 k c3, .slice (some ⟨b4, 0, none⟩) 1 1] 27)) wr := by rw [hz3]; exact hbel
        have HBXr := Lib.hid ((HBX2.out.below HN.out).below hbel')
        have HBLr := Lib.hid (HBL.out.below hbel')
        have HBWr := Lib.hid (HBW3.out.below hbel')
        have HBr := Lib.hid (below_more HN.out hbel')
        have hsr := hbel'.size
        rw [hz3] at hsr
        have HO := Lib.hid hown
        obtain rfl : j = 0 := by omega
        rw [HTS.out] at HO
        have HRLd := Lib.hid ((HRL.out.below HBr.out).below (below_new_drew wr))
        have HGd := Lib.hid ((HG2.out.below HBr.out).drew)
        have HBd := Lib.hid (below_more HB2.out HBr.out).drew
        have HOd := Lib.hid (owns_below HO.out (below_new_drew wr))
        have ZS := And.intro HBXr.out.1 HBLr.out
        have Zd := And.intro HBXr.out.drew.1 HBLr.out.drew
        unfold Bx at ZS Zd
        have hfar : ∀ (W : World) (g o1 o2 : Nat) (v : Value), g ≠ w.heap.size + 1 → (W.setCell ⟨w.heap.size + 1, o1, none⟩ v).cell? ⟨g, o2, none⟩ = W.cell? ⟨g, o2, none⟩ := fun W g o1 o2 v hg => World.cell?_setCell_far _ _ _ _ (by show w.heap.size + 1 ≠ g; omega)
        clear hown hbel hbel'
        go_wp2_with (fail)
        go_region_held3 (fun w' => w'.cell? ⟨w.heap.size, 0, none⟩ = some (.int .i64 p) ∧ w'.cell? ⟨w2.heap.size, 0, none⟩ = some (.int .i64 p) ∧ w'.cell? ⟨w2.heap.size, 1, none⟩ = some (.slice A3 k c3) ∧ w'.cell? ⟨w2.heap.size, 2, none⟩ = some (.slice (some ⟨b4, 0, none⟩) 1 1)) (first | assumption | exact ZA | exact Zd | exact ZS | (refine ⟨?_, ?_, ?_, ?_⟩ <;> (simp (disch := omega) only [hfar]; first | exact ZA.1 | exact ZA.2.1 | exact ZA.2.2.1 | exact ZA.2.2.2)) | go_keep)
          ((go_at_call 42; refine (implFracTerms _ p X Y (k : Int) _ HRLd.out ge HGd.out).mono ?_; rw [HFT.out, HFL.out]; rintro e w4 ⟨A8, c8, rfl, hO, hB⟩; have HO8 := Lib.hid hO; have HB4 := Lib.hid (below_more HBd.out hB); have HO4 := Lib.hid (owns_below HOd.out hB); have ZA := And.intro (HBXr.out.drew.below hB).1 (HBLr.out.drew.below hB); unfold Bx at ZA; have HW4 := Lib.hid (HBWr.out.drew.below hB); obtain ⟨x0, x1, x2⟩ := HW4.out.c; have fz := HW4.out.fz; clear hO hB))
        all_goals
          go_wp2_with (fail)
          refine bodyPost_ret (v := .tuple #[.agg #[.int .i64 p, .slice (some ⟨w2.heap.size + 1, 0, none⟩) k k, .slice A8 k c8], .bool true]) (by simp [results, Tryd.f18, go_sem, x0, x1, x2]) rfl ?_
          rw [HR.out]
          refine madeb_put (R := some (p, TL, FT)) (B := w2.heap.size + 1) (g := w.heap.size + 1) ⟨some ⟨w2.heap.size + 1, 0, none⟩, k, A8, c8, by rw [show ((some (p, TL, FT)).getD (0, [], [])).2.1.length = _ from HTL.out, show ((some (p, TL, FT)).getD (0, [], [])).2.2.length = _ from HFL.out]; rfl, by rw [show ((some (p, TL, FT)).getD (0, [], [])).2.1.length = _ from HTL.out]; exact HO4.out, by rw [show ((some (p, TL, FT)).getD (0, [], [])).2.2.length = _ from HFL.out]; exact owns_mono HO8.out hsr, ?_⟩ HB4.out (by omega) (by omega) (by omega)
          rw [show ((some (p, TL, FT)).getD (0, [], [])).2.1.length = _ from HTL.out, show ((some (p, TL, FT)).getD (0, [], [])).2.2.length = _ from HFL.out]
          refine .inr (fun e => ?_)
          have h2 : wr.drew.heap.size ≤ w2.heap.size + 1 := (HO8.out.lt _ e.symm).1
          have h3 : w2.heap.size + 1 < wr.drew.heap.size := (HOd.out.lt _ rfl).2
          omega
    · skip
      go_wp2_with (fail)
      go_loopw [32] (fun i wr => ∃ j : Nat, j ≤ m ∧ i = .int .i64 (j : Int) ∧ OI wr (w2.heap.size + 1) (some ⟨w2.heap.size + 1, 0, none⟩) k k (TL.take j ++ List.replicate (k - j) 0) ∧ Below (w2.heap.size + 1) (w2.alloc (.cells #[.int .i64 p, .slice A3 k c3, .slice (some ⟨b4, 0, none⟩) (m + 1) c4] 27)) wr) (fun i _ => m - (intOf i).toNat)
      case atStart =>
        have h := made_ints (w2.alloc (.cells #[.int .i64 p, .slice A3 k c3, .slice (some ⟨b4, 0, none⟩) (m + 1) c4] 27)) k (by omega)
        have hb := below_new (w2.alloc (.cells #[.int .i64 p, .slice A3 k c3, .slice (some ⟨b4, 0, none⟩) (m + 1) c4] 27)) (.cells (madeCells #[.int .i64 0] k) 3)
        rw [World.size_alloc] at h hb
        exact ⟨0, by omega, rfl, by simpa using h, hb⟩
      case round =>
        obtain ⟨j, hj, rfl, hown, hbel⟩ := hrel
        have hz3 : (w2.alloc (.cells #[.int .i64 p, .slice A3 k c3, .slice (some ⟨b4, 0, none⟩) (m + 1) c4] 27)).heap.size = w2.heap.size + 1 := by simp
        have hbel' : Below (w2.alloc (.cells #[.int .i64 p, .slice A3 k c3, .slice (some ⟨b4, 0, none⟩) (m + 1) c4] 27)).heap.size (w2.alloc (.cells #[.int .i64 p, .slice A3 k c3, .slice (some ⟨b4, 0, none⟩) (m + 1) c4] 27)) wr := by rw [hz3]; exact hbel
        have HBXr := Lib.hid ((HBX2.out.below HN.out).below hbel')
        have HBLr := Lib.hid (HBL.out.below hbel')
        have HBWr := Lib.hid (HBW3.out.below hbel')
        have HBr := Lib.hid (below_more HN.out hbel')
        have hsr := hbel'.size
        rw [hz3] at hsr
        have HO := Lib.hid hown
        by_cases hlt : j < m
        · obtain ⟨y, hy, hcy⟩ := (HI4.out.below HBr.out).cell (j + 1) (by omega)
          rw [Nat.zero_add, Nat.add_comm j 1] at hcy
          have hyb := numB_bd (HYV.out y (List.mem_of_getElem? hy))
          obtain ⟨u, hu⟩ : ∃ u, -y % p = u := ⟨_, rfl⟩
          have hyc : TL[j]? = some u := by rw [HTG.out j hlt, show co Y (j + 1) = y from getD_at hy, hu]
          have hmx : (TL.take j ++ List.replicate (k - j) 0).set j u = TL.take (j + 1) ++ List.replicate (k - (j + 1)) 0 := by
            have := set_step TL (List.replicate k 0) j u (by rw [HTL.out, List.length_replicate]) hyc
            rwa [List.drop_replicate, List.drop_replicate] at this
          have hcell := World.ownsRow.cellAt hown j (by omega)
          have hfr := World.ownsRow.frozenAt hown j
          have hst := World.ownsRow.stored hown j (.int .i64 u)
          rw [ints_set, hmx] at hst
          obtain ⟨v0, hv0⟩ : ∃ v0, wr.cell? ⟨w2.heap.size + 1, j, none⟩ = some v0 := by
            rw [hcell]; exact ⟨_, List.getElem?_eq_getElem (by simp only [ints, List.length_map, List.length_append, List.length_take, List.length_replicate, HTL.out]; omega)⟩
          have HS := Lib.hid hst.1
          have HB9 := Lib.hid (hbel.setCell (p := ⟨w2.heap.size + 1, j, none⟩) (Nat.le_refl _) (.int .i64 u))
          obtain ⟨y0, y1, y2⟩ := HBXr.out
          have HYB := Lib.hid hyb
          have HU := Lib.hid hu
          clear hcell hst hmx hyc hy hown hbel hbel' hyb hu
          go_wp2_with (go_at_call 30; refine (negative_any2 p y _ HYB.out.2.2.1 HYB.out.2.2.2 HYB.out.1 HYB.out.2.1).mono ?_; rintro e w' ⟨rfl, rfl⟩; rw [show (p - y) % p = u by rw [← HU.out]; simp])
          go_roundw
          case rel => exact ⟨j + 1, by omega, by go_num, HS.out, HB9.out⟩
          case measure => simp [intOf]; omega
        obtain rfl : j = m := by omega
        rw [HTS.out] at HO
        have HRLd := Lib.hid ((HRL.out.below HBr.out).below (below_new_drew wr))
        have HGd := Lib.hid ((HG2.out.below HBr.out).drew)
        have HBd := Lib.hid (below_more HB2.out HBr.out).drew
        have HOd := Lib.hid (owns_below HO.out (below_new_drew wr))
        have ZS := And.intro HBXr.out.1 HBLr.out
        have Zd := And.intro HBXr.out.drew.1 HBLr.out.drew
        unfold Bx at ZS Zd
        have hfar : ∀ (W : World) (g o1 o2 : Nat) (v : Value), g ≠ w.heap.size + 1 → (W.setCell ⟨w.heap.size + 1, o1, none⟩ v).cell? ⟨g, o2, none⟩ = W.cell? ⟨g, o2, none⟩ := fun W g o1 o2 v hg => World.cell?_setCell_far _ _ _ _ (by show w.heap.size + 1 ≠ g; omega)
        clear hown hbel hbel'
        go_wp2_with (fail)
        go_region_held3 (fun w' => w'.cell? ⟨w.heap.size, 0, none⟩ = some (.int .i64 p) ∧ w'.cell? ⟨w2.heap.size, 0, none⟩ = some (.int .i64 p) ∧ w'.cell? ⟨w2.heap.size, 1, none⟩ = some (.slice A3 k c3) ∧ w'.cell? ⟨w2.heap.size, 2, none⟩ = some (.slice (some ⟨b4, 0, none⟩) (j + 1) c4)) (first | assumption | exact ZA | exact Zd | exact ZS | (refine ⟨?_, ?_, ?_, ?_⟩ <;> (simp (disch := omega) only [hfar]; first | exact ZA.1 | exact ZA.2.1 | exact ZA.2.2.1 | exact ZA.2.2.2)) | go_keep)
          ((go_at_call 42; refine (implFracTerms _ p X Y (k : Int) _ HRLd.out ge HGd.out).mono ?_; rw [HFT.out, HFL.out]; rintro e w4 ⟨A8, c8, rfl, hO, hB⟩; have HO8 := Lib.hid hO; have HB4 := Lib.hid (below_more HBd.out hB); have HO4 := Lib.hid (owns_below HOd.out hB); have ZA := And.intro (HBXr.out.drew.below hB).1 (HBLr.out.drew.below hB); unfold Bx at ZA; have HW4 := Lib.hid (HBWr.out.drew.below hB); obtain ⟨x0, x1, x2⟩ := HW4.out.c; have fz := HW4.out.fz; clear hO hB))
        all_goals
          go_wp2_with (fail)
          refine bodyPost_ret (v := .tuple #[.agg #[.int .i64 p, .slice (some ⟨w2.heap.size + 1, 0, none⟩) k k, .slice A8 k c8], .bool true]) (by simp [results, Tryd.f18, go_sem, x0, x1, x2]) rfl ?_
          rw [HR.out]
          refine madeb_put (R := some (p, TL, FT)) (B := w2.heap.size + 1) (g := w.heap.size + 1) ⟨some ⟨w2.heap.size + 1, 0, none⟩, k, A8, c8, by rw [show ((some (p, TL, FT)).getD (0, [], [])).2.1.length = _ from HTL.out, show ((some (p, TL, FT)).getD (0, [], [])).2.2.length = _ from HFL.out]; rfl, by rw [show ((some (p, TL, FT)).getD (0, [], [])).2.1.length = _ from HTL.out]; exact HO4.out, by rw [show ((some (p, TL, FT)).getD (0, [], [])).2.2.length = _ from HFL.out]; exact owns_mono HO8.out hsr, ?_⟩ HB4.out (by omega) (by omega) (by omega)
          rw [show ((some (p, TL, FT)).getD (0, [], [])).2.1.length = _ from HTL.out, show ((some (p, TL, FT)).getD (0, [], [])).2.2.length = _ from HFL.out]
          refine .inr (fun e => ?_)
          have h2 : wr.drew.heap.size ≤ w2.heap.size + 1 := (HO8.out.lt _ e.symm).1
          have h3 : w2.heap.size + 1 < wr.drew.heap.size := (HOd.out.lt _ rfl).2
          omega
end Go.Proofs.YtbpndmcejbiedaaDoor
namespace Go.Proofs.YtbpndmcejbiedaaDoor
open Go.RowKit
theorem BxW.set1 {W : World} {g : Nat} {a b c : Value} (h : BxW W g a b c) (x : Value) : BxW (W.setCell ⟨g, 1, none⟩ x) g a x c := by
  obtain ⟨⟨h0, h1, h2⟩, hf⟩ := h
  refine ⟨⟨?_, ?_, ?_⟩, fun o => (World.frozen?_setCell _ _ _ _).trans (hf o)⟩
  · rw [World.cell?_setCell_other _ ⟨g, 1, none⟩ ⟨g, 0, none⟩ _ (by simp)]; exact h0
  · exact World.cell?_setCell_same' _ _ _ (by rw [h1]; rfl)
  · rw [World.cell?_setCell_other _ ⟨g, 1, none⟩ ⟨g, 2, none⟩ _ (by simp)]; exact h2
theorem BxW.put3 {W : World} {g : Nat} {a b c : Value} (h : BxW W g a b c) (x y z : Value) : BxW (set3 W g x y z) g x y z :=
  ⟨h.put x y z, fun o => by unfold set3; rw [World.frozen?_setCell, World.frozen?_setCell, World.frozen?_setCell]; exact h.fz o⟩
set_option maxRecDepth 100000 in
set_option maxHeartbeats 16000000 in
theorem specRecOf (v : Value) (p : Int) (U L : List Int) (w : World) (h : RV w v p U L) :
    Calls Tryd.prog 16 #[v] w (MadeRB (recOfR p U L) w) := by
  obtain ⟨A, n, c, b, o, A', n', c', b', o', rfl, g1, g2⟩ := h
  have hbx := (Bx.new w (.int .i64 p) (.slice A n c) (.slice A' n' c') 27).below (below_new _ (.cells #[.int .i64 0, .slice none 0 0, .slice none 0 0] 29))
  have hbw := BxW.new (w.alloc (.cells #[.int .i64 p, .slice A n c, .slice A' n' c'] 27)) (.int .i64 0) (.slice none 0 0) (.slice none 0 0) 29
  rw [World.size_alloc] at hbw
  have hB0 := ((Below.refl w.heap.size w).alloc (Nat.le_refl _) (.cells #[.int .i64 p, .slice A n c, .slice A' n' c'] 27)).alloc (by simp) (.cells #[.int .i64 0, .slice none 0 0, .slice none 0 0] 29)
  have HV := Lib.hid (show RV _ (.agg #[.int .i64 p, .slice A n c, .slice A' n' c']) p U L from ⟨_, _, _, _, _, _, _, _, _, _, rfl, g1.below hB0, g2.below hB0⟩)
  have HBX := Lib.hid hbx
  have HBW := Lib.hid hbw
  have HB0 := Lib.hid hB0
  have H0 := Lib.hid (g1.below hB0)
  have H0' := Lib.hid (g2.below hB0)
  clear g1 g2 hbx hbw hB0
  rcases hv : fracB p U L
  · have HV1 := Lib.hid hv
    have HE := Lib.hid (show recOfR p U L = none by unfold recOfR; rw [if_neg (by simp [hv])])
    clear hv
    go_enter Tryd.func16, Tryd.ntmps16
    go_wp2_with (go_at_call 38; refine (specFracValid _ p U L _ HV.out).mono ?_; rintro e w1 ⟨rfl, hB⟩; rw [HV1.out]; have HB1 := Lib.hid (below_more HB0.out hB); have hbw := HBW.out.below hB; have x0 := hbw.c.1; have x1 := hbw.c.2.1; have x2 := hbw.c.2.2; have fz := hbw.fz; clear hB hbw)
    refine bodyPost_ret (v := .tuple #[.agg #[.int .i64 0, .slice none 0 0, .slice none 0 0], .bool false]) (by simp [results, Tryd.f16, go_sem, x0, x1, x2]) rfl ?_
    rw [HE.out]
    exact madeb_no HB1.out (by omega)
  have HV1 := Lib.hid hv
  have hlf := leastL_frac hv
  obtain ⟨u1, u2, _, _, u5, u6⟩ := fracB_true hv
  have HUL := Lib.hid (And.intro u1 (And.intro u2 (And.intro u5 u6)))
  clear u1 u2 u5 u6
  have HLR := Lib.hid (show fracLeastR p U L = (p, (leastL p U L).1, (leastL p U L).2) by unfold fracLeastR; rw [if_pos hv])
  have HE := Lib.hid (show recOfR p U L = if recOfD (leastL p U L).1 (leastL p U L).2 ≤ 6 then some (p, recOfT p (leastL p U L).2 (recOfD (leastL p U L).1 (leastL p U L).2), frT p (leastL p U L).1 (leastL p U L).2 (recOfD (leastL p U L).1 (leastL p U L).2)) else none by
    unfold recOfR
    by_cases h : recOfD (leastL p U L).1 (leastL p U L).2 ≤ 6
    · rw [if_pos ⟨hv, h⟩, if_pos h]
    · rw [if_neg (fun e => h e.2), if_neg h])
  obtain ⟨X, hX⟩ : ∃ X, (leastL p U L).1 = X := ⟨_, rfl⟩
  obtain ⟨Y, hY⟩ : ∃ Y, (leastL p U L).2 = Y := ⟨_, rfl⟩
  have HXY := Lib.hid (And.intro hX hY)
  rw [hX, hY] at HLR HE hlf
  obtain ⟨hxp, hyp, hx12, hy12, hy0, hyz⟩ := fracB_true hlf
  have HLF := Lib.hid hlf
  have HYV := Lib.hid (serB_true (polB_ser hyp)).2.2
  have hpr := (serB_true (polB_ser hxp)).1
  have hpb := prime_ge hpr
  obtain ⟨m, hm⟩ : ∃ m, Y.length = m + 1 := ⟨Y.length - 1, by omega⟩
  obtain ⟨k, hk⟩ : ∃ k, X.length = k := ⟨_, rfl⟩
  have HYL := Lib.hid hm
  have HXL := Lib.hid hk
  rw [hm] at hy12
  rw [hk] at hx12
  have HDD := Lib.hid (show recOfD X Y = max k m by unfold recOfD; rw [hk, hm]; rfl)
  clear hv hX hY hlf hxp hyp hy0 hyz hpr hm hk
  go_enter Tryd.func16, Tryd.ntmps16
  go_wp2_with (go_at_call 38; refine (specFracValid _ p U L _ HV.out).mono ?_; rintro e w1 ⟨rfl, hB⟩; rw [HV1.out]; have HB1 := Lib.hid (below_more HB0.out hB); have HBW1 := Lib.hid (HBW.out.below hB); have HBX1 := Lib.hid (HBX.out.below hB); have HVa := Lib.hid (HV.out.below hB); have H1 := Lib.hid (H0.out.below hB); have H1' := Lib.hid (H0'.out.below hB); have y0 := HBX1.out.1; have y1 := HBX1.out.2.1; have y2 := HBX1.out.2.2; clear hB)
  refine (specLeast p A n c b o U A' n' c' b' o' L _ H1.out H1'.out HUL.out.1 HUL.out.2.1 HUL.out.2.2.1 HUL.out.2.2.2).mono ?_
  rw [HXY.out.1, HXY.out.2]
  rintro e w2 ⟨v9, rfl, hO, hB⟩
  obtain ⟨A3, c3, A4, c4, rfl, hO1, hO2, hap⟩ := hO
  rw [HXL.out] at hO1 ⊢
  rw [HYL.out] at hO2 ⊢
  have HXL2 := HXL
  have hc4 := OI.capLe hO2
  obtain ⟨b4, hI4⟩ := hO2.ia
  obtain rfl := hI4.adr (by omega)
  have HI4 := Lib.hid hI4
  have HRL := Lib.hid (show RV w2 (.agg #[.int .i64 p, .slice A3 k c3, .slice (some ⟨b4, 0, none⟩) (m + 1) c4]) p X Y from by
    obtain ⟨b3, hI3⟩ := hO1.ia
    exact ⟨_, _, _, _, _, _, _, _, _, _, rfl, hI3, hI4⟩)
  have hs1 := HB1.out.size
  have hlo1 := HBW1.out.c.lt
  have hs2 := hB.size
  have HB2 := Lib.hid (below_more HB1.out hB)
  have HBX2 := Lib.hid (HBX1.out.below hB)
  have HBW2 := Lib.hid (HBW1.out.below hB)
  clear hO1 hO2 hap hI4 hB y0 y1 y2
  have hbn := below_new w2 (.cells #[.int .i64 p, .slice A3 k c3, .slice (some ⟨b4, 0, none⟩) (m + 1) c4] 27)
  have HBL := Lib.hid (Bx.new w2 (.int .i64 p) (.slice A3 k c3) (.slice (some ⟨b4, 0, none⟩) (m + 1) c4) 27)
  have HBW3 := Lib.hid (HBW2.out.below hbn)
  obtain ⟨x0, x1, x2⟩ := HBW3.out.c
  have fz := HBW3.out.fz
  have hmw : IntKind.i64.wrap (((m + 1 : Nat) : Int) - 1) = (m : Int) := by rw [IntWalk.i64_in _ ⟨by omega, by omega⟩]; omega
  have hmw2 : IntKind.i64.wrap ((m : Int) + 1 - 1) = (m : Int) := by rw [IntWalk.i64_in _ ⟨by omega, by omega⟩]; omega
  have HN := Lib.hid hbn
  clear hbn
  by_cases hkm : (m : Int) < (k : Int)
  · skip
    have HD := Lib.hid (show recOfD X Y = k by rw [HDD.out]; omega)
    by_cases h6 : 6 < k
    · have HR := Lib.hid (show recOfR p U L = none by rw [HE.out, HD.out, if_neg (by omega)])
      have h6i : (6 : Int) < (k : Int) := by omega
      go_wp2_with (fail)
      refine bodyPost_ret (v := .tuple #[.agg #[.int .i64 0, .slice none 0 0, .slice none 0 0], .bool false]) (by simp [results, Tryd.f16, go_sem, x0, x1, x2]) rfl ?_
      rw [HR.out]
      exact madeb_no (below_more HB2.out HN.out) (by omega)
    have hd6 : k ≤ 6 := by omega
    have hmd : m ≤ k := by omega
    obtain ⟨TL, hTL⟩ : ∃ TL, recOfT p Y k = TL := ⟨_, rfl⟩
    obtain ⟨FT, hFT⟩ : ∃ FT, frT p X Y k = FT := ⟨_, rfl⟩
    have HR := Lib.hid (show recOfR p U L = some (p, TL, FT) by rw [HE.out, HD.out, if_pos hd6, hTL, hFT])
    have HTL := Lib.hid (show TL.length = k by rw [← hTL, recOfT_len])
    have HFL := Lib.hid (show FT.length = k by rw [← hFT, frT_len])
    have HFT := Lib.hid hFT
    have HTG := Lib.hid (show ∀ j, j < k → TL[j]? = some (-(co Y (j + 1)) % p) from fun j hj => by rw [← hTL]; exact recOfT_get p Y hj)
    have h6n : ¬ (6 : Int) < (k : Int) := by omega
    clear hTL hFT
    go_wp2_with (fail)
    go_upto_region 7 with (fail)
    have HRLd := Lib.hid ((HRL.out.below HN.out).below (below_new_drew _))
    have HZ3 := Lib.hid (show (w2.alloc (.cells #[.int .i64 p, .slice A3 k c3, .slice (some ⟨b4, 0, none⟩) (m + 1) c4] 27)).heap.size = w2.heap.size + 1 by simp)
    have HZ3d := Lib.hid (show (w2.alloc (.cells #[.int .i64 p, .slice A3 k c3, .slice (some ⟨b4, 0, none⟩) (m + 1) c4] 27)).drew.heap.size = w2.heap.size + 1 by simp)
    go_cut [6] (fun v wx => ∃ (g6 : Nat) (A8 : Option Addr) (c8 : Nat), v = .pointer (some ⟨g6, 0, none⟩) ∧ BxW wx g6 (.int .i64 p) (.slice none 0 0) (.slice A8 k c8) ∧ OI wx (w2.heap.size + 1) A8 k c8 FT ∧ (∀ g, (Value.slice A8 k c8).ownBlock = some g → ¬ g = g6) ∧ w2.heap.size + 1 ≤ g6 ∧ Below (w2.heap.size + 1) (w2.alloc (.cells #[.int .i64 p, .slice A3 k c3, .slice (some ⟨b4, 0, none⟩) (m + 1) c4] 27)) wx)
    case first =>
      have ZS := And.intro (HBX2.out.below HN.out).1 HBL.out
      have Zd := And.intro (HBX2.out.below HN.out).drew.1 HBL.out.drew
      unfold Bx at ZS Zd
      have hfar : ∀ (W : World) (g g' o1 o2 : Nat) (v : Value), g ≠ g' → (W.setCell ⟨g', o1, none⟩ v).cell? ⟨g, o2, none⟩ = W.cell? ⟨g, o2, none⟩ := fun W g g' o1 o2 v hg => World.cell?_setCell_far _ _ _ _ (by show g' ≠ g; omega)
      have HWd := Lib.hid (below_new_drew (w2.alloc (.cells #[.int .i64 p, .slice A3 k c3, .slice (some ⟨b4, 0, none⟩) (m + 1) c4] 27)))
      go_region_held3 (fun w' => w'.cell? ⟨w.heap.size, 0, none⟩ = some (.int .i64 p) ∧ w'.cell? ⟨w2.heap.size, 0, none⟩ = some (.int .i64 p) ∧ w'.cell? ⟨w2.heap.size, 1, none⟩ = some (.slice A3 k c3) ∧ w'.cell? ⟨w2.heap.size, 2, none⟩ = some (.slice (some ⟨b4, 0, none⟩) (m + 1) c4)) (first | assumption | exact ZA | exact Zd | exact ZS | (refine ⟨?_, ?_, ?_, ?_⟩ <;> (simp (disch := omega) only [hfar]; first | exact ZA.1 | exact ZA.2.1 | exact ZA.2.2.1 | exact ZA.2.2.2)) | go_keep)
        ((go_at_call 39; refine (specL4 _ p X Y k _ (by first | exact HRLd.out | exact HRLd.out.below (below_new _ _)) HLF.out (by omega)).mono ?_; rw [HFT.out, HFL.out]; rintro e w4 ⟨A8, c8, rfl, hO, hB⟩; have hB' : Below (w2.alloc (.cells #[.int .i64 p, .slice A3 k c3, .slice (some ⟨b4, 0, none⟩) (m + 1) c4] 27)).drew.heap.size (w2.alloc (.cells #[.int .i64 p, .slice A3 k c3, .slice (some ⟨b4, 0, none⟩) (m + 1) c4] 27)).drew w4 := (by first | exact hB | exact below_more (below_new _ (.cells #[.int .i64 0, .slice none 0 0, .slice none 0 0] 29)) hB); (first | have HLB := Lib.hid (show BxW w4 (w2.heap.size + 1) (.int .i64 0) (.slice none 0 0) (.slice none 0 0) by have h := BxW.new (w2.alloc (.cells #[.int .i64 p, .slice A3 k c3, .slice (some ⟨b4, 0, none⟩) (m + 1) c4] 27)).drew (.int .i64 0) (.slice none 0 0) (.slice none 0 0) 29; rw [HZ3d.out] at h; exact h.below hB) | skip); have HO8 := Lib.hid hO; have HB8 := Lib.hid hB'; have hz4 := hB'.size; have ZA := And.intro ((HBX2.out.below HN.out).drew.below hB').1 (HBL.out.drew.below hB'); unfold Bx at ZA; (first | (obtain ⟨z0, z1, z2⟩ := HLB.out.c; have zf := HLB.out.fz; have hzl := HLB.out.c.lt) | skip); clear hO hB hB'))
      all_goals
        go_wp2_with (fail)
        go_meet
        have hq4 : w2.heap.size + 1 ≤ w4.heap.size := by have h := hz4; simp at h; omega
        have HBw := Lib.hid (show Below (w2.heap.size + 1) (w2.alloc (.cells #[.int .i64 p, .slice A3 k c3, .slice (some ⟨b4, 0, none⟩) (m + 1) c4] 27)) w4 from by have h := below_more (below_new_drew (w2.alloc (.cells #[.int .i64 p, .slice A3 k c3, .slice (some ⟨b4, 0, none⟩) (m + 1) c4] 27))) HB8.out; rwa [HZ3.out] at h)
        first
          | exact ⟨_, A8, c8, rfl, HLB.out.put3 _ _ _, owns_mono (OIk HO8.out (set3_keep _ _ _ _ _) (fun k' hk e => by have := (HO8.out.lt k' hk).1; (simp at this; omega))) (by simp), (fun g hg e => by have := (HO8.out.lt g hg).1; (simp at this; omega)), Nat.le_refl _, HBw.out.trans (set3_far _ _ _ _ _ (Nat.le_refl _) hq4)⟩
          | exact ⟨w4.heap.size, A8, c8, rfl, BxW.new _ _ _ _ _, owns_mono (OIb HO8.out (below_new _ _)) (by simp), (fun g hg e => by have := (HO8.out.lt g hg).2; omega), hq4, HBw.out.trans ((below_new w4 _).mono hq4)⟩
          | trace_state
    case rest =>
    obtain ⟨g6, A8, c8, rfl, hbx, hO8, hne8, hg6, hB8⟩ := hcut
    obtain ⟨wo, rfl⟩ : ∃ wo : World, wo = wc := ⟨_, rfl⟩
    have HBX6 := Lib.hid hbx
    have HO8 := Lib.hid hO8
    have HNE := Lib.hid hne8
    have HB8 := Lib.hid hB8
    have hg6l := hbx.c.lt
    have hs8 := hB8.size
    rw [HZ3.out] at hs8
    have HB8' := Lib.hid (show Below (w2.alloc (.cells #[.int .i64 p, .slice A3 k c3, .slice (some ⟨b4, 0, none⟩) (m + 1) c4] 27)).heap.size (w2.alloc (.cells #[.int .i64 p, .slice A3 k c3, .slice (some ⟨b4, 0, none⟩) (m + 1) c4] 27)) wo by rw [HZ3.out]; exact hB8)
    have HBLo := Lib.hid (HBL.out.below HB8'.out)
    have HBXo := Lib.hid ((HBX2.out.below HN.out).below HB8'.out)
    have HBWo := Lib.hid (HBW3.out.below HB8'.out)
    have HI4o := Lib.hid ((HI4.out.below HN.out).below HB8'.out)
    have hlo := HBX2.out.lt
    clear hbx hO8 hne8 hB8 x0 x1 x2 fz
    go_wp2_with (fail)
    go_loopw [7] (fun i wr => ∃ (j : Nat) (At : Option Addr) (ct : Nat), j ≤ k ∧ i = .int .i64 ((j : Int) + 1) ∧ OI wr wo.heap.size At j ct (TL.take j) ∧ BxW wr g6 (.int .i64 p) (.slice At j ct) (.slice A8 k c8) ∧ Keep (fun g => g = g6 ∨ wo.heap.size ≤ g) wo wr) (fun i _ => k + 1 - (intOf i).toNat)
    case atStart => exact ⟨0, none, 0, by omega, rfl, World.ownsRow_nil _ _ _ _, HBX6.out, Keep.refl _ _⟩
    case round =>
      obtain ⟨j, At, ct, hj, rfl, hown, hbox, hkeep⟩ := hrel
      have hsr := hkeep.size
      have HO := Lib.hid hown
      have HBXW := Lib.hid hbox
      have HK := Lib.hid hkeep
      have kp : ∀ g, g < wo.heap.size → g ≠ g6 → ¬ (g = g6 ∨ wo.heap.size ≤ g) := fun g h1 h2 h3 => by omega
      have HBLr := Lib.hid (HBLo.out.keep HK.out (kp _ HBLo.out.lt (by omega)))
      have HBXr := Lib.hid (HBXo.out.keep HK.out (kp _ HBXo.out.lt (by omega)))
      have HBWr := Lib.hid (HBWo.out.keep HK.out (kp _ HBWo.out.c.lt (by omega)))
      obtain ⟨q0, q1, q2⟩ := hbox.c
      have qf := hbox.fz
      obtain ⟨r0, r1, r2⟩ := HBLr.out
      have y0 := HBXr.out.1
      clear hown hbox hkeep
      by_cases hlt : j < k
      · have hmono : ∀ (u : Int), TL[j]? = some u → TL.take j ++ [u] = TL.take (j + 1) := fun u hu => by rw [List.take_add_one, hu]; rfl
        have HMO := Lib.hid hmono
        have hle : (j : Int) + 1 ≤ (k : Int) := by omega
        by_cases hjm : j < m
        · have hne4 : b4 ≠ g6 := by
            obtain ⟨_, _, hc0⟩ := HI4.out.cell 0 (by omega)
            have : b4 < w2.heap.size := cell_lt hc0
            omega
          obtain ⟨y, hy, hcy⟩ := HI4o.out.cell (j + 1) (by omega)
          have hcy := HK.out.cell hcy (kp _ (cell_lt hcy) hne4)
          rw [Nat.zero_add] at hcy
          have hyb := numB_bd (HYV.out y (List.mem_of_getElem? hy))
          obtain ⟨u, hu⟩ : ∃ u, -y % p = u := ⟨_, rfl⟩
          have hyc := HMO.out u (by rw [HTG.out j hlt, show co Y (j + 1) = y from getD_at hy, hu])
          have HYC := Lib.hid hyc
          have HU := Lib.hid hu
          have hwn : IntKind.i64.wrap (-y) = -y := IntWalk.i64_in _ ⟨by omega, by omega⟩
          have hp2 := hyb.2.2.1
          have hp13 := hyb.2.2.2
          have hltm : (j : Int) + 1 < (m : Int) + 1 := by omega
          have hlt0 : (0 : Int) ≤ (j : Int) + 1 := by omega
          have hltm2 : (j : Int) < (m : Int) := by omega
          have hcy' : wr.cell? ⟨b4, j + 1, none⟩ = some (.int .i64 y) := hcy
          clear hy hu hyc hmono hyb hcy
          go_wp2_with (fail)
          have Z0 := And.intro y0 (And.intro r2 hcy')
          have Zd : wr.drew.cell? ⟨w.heap.size, 0, none⟩ = some (.int .i64 p) ∧ wr.drew.cell? ⟨w2.heap.size, 2, none⟩ = some (.slice (some ⟨b4, 0, none⟩) (m + 1) c4) ∧ wr.drew.cell? ⟨b4, j + 1, none⟩ = some (.int .i64 y) := Z0
          go_region_held3 (fun w' => w'.cell? ⟨w.heap.size, 0, none⟩ = some (.int .i64 p) ∧ w'.cell? ⟨w2.heap.size, 2, none⟩ = some (.slice (some ⟨b4, 0, none⟩) (m + 1) c4) ∧ w'.cell? ⟨b4, j + 1, none⟩ = some (.int .i64 y)) (first | assumption | exact Zd | exact Z0 | go_keep)
            ((go_at_call 24; refine (l1Mod_is HU.out _ (by omega) (by omega)).mono ?_; rintro e wL ⟨rfl, rfl⟩))
          all_goals
            go_wp2_with (at_builtin; refine wpList_app_int rfl (.tmp 57) (.tmp 59) rfl wo.heap.size At j ct (TL.take j) rfl (owns_below (World.ownsRow.alloc HO.out _) (below_new_drew _)) u wr.heap.size 1 rfl (by simp [go_sem]) (by omega) (by simp; omega) ?_; intro A6 c6 w6 hO6 hK6; have hK6' : Keep (fun g => (Value.slice At j ct).ownBlock = some g) wr w6 := ((keep_of_below (((Below.refl _ wr).alloc (Nat.le_refl _) _).drew)).mono (fun _ _ h => h.elim)).trans hK6; have HO6 := Lib.hid hO6; have HK6 := Lib.hid hK6'; have hb6 := HBXW.out.keep hK6' (fun e => by have := (HO.out.lt g6 e).1; omega); have HB6 := Lib.hid hb6; obtain ⟨q0, q1, q2⟩ := hb6.c; have qf := hb6.fz; clear hO6 hK6 hK6' hb6)
            have hne6 : ∀ g, (Value.slice A6 (j + 1) c6).ownBlock = some g → ¬ g = g6 := fun g hg e => by have := (HO6.out.lt g hg).1; omega
            go_wp2_with (fail)
            go_roundw
            case rel =>
              have ho := OIk HO6.out (setCell_keep w6 ⟨g6, 1, none⟩ (.slice A6 (j + 1) c6)) (fun g hg e => hne6 g hg e)
              rw [HYC.out] at ho
              exact ⟨j + 1, A6, c6, by omega, by go_num, ho, HB6.out.set1 _, (HK.out.trans (HK6.out.mono (fun g _ hg => .inr (HO.out.lt g hg).1))).trans ((setCell_keep w6 ⟨g6, 1, none⟩ _).mono (fun g _ hg => .inl hg))⟩
            case measure => simp [intOf]; omega
        · have hjm2 : ¬ (j : Int) + 1 < (m : Int) + 1 := by omega
          have hjm3 : ¬ (j : Int) < (m : Int) := by omega
          have hjm4 : (m : Int) ≤ (j : Int) := by omega
          have hyc := HMO.out 0 (by rw [HTG.out j hlt, co_far (by rw [HYL.out]; omega)]; simp)
          have HYC := Lib.hid hyc
          clear hyc hmono
          go_wp2_with (at_builtin; refine wpList_app_int rfl (.tmp 57) (.tmp 59) rfl wo.heap.size At j ct (TL.take j) rfl (World.ownsRow.alloc HO.out _) 0 wr.heap.size 1 rfl (by simp [go_sem]) (by omega) (by simp; omega) ?_; intro A6 c6 w6 hO6 hK6; have hK6' : Keep (fun g => (Value.slice At j ct).ownBlock = some g) wr w6 := ((keep_of_below (below_new wr _)).mono (fun _ _ h => h.elim)).trans hK6; have HO6 := Lib.hid hO6; have HK6 := Lib.hid hK6'; have hb6 := HBXW.out.keep hK6' (fun e => by have := (HO.out.lt g6 e).1; omega); have HB6 := Lib.hid hb6; obtain ⟨q0, q1, q2⟩ := hb6.c; have qf := hb6.fz; clear hO6 hK6 hK6' hb6)
          have hne6 : ∀ g, (Value.slice A6 (j + 1) c6).ownBlock = some g → ¬ g = g6 := fun g hg e => by have := (HO6.out.lt g hg).1; omega
          go_wp2_with (fail)
          go_roundw
          case rel =>
            have ho := OIk HO6.out (setCell_keep w6 ⟨g6, 1, none⟩ (.slice A6 (j + 1) c6)) (fun g hg e => hne6 g hg e)
            rw [HYC.out] at ho
            exact ⟨j + 1, A6, c6, by omega, by go_num, ho, HB6.out.set1 _, (HK.out.trans (HK6.out.mono (fun g _ hg => .inr (HO.out.lt g hg).1))).trans ((setCell_keep w6 ⟨g6, 1, none⟩ _).mono (fun g _ hg => .inl hg))⟩
          case measure => simp [intOf]; omega
      · obtain rfl : j = k := by omega
        have e : TL.take j = TL := List.take_of_length_le (by rw [HTL.out]; exact Nat.le_refl _)
        rw [e] at HO
        obtain ⟨x0, x1, x2⟩ := HBWr.out.c
        have fz := HBWr.out.fz
        have HO8r := Lib.hid (OIk HO8.out HK.out (fun g hg => kp g (HO8.out.lt g hg).2 (HNE.out g hg)))
        have hBf := HB8.out.trans (HK.out.below (B := w2.heap.size + 1) hs8 (fun g hg => by omega))
        rw [← HZ3.out] at hBf
        have HBf := Lib.hid (below_more HB2.out (below_more HN.out hBf))
        clear e hBf
        go_wp2_with (fail)
        refine bodyPost_ret (v := .tuple #[.agg #[.int .i64 p, .slice At j ct, .slice A8 j c8], .bool true]) (by simp [results, Tryd.f16, go_sem, x0, x1, x2]) rfl ?_
        rw [HR.out]
        refine madeb_put (R := some (p, TL, FT)) (B := w2.heap.size + 1) (g := w.heap.size + 1) ⟨At, ct, A8, c8, by rw [show ((some (p, TL, FT)).getD (0, [], [])).2.1.length = _ from HTL.out, show ((some (p, TL, FT)).getD (0, [], [])).2.2.length = _ from HFL.out]; rfl, by rw [show ((some (p, TL, FT)).getD (0, [], [])).2.1.length = _ from HTL.out]; exact owns_mono HO.out (by omega), by rw [show ((some (p, TL, FT)).getD (0, [], [])).2.2.length = _ from HFL.out]; exact HO8r.out, ?_⟩ HBf.out (by omega) (by omega) (by omega)
        rw [show ((some (p, TL, FT)).getD (0, [], [])).2.1.length = _ from HTL.out, show ((some (p, TL, FT)).getD (0, [], [])).2.2.length = _ from HFL.out]
        rcases hob : (Value.slice At j ct).ownBlock with _ | g
        · exact .inl hob
        · refine .inr (fun e => ?_)
          rw [hob] at e
          have h1 := (HO.out.lt g hob).1
          have h2 := (HO8.out.lt g e.symm).2
          omega
  · skip
    have HD := Lib.hid (show recOfD X Y = m by rw [HDD.out]; omega)
    by_cases h6 : 6 < m
    · have HR := Lib.hid (show recOfR p U L = none by rw [HE.out, HD.out, if_neg (by omega)])
      have h6i : (6 : Int) < (m : Int) := by omega
      go_wp2_with (fail)
      refine bodyPost_ret (v := .tuple #[.agg #[.int .i64 0, .slice none 0 0, .slice none 0 0], .bool false]) (by simp [results, Tryd.f16, go_sem, x0, x1, x2]) rfl ?_
      rw [HR.out]
      exact madeb_no (below_more HB2.out HN.out) (by omega)
    have hd6 : m ≤ 6 := by omega
    have hmd : m ≤ m := by omega
    obtain ⟨TL, hTL⟩ : ∃ TL, recOfT p Y m = TL := ⟨_, rfl⟩
    obtain ⟨FT, hFT⟩ : ∃ FT, frT p X Y m = FT := ⟨_, rfl⟩
    have HR := Lib.hid (show recOfR p U L = some (p, TL, FT) by rw [HE.out, HD.out, if_pos hd6, hTL, hFT])
    have HTL := Lib.hid (show TL.length = m by rw [← hTL, recOfT_len])
    have HFL := Lib.hid (show FT.length = m by rw [← hFT, frT_len])
    have HFT := Lib.hid hFT
    have HTG := Lib.hid (show ∀ j, j < m → TL[j]? = some (-(co Y (j + 1)) % p) from fun j hj => by rw [← hTL]; exact recOfT_get p Y hj)
    have h6n : ¬ (6 : Int) < (m : Int) := by omega
    clear hTL hFT
    go_wp2_with (fail)
    go_upto_region 7 with (fail)
    have HRLd := Lib.hid ((HRL.out.below HN.out).below (below_new_drew _))
    have HZ3 := Lib.hid (show (w2.alloc (.cells #[.int .i64 p, .slice A3 k c3, .slice (some ⟨b4, 0, none⟩) (m + 1) c4] 27)).heap.size = w2.heap.size + 1 by simp)
    have HZ3d := Lib.hid (show (w2.alloc (.cells #[.int .i64 p, .slice A3 k c3, .slice (some ⟨b4, 0, none⟩) (m + 1) c4] 27)).drew.heap.size = w2.heap.size + 1 by simp)
    go_cut [6] (fun v wx => ∃ (g6 : Nat) (A8 : Option Addr) (c8 : Nat), v = .pointer (some ⟨g6, 0, none⟩) ∧ BxW wx g6 (.int .i64 p) (.slice none 0 0) (.slice A8 m c8) ∧ OI wx (w2.heap.size + 1) A8 m c8 FT ∧ (∀ g, (Value.slice A8 m c8).ownBlock = some g → ¬ g = g6) ∧ w2.heap.size + 1 ≤ g6 ∧ Below (w2.heap.size + 1) (w2.alloc (.cells #[.int .i64 p, .slice A3 k c3, .slice (some ⟨b4, 0, none⟩) (m + 1) c4] 27)) wx)
    case first =>
      have ZS := And.intro (HBX2.out.below HN.out).1 HBL.out
      have Zd := And.intro (HBX2.out.below HN.out).drew.1 HBL.out.drew
      unfold Bx at ZS Zd
      have hfar : ∀ (W : World) (g g' o1 o2 : Nat) (v : Value), g ≠ g' → (W.setCell ⟨g', o1, none⟩ v).cell? ⟨g, o2, none⟩ = W.cell? ⟨g, o2, none⟩ := fun W g g' o1 o2 v hg => World.cell?_setCell_far _ _ _ _ (by show g' ≠ g; omega)
      have HWd := Lib.hid (below_new_drew (w2.alloc (.cells #[.int .i64 p, .slice A3 k c3, .slice (some ⟨b4, 0, none⟩) (m + 1) c4] 27)))
      go_region_held3 (fun w' => w'.cell? ⟨w.heap.size, 0, none⟩ = some (.int .i64 p) ∧ w'.cell? ⟨w2.heap.size, 0, none⟩ = some (.int .i64 p) ∧ w'.cell? ⟨w2.heap.size, 1, none⟩ = some (.slice A3 k c3) ∧ w'.cell? ⟨w2.heap.size, 2, none⟩ = some (.slice (some ⟨b4, 0, none⟩) (m + 1) c4)) (first | assumption | exact ZA | exact Zd | exact ZS | (refine ⟨?_, ?_, ?_, ?_⟩ <;> (simp (disch := omega) only [hfar]; first | exact ZA.1 | exact ZA.2.1 | exact ZA.2.2.1 | exact ZA.2.2.2)) | go_keep)
        ((go_at_call 39; refine (specL4 _ p X Y m _ (by first | exact HRLd.out | exact HRLd.out.below (below_new _ _)) HLF.out (by omega)).mono ?_; rw [HFT.out, HFL.out]; rintro e w4 ⟨A8, c8, rfl, hO, hB⟩; have hB' : Below (w2.alloc (.cells #[.int .i64 p, .slice A3 k c3, .slice (some ⟨b4, 0, none⟩) (m + 1) c4] 27)).drew.heap.size (w2.alloc (.cells #[.int .i64 p, .slice A3 k c3, .slice (some ⟨b4, 0, none⟩) (m + 1) c4] 27)).drew w4 := (by first | exact hB | exact below_more (below_new _ (.cells #[.int .i64 0, .slice none 0 0, .slice none 0 0] 29)) hB); (first | have HLB := Lib.hid (show BxW w4 (w2.heap.size + 1) (.int .i64 0) (.slice none 0 0) (.slice none 0 0) by have h := BxW.new (w2.alloc (.cells #[.int .i64 p, .slice A3 k c3, .slice (some ⟨b4, 0, none⟩) (m + 1) c4] 27)).drew (.int .i64 0) (.slice none 0 0) (.slice none 0 0) 29; rw [HZ3d.out] at h; exact h.below hB) | skip); have HO8 := Lib.hid hO; have HB8 := Lib.hid hB'; have hz4 := hB'.size; have ZA := And.intro ((HBX2.out.below HN.out).drew.below hB').1 (HBL.out.drew.below hB'); unfold Bx at ZA; (first | (obtain ⟨z0, z1, z2⟩ := HLB.out.c; have zf := HLB.out.fz; have hzl := HLB.out.c.lt) | skip); clear hO hB hB'))
      all_goals
        go_wp2_with (fail)
        go_meet
        have hq4 : w2.heap.size + 1 ≤ w4.heap.size := by have h := hz4; simp at h; omega
        have HBw := Lib.hid (show Below (w2.heap.size + 1) (w2.alloc (.cells #[.int .i64 p, .slice A3 k c3, .slice (some ⟨b4, 0, none⟩) (m + 1) c4] 27)) w4 from by have h := below_more (below_new_drew (w2.alloc (.cells #[.int .i64 p, .slice A3 k c3, .slice (some ⟨b4, 0, none⟩) (m + 1) c4] 27))) HB8.out; rwa [HZ3.out] at h)
        first
          | exact ⟨_, A8, c8, rfl, HLB.out.put3 _ _ _, owns_mono (OIk HO8.out (set3_keep _ _ _ _ _) (fun k' hk e => by have := (HO8.out.lt k' hk).1; (simp at this; omega))) (by simp), (fun g hg e => by have := (HO8.out.lt g hg).1; (simp at this; omega)), Nat.le_refl _, HBw.out.trans (set3_far _ _ _ _ _ (Nat.le_refl _) hq4)⟩
          | exact ⟨w4.heap.size, A8, c8, rfl, BxW.new _ _ _ _ _, owns_mono (OIb HO8.out (below_new _ _)) (by simp), (fun g hg e => by have := (HO8.out.lt g hg).2; omega), hq4, HBw.out.trans ((below_new w4 _).mono hq4)⟩
          | trace_state
    case rest =>
    obtain ⟨g6, A8, c8, rfl, hbx, hO8, hne8, hg6, hB8⟩ := hcut
    obtain ⟨wo, rfl⟩ : ∃ wo : World, wo = wc := ⟨_, rfl⟩
    have HBX6 := Lib.hid hbx
    have HO8 := Lib.hid hO8
    have HNE := Lib.hid hne8
    have HB8 := Lib.hid hB8
    have hg6l := hbx.c.lt
    have hs8 := hB8.size
    rw [HZ3.out] at hs8
    have HB8' := Lib.hid (show Below (w2.alloc (.cells #[.int .i64 p, .slice A3 k c3, .slice (some ⟨b4, 0, none⟩) (m + 1) c4] 27)).heap.size (w2.alloc (.cells #[.int .i64 p, .slice A3 k c3, .slice (some ⟨b4, 0, none⟩) (m + 1) c4] 27)) wo by rw [HZ3.out]; exact hB8)
    have HBLo := Lib.hid (HBL.out.below HB8'.out)
    have HBXo := Lib.hid ((HBX2.out.below HN.out).below HB8'.out)
    have HBWo := Lib.hid (HBW3.out.below HB8'.out)
    have HI4o := Lib.hid ((HI4.out.below HN.out).below HB8'.out)
    have hlo := HBX2.out.lt
    clear hbx hO8 hne8 hB8 x0 x1 x2 fz
    go_wp2_with (fail)
    go_loopw [7] (fun i wr => ∃ (j : Nat) (At : Option Addr) (ct : Nat), j ≤ m ∧ i = .int .i64 ((j : Int) + 1) ∧ OI wr wo.heap.size At j ct (TL.take j) ∧ BxW wr g6 (.int .i64 p) (.slice At j ct) (.slice A8 m c8) ∧ Keep (fun g => g = g6 ∨ wo.heap.size ≤ g) wo wr) (fun i _ => m + 1 - (intOf i).toNat)
    case atStart => exact ⟨0, none, 0, by omega, rfl, World.ownsRow_nil _ _ _ _, HBX6.out, Keep.refl _ _⟩
    case round =>
      obtain ⟨j, At, ct, hj, rfl, hown, hbox, hkeep⟩ := hrel
      have hsr := hkeep.size
      have HO := Lib.hid hown
      have HBXW := Lib.hid hbox
      have HK := Lib.hid hkeep
      have kp : ∀ g, g < wo.heap.size → g ≠ g6 → ¬ (g = g6 ∨ wo.heap.size ≤ g) := fun g h1 h2 h3 => by omega
      have HBLr := Lib.hid (HBLo.out.keep HK.out (kp _ HBLo.out.lt (by omega)))
      have HBXr := Lib.hid (HBXo.out.keep HK.out (kp _ HBXo.out.lt (by omega)))
      have HBWr := Lib.hid (HBWo.out.keep HK.out (kp _ HBWo.out.c.lt (by omega)))
      obtain ⟨q0, q1, q2⟩ := hbox.c
      have qf := hbox.fz
      obtain ⟨r0, r1, r2⟩ := HBLr.out
      have y0 := HBXr.out.1
      clear hown hbox hkeep
      by_cases hlt : j < m
      · have hmono : ∀ (u : Int), TL[j]? = some u → TL.take j ++ [u] = TL.take (j + 1) := fun u hu => by rw [List.take_add_one, hu]; rfl
        have HMO := Lib.hid hmono
        have hle : (j : Int) + 1 ≤ (m : Int) := by omega
        by_cases hjm : j < m
        · have hne4 : b4 ≠ g6 := by
            obtain ⟨_, _, hc0⟩ := HI4.out.cell 0 (by omega)
            have : b4 < w2.heap.size := cell_lt hc0
            omega
          obtain ⟨y, hy, hcy⟩ := HI4o.out.cell (j + 1) (by omega)
          have hcy := HK.out.cell hcy (kp _ (cell_lt hcy) hne4)
          rw [Nat.zero_add] at hcy
          have hyb := numB_bd (HYV.out y (List.mem_of_getElem? hy))
          obtain ⟨u, hu⟩ : ∃ u, -y % p = u := ⟨_, rfl⟩
          have hyc := HMO.out u (by rw [HTG.out j hlt, show co Y (j + 1) = y from getD_at hy, hu])
          have HYC := Lib.hid hyc
          have HU := Lib.hid hu
          have hwn : IntKind.i64.wrap (-y) = -y := IntWalk.i64_in _ ⟨by omega, by omega⟩
          have hp2 := hyb.2.2.1
          have hp13 := hyb.2.2.2
          have hltm : (j : Int) + 1 < (m : Int) + 1 := by omega
          have hlt0 : (0 : Int) ≤ (j : Int) + 1 := by omega
          have hltm2 : (j : Int) < (m : Int) := by omega
          have hcy' : wr.cell? ⟨b4, j + 1, none⟩ = some (.int .i64 y) := hcy
          clear hy hu hyc hmono hyb hcy
          go_wp2_with (fail)
          have Z0 := And.intro y0 (And.intro r2 hcy')
          have Zd : wr.drew.cell? ⟨w.heap.size, 0, none⟩ = some (.int .i64 p) ∧ wr.drew.cell? ⟨w2.heap.size, 2, none⟩ = some (.slice (some ⟨b4, 0, none⟩) (m + 1) c4) ∧ wr.drew.cell? ⟨b4, j + 1, none⟩ = some (.int .i64 y) := Z0
          go_region_held3 (fun w' => w'.cell? ⟨w.heap.size, 0, none⟩ = some (.int .i64 p) ∧ w'.cell? ⟨w2.heap.size, 2, none⟩ = some (.slice (some ⟨b4, 0, none⟩) (m + 1) c4) ∧ w'.cell? ⟨b4, j + 1, none⟩ = some (.int .i64 y)) (first | assumption | exact Zd | exact Z0 | go_keep)
            ((go_at_call 24; refine (l1Mod_is HU.out _ (by omega) (by omega)).mono ?_; rintro e wL ⟨rfl, rfl⟩))
          all_goals
            go_wp2_with (at_builtin; refine wpList_app_int rfl (.tmp 57) (.tmp 59) rfl wo.heap.size At j ct (TL.take j) rfl (owns_below (World.ownsRow.alloc HO.out _) (below_new_drew _)) u wr.heap.size 1 rfl (by simp [go_sem]) (by omega) (by simp; omega) ?_; intro A6 c6 w6 hO6 hK6; have hK6' : Keep (fun g => (Value.slice At j ct).ownBlock = some g) wr w6 := ((keep_of_below (((Below.refl _ wr).alloc (Nat.le_refl _) _).drew)).mono (fun _ _ h => h.elim)).trans hK6; have HO6 := Lib.hid hO6; have HK6 := Lib.hid hK6'; have hb6 := HBXW.out.keep hK6' (fun e => by have := (HO.out.lt g6 e).1; omega); have HB6 := Lib.hid hb6; obtain ⟨q0, q1, q2⟩ := hb6.c; have qf := hb6.fz; clear hO6 hK6 hK6' hb6)
            have hne6 : ∀ g, (Value.slice A6 (j + 1) c6).ownBlock = some g → ¬ g = g6 := fun g hg e => by have := (HO6.out.lt g hg).1; omega
            go_wp2_with (fail)
            go_roundw
            case rel =>
              have ho := OIk HO6.out (setCell_keep w6 ⟨g6, 1, none⟩ (.slice A6 (j + 1) c6)) (fun g hg e => hne6 g hg e)
              rw [HYC.out] at ho
              exact ⟨j + 1, A6, c6, by omega, by go_num, ho, HB6.out.set1 _, (HK.out.trans (HK6.out.mono (fun g _ hg => .inr (HO.out.lt g hg).1))).trans ((setCell_keep w6 ⟨g6, 1, none⟩ _).mono (fun g _ hg => .inl hg))⟩
            case measure => simp [intOf]; omega
        · exact absurd hlt hjm
      · obtain rfl : j = m := by omega
        have e : TL.take j = TL := List.take_of_length_le (by rw [HTL.out]; exact Nat.le_refl _)
        rw [e] at HO
        obtain ⟨x0, x1, x2⟩ := HBWr.out.c
        have fz := HBWr.out.fz
        have HO8r := Lib.hid (OIk HO8.out HK.out (fun g hg => kp g (HO8.out.lt g hg).2 (HNE.out g hg)))
        have hBf := HB8.out.trans (HK.out.below (B := w2.heap.size + 1) hs8 (fun g hg => by omega))
        rw [← HZ3.out] at hBf
        have HBf := Lib.hid (below_more HB2.out (below_more HN.out hBf))
        clear e hBf
        go_wp2_with (fail)
        refine bodyPost_ret (v := .tuple #[.agg #[.int .i64 p, .slice At j ct, .slice A8 j c8], .bool true]) (by simp [results, Tryd.f16, go_sem, x0, x1, x2]) rfl ?_
        rw [HR.out]
        refine madeb_put (R := some (p, TL, FT)) (B := w2.heap.size + 1) (g := w.heap.size + 1) ⟨At, ct, A8, c8, by rw [show ((some (p, TL, FT)).getD (0, [], [])).2.1.length = _ from HTL.out, show ((some (p, TL, FT)).getD (0, [], [])).2.2.length = _ from HFL.out]; rfl, by rw [show ((some (p, TL, FT)).getD (0, [], [])).2.1.length = _ from HTL.out]; exact owns_mono HO.out (by omega), by rw [show ((some (p, TL, FT)).getD (0, [], [])).2.2.length = _ from HFL.out]; exact HO8r.out, ?_⟩ HBf.out (by omega) (by omega) (by omega)
        rw [show ((some (p, TL, FT)).getD (0, [], [])).2.1.length = _ from HTL.out, show ((some (p, TL, FT)).getD (0, [], [])).2.2.length = _ from HFL.out]
        rcases hob : (Value.slice At j ct).ownBlock with _ | g
        · exact .inl hob
        · refine .inr (fun e => ?_)
          rw [hob] at e
          have h1 := (HO.out.lt g hob).1
          have h2 := (HO8.out.lt g e.symm).2
          omega
end Go.Proofs.YtbpndmcejbiedaaDoor
namespace Go.Proofs.YtbpndmcejbiedaaDoor
open Go.RowKit
def leastRecR (p : Int) (T F : List Int) : Int × List Int × List Int := (recOfR (fracOfR p T F).1 (fracOfR p T F).2.1 (fracOfR p T F).2.2).getD (0, [], [])
theorem leastRecR_len (p : Int) (T F : List Int) : (leastRecR p T F).2.1.length ≤ 1048576 ∧ (leastRecR p T F).2.2.length ≤ 1048576 := recOfR_len _ _ _
theorem leastRecR_no {p : Int} {T F : List Int} (h : recB p T F = false) : leastRecR p T F = (0, [], []) := by
  unfold leastRecR fracOfR
  rw [if_neg (by simp [h])]
  unfold recOfR
  rw [if_neg (fun e => by have := (fracB_true e.1).2.2.2.2.1; simp at this)]
  rfl
set_option maxRecDepth 100000 in
set_option maxHeartbeats 4000000 in
theorem implRecLeast (v : Value) (p : Int) (T F : List Int) (w : World) (h : RV w v p T F) (ge : Addr) (hge : GE w ge) :
    Calls Tryd.prog 21 #[v] w (MadeR (leastRecR p T F).1 (leastRecR p T F).2.1 (leastRecR p T F).2.2 w) := by
  obtain ⟨A, n, c, b, o, A', n', c', b', o', rfl, g1, g2⟩ := h
  have hbx := (Bx.new w (.int .i64 p) (.slice A n c) (.slice A' n' c') 29).below (below_new _ (.cells #[.int .i64 0, .slice none 0 0, .slice none 0 0] 29))
  have hbw := BxW.new (w.alloc (.cells #[.int .i64 p, .slice A n c, .slice A' n' c'] 29)) (.int .i64 0) (.slice none 0 0) (.slice none 0 0) 29
  rw [World.size_alloc] at hbw
  have hB0 := ((Below.refl w.heap.size w).alloc (Nat.le_refl _) (.cells #[.int .i64 p, .slice A n c, .slice A' n' c'] 29)).alloc (by simp) (.cells #[.int .i64 0, .slice none 0 0, .slice none 0 0] 29)
  have HV0 := Lib.hid (show RV _ (.agg #[.int .i64 p, .slice A n c, .slice A' n' c']) p T F from ⟨_, _, _, _, _, _, _, _, _, _, rfl, g1.below hB0, g2.below hB0⟩)
  have HBX := Lib.hid hbx
  have HBW := Lib.hid hbw
  have HG0 := Lib.hid (hge.below hB0)
  have HB0 := Lib.hid hB0
  clear hge g1 g2 hbx hbw hB0
  rcases hv : recB p T F
  · have HV := Lib.hid hv
    have HE := Lib.hid (leastRecR_no hv)
    clear hv
    go_enter Tryd.func21, Tryd.ntmps21
    go_wp2_with (go_at_call 29; refine (implRecValid _ p T F _ HV0.out).mono ?_; rintro e w1 ⟨rfl, hB⟩; rw [HV.out]; have HB1 := Lib.hid (below_more HB0.out hB); have hbw := HBW.out.below hB; have x0 := hbw.c.1; have x1 := hbw.c.2.1; have x2 := hbw.c.2.2; have fz := hbw.fz; clear hB hbw)
    refine bodyPost_ret (v := .agg #[.int .i64 0, .slice none 0 0, .slice none 0 0]) (by simp [results, Tryd.f21, go_sem, x0, x1, x2]) rfl ?_
    rw [HE.out]
    exact made_zero HB1.out (by omega)
  have HV := Lib.hid hv
  obtain ⟨⟨FP, FU, FL⟩, hF⟩ : ∃ R, fracOfR p T F = R := ⟨_, rfl⟩
  obtain ⟨⟨RP, RT, RF⟩, hR⟩ : ∃ R, leastRecR p T F = R := ⟨_, rfl⟩
  have HF := Lib.hid hF
  have HR := Lib.hid hR
  have HRR := Lib.hid (show (recOfR FP FU FL).getD (0, [], []) = (RP, RT, RF) by have h := hR; unfold leastRecR at h; rw [hF] at h; exact h)
  clear hv hF hR
  go_enter Tryd.func21, Tryd.ntmps21
  go_wp2_with (go_at_call 29; refine (implRecValid _ p T F _ HV0.out).mono ?_; rintro e w1 ⟨rfl, hB⟩; rw [HV.out]; have HB1 := Lib.hid (below_more HB0.out hB); have HBW1 := Lib.hid (HBW.out.below hB); have HBX1 := Lib.hid (HBX.out.below hB); have HVa := Lib.hid (HV0.out.below hB); have HG1 := Lib.hid (HG0.out.below hB); have y0 := HBX1.out.1; have y1 := HBX1.out.2.1; have y2 := HBX1.out.2.2; clear hB)
  refine (implFracOf _ p T F _ HVa.out ge HG1.out).mono ?_
  rw [HF.out]
  rintro e w2 ⟨v9, rfl, hO, hB⟩
  have HO9 := Lib.hid hO.rv
  have HB2 := Lib.hid (below_more HB1.out hB)
  have HBW2 := Lib.hid (HBW1.out.below hB)
  have HG2 := Lib.hid (HG1.out.below hB)
  clear hO hB y0 y1 y2
  go_wp2_with (fail)
  refine (implRecOf v9 FP FU FL _ HO9.out ge HG2.out).mono ?_
  rintro e w3 ⟨v8, rfl, hO, hB⟩
  rw [HRR.out] at hO
  obtain ⟨A3, c3, A4, c4, rfl, hO1, hO2, hap⟩ := hO
  have HRO := Lib.hid (show RO w3 w2.heap.size (.agg #[.int .i64 RP, .slice A3 RT.length c3, .slice A4 RF.length c4]) RP RT RF from ⟨A3, c3, A4, c4, rfl, hO1, hO2, hap⟩)
  have hs2 := HB2.out.size
  have hlo2 := HBW2.out.c.lt
  have HB3 := Lib.hid (below_more HB2.out hB)
  have HBW3 := Lib.hid ((HBW2.out.below hB).below (below_new w3 (.cells #[.int .i64 RP, .slice A3 RT.length c3, .slice A4 RF.length c4] 29)))
  obtain ⟨x0, x1, x2⟩ := HBW3.out.c
  have fz := HBW3.out.fz
  clear hO1 hO2 hap hB
  go_wp2_with (fail)
  refine bodyPost_ret (v := .agg #[.int .i64 RP, .slice A3 RT.length c3, .slice A4 RF.length c4]) (by simp [results, Tryd.f21, go_sem, x0, x1, x2]) rfl ?_
  rw [HR.out]
  exact made_put (g := w.heap.size + 1) (HRO.out.below (below_new w3 _)) (below_more HB3.out (below_new w3 _)) hs2 (by omega) hlo2
set_option maxRecDepth 100000 in
set_option maxHeartbeats 4000000 in
theorem specRecLeast (v : Value) (p : Int) (T F : List Int) (w : World) (h : RV w v p T F) :
    Calls Tryd.prog 20 #[v] w (MadeR (leastRecR p T F).1 (leastRecR p T F).2.1 (leastRecR p T F).2.2 w) := by
  obtain ⟨A, n, c, b, o, A', n', c', b', o', rfl, g1, g2⟩ := h
  have hbw := BxW.new (w.alloc (.cells #[.int .i64 p, .slice A n c, .slice A' n' c'] 29)) (.int .i64 0) (.slice none 0 0) (.slice none 0 0) 29
  rw [World.size_alloc] at hbw
  have hB0 := ((Below.refl w.heap.size w).alloc (Nat.le_refl _) (.cells #[.int .i64 p, .slice A n c, .slice A' n' c'] 29)).alloc (by simp) (.cells #[.int .i64 0, .slice none 0 0, .slice none 0 0] 29)
  have HV0 := Lib.hid (show RV _ (.agg #[.int .i64 p, .slice A n c, .slice A' n' c']) p T F from ⟨_, _, _, _, _, _, _, _, _, _, rfl, g1.below hB0, g2.below hB0⟩)
  have HBW := Lib.hid hbw
  have HB0 := Lib.hid hB0
  clear g1 g2 hbw hB0
  obtain ⟨⟨FP, FU, FL⟩, hF⟩ : ∃ R, fracOfR p T F = R := ⟨_, rfl⟩
  obtain ⟨⟨RP, RT, RF⟩, hR⟩ : ∃ R, leastRecR p T F = R := ⟨_, rfl⟩
  have HF := Lib.hid hF
  have HR := Lib.hid hR
  have HRR := Lib.hid (show (recOfR FP FU FL).getD (0, [], []) = (RP, RT, RF) by have h := hR; unfold leastRecR at h; rw [hF] at h; exact h)
  clear hF hR
  go_enter Tryd.func20, Tryd.ntmps20
  go_wp2_with (fail)
  refine (specFracOf _ p T F _ HV0.out).mono ?_
  rw [HF.out]
  rintro e w2 ⟨v9, rfl, hO, hB⟩
  have HO9 := Lib.hid hO.rv
  have HB2 := Lib.hid (below_more HB0.out hB)
  have HBW2 := Lib.hid (HBW.out.below hB)
  clear hO hB
  go_wp2_with (fail)
  refine (specRecOf v9 FP FU FL _ HO9.out).mono ?_
  rintro e w3 ⟨v8, rfl, hO, hB⟩
  rw [HRR.out] at hO
  obtain ⟨A3, c3, A4, c4, rfl, hO1, hO2, hap⟩ := hO
  have HRO := Lib.hid (show RO w3 w2.heap.size (.agg #[.int .i64 RP, .slice A3 RT.length c3, .slice A4 RF.length c4]) RP RT RF from ⟨A3, c3, A4, c4, rfl, hO1, hO2, hap⟩)
  have hs2 := HB2.out.size
  have hlo2 := HBW2.out.c.lt
  have HB3 := Lib.hid (below_more HB2.out hB)
  have HBW3 := Lib.hid ((HBW2.out.below hB).below (below_new w3 (.cells #[.int .i64 RP, .slice A3 RT.length c3, .slice A4 RF.length c4] 29)))
  obtain ⟨x0, x1, x2⟩ := HBW3.out.c
  have fz := HBW3.out.fz
  clear hO1 hO2 hap hB
  go_wp2_with (fail)
  refine bodyPost_ret (v := .agg #[.int .i64 RP, .slice A3 RT.length c3, .slice A4 RF.length c4]) (by simp [results, Tryd.f20, go_sem, x0, x1, x2]) rfl ?_
  rw [HR.out]
  exact made_put (g := w.heap.size + 1) (HRO.out.below (below_new w3 _)) (below_more HB3.out (below_new w3 _)) hs2 (by omega) hlo2
end Go.Proofs.YtbpndmcejbiedaaDoor

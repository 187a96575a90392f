/-
  The contracts of the model's l4Terms, FracTerms.
-/
import Derived.Test.YtllakclbgmingaaDoorFrT
import Derived.Test.YtllakclbgmingaaDoorSBack
import Derived.Test.YtllakclbgmingaaDoorFrW
namespace Go.Proofs.YtllakclbgmingaaDoor
open Go.RowKit
theorem begL_stop {L : List Int} {k m : Nat} (hk : k ≤ m) (h : m ≤ k ∨ L.length ≤ k) : (begL L m).take k ++ List.replicate (m - k) 0 = begL L m := by
  refine list_of_co (by rw [begL_len, List.length_append, List.length_take, List.length_replicate, begL_len]; omega) (fun j hj => ?_)
  have hj' : j < m := by rw [List.length_append, List.length_take, List.length_replicate, begL_len] at hj; omega
  rw [co_append, List.length_take, begL_len]
  by_cases e : j < min k m
  · rw [if_pos e, co_take (by omega)]
  · rw [if_neg e, co_begL L hj', co_far (f := L) (by omega)]
    unfold co
    rw [List.getD_eq_getElem?_getD, List.getElem?_replicate]
    split <;> rfl
set_option maxRecDepth 100000 in
set_option maxHeartbeats 2000000 in
theorem specL4 (v : Value) (p : Int) (U L : List Int) (m : Nat) (w : World) (h : RV w v p U L) (hv : fracB p U L = true) (hm : m ≤ 24) :
    Calls Tryd.prog 38 #[v, .int .i64 m] w (MadeI (frT p U L m).length (frT p U L m) w) := by
  obtain ⟨A, n, c, b, o, A', n', c', b', o', rfl, g1, g2⟩ := h
  have hbig := g1.big
  have hbig' := g2.big
  obtain ⟨W0, hW0⟩ : ∃ W0, w.alloc (.cells #[.int .i64 p, .slice A n c, .slice A' n' c'] 25) = W0 := ⟨_, rfl⟩
  have hB0 : Below w.heap.size w W0 := by rw [← hW0]; exact below_new _ _
  have hbx : Bx W0 w.heap.size (.int .i64 p) (.slice A n c) (.slice A' n' c') := by rw [← hW0]; exact Bx.new w _ _ _ _
  have HL := Lib.hid g1.len
  have HL' := Lib.hid g2.len
  have H := Lib.hid (g1.below hB0)
  have H' := Lib.hid (g2.below hB0)
  have HB0 := Lib.hid hB0
  have HBX := Lib.hid hbx
  have hmk := run_make_row' (P := Tryd.prog) 23 3 (.int .i64 0) 8 Tryd.underlying23 infoInt rfl .i64 .i64 m (by omega) (by omega)
  obtain ⟨hu, hl, hU12, hL12, hl0, hl1⟩ := fracB_true hv
  have hp := (serB_true (polB_ser hu)).1
  have HP := Lib.hid hp
  have HUV := Lib.hid (serB_true (polB_ser hu)).2.2
  have HLV := Lib.hid (serB_true (polB_ser hl)).2.2
  have HL1 := Lib.hid hl1
  have hn12 : n ≤ 12 := by rw [← HL.out]; exact hU12
  have hn12' : n' ≤ 12 := by rw [← HL'.out]; exact hL12
  obtain ⟨BL, hBL⟩ : ∃ BL, begL L m = BL := ⟨_, rfl⟩
  have HBL := Lib.hid hBL
  have hBll : BL.length = m := by rw [← hBL, begL_len]
  have HBLL := Lib.hid hBll
  clear g1 g2 hB0 hbx hv hu hl hl0 hl1 hp hU12 hL12 hBL hBll
  go_enter Tryd.func38, Tryd.ntmps38
  go_wp2_with (fail)
  clear hW0
  go_loopw [6] (fun i wr => ∃ k : Nat, k ≤ m ∧ i = .int .i64 (k : Int) ∧ OI wr W0.heap.size (some ⟨W0.heap.size, 0, none⟩) m m (BL.take k ++ List.replicate (m - k) 0) ∧ Below W0.heap.size W0 wr) (fun i _ => m - (intOf i).toNat)
  case atStart => exact ⟨0, by omega, rfl, by simpa using made_ints W0 m (by omega), below_new _ _⟩
  case round =>
    obtain ⟨k, hk, rfl, hown, hbel⟩ := hrel
    obtain ⟨x0, x1, x2⟩ := HBX.out.below hbel
    have HB := Lib.hid hbel
    by_cases hlt : k < m ∧ k < n'
    · obtain ⟨hlt1, hlt2⟩ := hlt
      obtain rfl := H'.out.adr (by omega)
      obtain ⟨y, hy, hc⟩ := (H'.out.below hbel).cell k hlt2
      have hyc : BL[k]? = some y := by rw [← HBL.out, begL_get L hlt1, show co L k = y from getD_at hy]
      have hcell := World.ownsRow.cellAt hown k (by omega)
      have hfr := World.ownsRow.frozenAt hown k
      have hst := World.ownsRow.stored hown k (.int .i64 y)
      have hmx : (BL.take k ++ List.replicate (m - k) 0).set k y = BL.take (k + 1) ++ List.replicate (m - (k + 1)) 0 := by
        have := set_step BL (List.replicate m 0) k y (by rw [HBLL.out, List.length_replicate]) hyc
        rwa [List.drop_replicate, List.drop_replicate] at this
      rw [ints_set, hmx] at hst
      obtain ⟨v0, hv0⟩ : ∃ v0, wr.cell? ⟨W0.heap.size, k, none⟩ = some v0 := by
        rw [hcell]; exact ⟨_, List.getElem?_eq_getElem (by simp only [ints, List.length_map, List.length_append, List.length_take, List.length_replicate, HBLL.out]; omega)⟩
      have HO := Lib.hid hst.1
      have HB2 := Lib.hid (hbel.setCell (p := ⟨W0.heap.size, k, none⟩) (Nat.le_refl _) (.int .i64 y))
      clear hy hyc hcell hst hmx hown hbel
      go_wp2_with (fail)
      go_roundw
      case rel => exact ⟨k + 1, by omega, by go_num, HO.out, HB2.out⟩
      case measure => simp [intOf]; omega
    · have hst : BL.take k ++ List.replicate (m - k) 0 = BL := by rw [← HBL.out]; exact begL_stop hk (by rw [HL'.out]; omega)
      rw [hst] at hown
      have HO := Lib.hid hown
      have hsz := hbel.size
      have hs0 := HB0.out.size
      by_cases hm0 : m = 0
      · subst hm0
        have HE := Lib.hid (show frT p U L 0 = [] from rfl)
        obtain rfl : k = 0 := by omega
        clear hst hown hbel
        go_wp2_with (fail)
        go_ret
        rw [HE.out]
        exact ⟨_, _, rfl, owns_mono (OI.empty wr) (by omega), (below_more HB0.out HB.out).alloc (by omega) _⟩
      have hmz : ((m : Int) == 0) = false := by simpa using (by omega : ¬ (m : Int) = 0)
      obtain ⟨e1, e2, e3⟩ := frT_back HP.out HLV.out HL1.out hm (by omega)
      rw [HBL.out] at e1 e2 e3
      obtain ⟨BK, hBK⟩ : ∃ BK, backL p BL = BK := ⟨_, rfl⟩
      rw [hBK] at e1 e2 e3
      have HE1 := Lib.hid e1
      have HE2 := Lib.hid (serB_true e2).2.2
      have HE3 := Lib.hid e3
      have HR := Lib.hid (show frT p U L m = convR p U BK m by unfold frT; rw [HBL.out, hBK])
      obtain ⟨b5, hI⟩ := hown.ia
      have HI := Lib.hid (hI.below (below_new_drew _))
      have HU := Lib.hid ((H.out.below HB.out).below (below_new_drew _))
      have HBd := Lib.hid (below_more HB0.out HB.out).drew
      have hmi : (0 : Int) ≤ (m : Int) := by omega
      by_cases hkm : k < m
      · have hkn : ¬ k < n' := by omega
        have hkn1 : ¬ (k : Int) < (n' : Int) := by omega
        clear e1 e2 e3 hBK hst hown hbel hI hlt
        go_wp2_with (fail)
        have ZS := HBX.out.below HB.out
        have Zd := (HBX.out.below HB.out).drew
        have HBXd := Lib.hid (HBX.out.below HB.out).drew
        unfold Bx at ZS Zd
        go_region_held3 (fun w' => w'.cell? ⟨w.heap.size, 0, none⟩ = some (.int .i64 p) ∧ w'.cell? ⟨w.heap.size, 1, none⟩ = some (.slice A n c) ∧ w'.cell? ⟨w.heap.size, 2, none⟩ = some (.slice A' n' c')) (first | assumption | exact ZB | exact ZA | exact Zd | exact ZS | go_keep)
          (first
            | (go_at_call 53; refine (specSeriesBack p (some ⟨W0.heap.size, 0, none⟩) m m b5 0 BL _ HI.out).mono ?_; rw [HE1.out]; rintro e w3 ⟨A6, c6, rfl, hO, hB⟩; have HB3 := Lib.hid (below_more HBd.out hB); have HBX3 := Lib.hid (HBXd.out.below hB); have HU3 := Lib.hid (HU.out.below hB); have ZA := HBX3.out; unfold Bx at ZA; obtain ⟨b6, hI⟩ := hO.ia; have HI6 := Lib.hid hI; clear hO hB hI)
            | (go_at_call 52; refine (specSeries p A n c b o U A6 BK.length c6 b6 0 BK m _ HU3.out HI6.out HP.out HUV.out HE2.out (by omega) (by rw [HE3.out]; omega) (by omega)).mono ?_; rw [← HR.out]; rintro e w4 ⟨A8, c8, rfl, hO, hB⟩; have HB4 := Lib.hid (below_more HB3.out hB); have HBX4 := Lib.hid (HBX3.out.below hB); have ZB := HBX4.out; unfold Bx at ZB; have HO8 := Lib.hid hO; clear hO hB))
        all_goals
          go_wp2_with (fail)
          go_ret
          exact ⟨A8, c8, rfl, owns_mono HO8.out HB3.out.size, HB4.out⟩
      · have hkn : ¬ (k : Int) < (m : Int) := by omega
        clear e1 e2 e3 hBK hst hown hbel hI hlt
        go_wp2_with (fail)
        have ZS := HBX.out.below HB.out
        have Zd := (HBX.out.below HB.out).drew
        have HBXd := Lib.hid (HBX.out.below HB.out).drew
        unfold Bx at ZS Zd
        go_region_held3 (fun w' => w'.cell? ⟨w.heap.size, 0, none⟩ = some (.int .i64 p) ∧ w'.cell? ⟨w.heap.size, 1, none⟩ = some (.slice A n c) ∧ w'.cell? ⟨w.heap.size, 2, none⟩ = some (.slice A' n' c')) (first | assumption | exact ZB | exact ZA | exact Zd | exact ZS | go_keep)
          (first
            | (go_at_call 53; refine (specSeriesBack p (some ⟨W0.heap.size, 0, none⟩) m m b5 0 BL _ HI.out).mono ?_; rw [HE1.out]; rintro e w3 ⟨A6, c6, rfl, hO, hB⟩; have HB3 := Lib.hid (below_more HBd.out hB); have HBX3 := Lib.hid (HBXd.out.below hB); have HU3 := Lib.hid (HU.out.below hB); have ZA := HBX3.out; unfold Bx at ZA; obtain ⟨b6, hI⟩ := hO.ia; have HI6 := Lib.hid hI; clear hO hB hI)
            | (go_at_call 52; refine (specSeries p A n c b o U A6 BK.length c6 b6 0 BK m _ HU3.out HI6.out HP.out HUV.out HE2.out (by omega) (by rw [HE3.out]; omega) (by omega)).mono ?_; rw [← HR.out]; rintro e w4 ⟨A8, c8, rfl, hO, hB⟩; have HB4 := Lib.hid (below_more HB3.out hB); have HBX4 := Lib.hid (HBX3.out.below hB); have ZB := HBX4.out; unfold Bx at ZB; have HO8 := Lib.hid hO; clear hO hB))
        all_goals
          go_wp2_with (fail)
          go_ret
          exact ⟨A8, c8, rfl, owns_mono HO8.out HB3.out.size, HB4.out⟩
set_option maxRecDepth 100000 in
set_option maxHeartbeats 1000000 in
theorem specFracTerms (v : Value) (p : Int) (U L : List Int) (x : Int) (w : World) (h : RV w v p U L) :
    Calls Tryd.prog 17 #[v, .int .i64 x] w (MadeI (fracT p U L x).length (fracT p U L x) w) := by
  obtain ⟨A, n, c, b, o, A', n', c', b', o', rfl, g1, g2⟩ := h
  have hB0 : Below w.heap.size w (w.alloc (.cells #[.int .i64 p, .slice A n c, .slice A' n' c'] 25)) := (Below.refl _ w).alloc (Nat.le_refl _) _
  have hbig := g1.big
  have hbig' := g2.big
  have HV := Lib.hid (show RV (w.alloc (.cells #[.int .i64 p, .slice A n c, .slice A' n' c'] 25)) (.agg #[.int .i64 p, .slice A n c, .slice A' n' c']) p U L from ⟨_, _, _, _, _, _, _, _, _, _, rfl, g1.below hB0, g2.below hB0⟩)
  have HBX := Lib.hid (Bx.new w (.int .i64 p) (.slice A n c) (.slice A' n' c') 25)
  have HB0 := Lib.hid hB0
  clear g1 g2 hB0
  rcases hv : fracB p U L
  · have HV1 := Lib.hid hv
    have HE := Lib.hid (show fracT p U L x = [] by unfold fracT; rw [if_neg (by simp [hv])])
    clear hv
    go_enter Tryd.func17, Tryd.ntmps17
    go_wp2_with (go_at_call 9; refine (specFracValid _ p U L _ HV.out).mono ?_; rintro e w1 ⟨rfl, hB⟩; rw [HV1.out]; have HB1 := Lib.hid (below_more HB0.out hB); have HBX1 := HBX.out.below hB; have y0 := HBX1.1; have y1 := HBX1.2.1; have y2 := HBX1.2.2; have HW1 := Lib.hid (HV.out.below hB); clear hB HBX1)
    go_ret
    rw [HE.out]; exact ⟨_, _, rfl, owns_mono (OI.empty w1) HB1.out.size, HB1.out.alloc HB1.out.size _⟩
  have HV1 := Lib.hid hv
  by_cases hx : 0 ≤ x ∧ x ≤ 24
  case neg =>
    have HE := Lib.hid (show fracT p U L x = [] by unfold fracT; rw [if_neg (fun h => hx h.2)])
    have HIN := Lib.hid (show inB x 0 24 = false by unfold inB; simp; omega)
    clear hv hx
    go_enter Tryd.func17, Tryd.ntmps17
    go_wp2_with (first | (go_at_call 9; refine (specFracValid _ p U L _ HV.out).mono ?_; rintro e w1 ⟨rfl, hB⟩; rw [HV1.out]; have HB1 := Lib.hid (below_more HB0.out hB); have HBX1 := HBX.out.below hB; have y0 := HBX1.1; have y1 := HBX1.2.1; have y2 := HBX1.2.2; have HW1 := Lib.hid (HV.out.below hB); clear hB HBX1) | (go_at_call 29; (with_reducible refine (specIn _ _ _ _).mono ?_); rintro e w2 ⟨rfl, rfl⟩; rw [HIN.out]))
    go_ret
    rw [HE.out]; exact ⟨_, _, rfl, owns_mono (OI.empty w1) HB1.out.size, HB1.out.alloc HB1.out.size _⟩
  obtain ⟨hx0, hx1⟩ := hx
  obtain ⟨m, rfl⟩ : ∃ m : Nat, x = m := ⟨x.toNat, by omega⟩
  have HE := Lib.hid (fracT_yes hv (show m ≤ 24 by omega))
  have HIN := Lib.hid (show inB (m : Int) 0 24 = true by unfold inB; simp; omega)
  have HVV := Lib.hid hv
  clear hv
  rw [HE.out]
  go_enter Tryd.func17, Tryd.ntmps17
  go_wp2_with (first | (go_at_call 9; refine (specFracValid _ p U L _ HV.out).mono ?_; rintro e w1 ⟨rfl, hB⟩; rw [HV1.out]; have HB1 := Lib.hid (below_more HB0.out hB); have HBX1 := HBX.out.below hB; have y0 := HBX1.1; have y1 := HBX1.2.1; have y2 := HBX1.2.2; have HW1 := Lib.hid (HV.out.below hB); clear hB HBX1) | (go_at_call 29; (with_reducible refine (specIn _ _ _ _).mono ?_); rintro e w2 ⟨rfl, rfl⟩; rw [HIN.out]))
  refine (specL4 _ p U L m _ HW1.out HVV.out (by omega)).mono ?_
  rintro e w3 ⟨A8, c8, rfl, hO, hB⟩
  have HO := Lib.hid hO
  have HB := Lib.hid hB
  clear hO hB
  go_wp2_with (fail)
  go_ret
  exact ⟨A8, c8, rfl, owns_mono HO.out HB1.out.size, below_more HB1.out HB.out⟩
end Go.Proofs.YtllakclbgmingaaDoor

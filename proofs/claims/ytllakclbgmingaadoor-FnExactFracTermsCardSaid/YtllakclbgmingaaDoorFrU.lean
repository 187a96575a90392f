/-
  The contract of FracTerms of the program.
-/
import Derived.Test.YtllakclbgmingaaDoorFrT
namespace Go.Proofs.YtllakclbgmingaaDoor
open Go.RowKit
set_option maxRecDepth 100000 in
set_option maxHeartbeats 2000000 in
theorem implFracTerms (v : Value) (p : Int) (U L : List Int) (x : Int) (w : World) (h : RV w v p U L) (ge : Addr) (hge : GE w ge) :
    Calls Tryd.prog 15 #[v, .int .i64 x] w (MadeI (fracT p U L x).length (fracT p U L x) w) := by
  obtain ⟨A, n, c, b, o, A', n', c', b', o', rfl, g1, g2⟩ := h
  have hB0 : Below w.heap.size w (w.alloc (.cells #[.int .i64 p, .slice A n c, .slice A' n' c'] 25)) := (Below.refl _ w).alloc (Nat.le_refl _) _
  have hbig := g1.big
  have hbig' := g2.big
  have HV := Lib.hid (show RV (w.alloc (.cells #[.int .i64 p, .slice A n c, .slice A' n' c'] 25)) (.agg #[.int .i64 p, .slice A n c, .slice A' n' c']) p U L from ⟨_, _, _, _, _, _, _, _, _, _, rfl, g1.below hB0, g2.below hB0⟩)
  have H := Lib.hid (g1.below hB0)
  have H' := Lib.hid (g2.below hB0)
  have HG := Lib.hid (hge.below hB0)
  have HBX := Lib.hid (Bx.new w (.int .i64 p) (.slice A n c) (.slice A' n' c') 25)
  have HB0 := Lib.hid hB0
  clear g1 g2 hB0 hge
  rcases hv : fracB p U L
  · have HV1 := Lib.hid hv
    have HE := Lib.hid (show fracT p U L x = [] by unfold fracT; rw [if_neg (by simp [hv])])
    clear hv
    go_enter Tryd.func15, Tryd.ntmps15
    go_wp2_with (go_at_call 8; refine (implFracValid _ p U L _ HV.out ge HG.out).mono ?_; rintro e w1 ⟨rfl, hB⟩; rw [HV1.out]; have HB1 := Lib.hid (below_more HB0.out hB); clear hB)
    go_ret
    rw [HE.out]; exact ⟨none, 0, rfl, World.ownsRow_nil _ _ _ _, HB1.out⟩
  have HV1 := Lib.hid hv
  by_cases hx : 0 ≤ x ∧ x ≤ 24
  case neg =>
    have HE := Lib.hid (show fracT p U L x = [] by unfold fracT; rw [if_neg (fun h => hx h.2)])
    clear hv
    by_cases h0 : x < 0
    · clear hx
      go_enter Tryd.func15, Tryd.ntmps15
      go_wp2_with (go_at_call 8; refine (implFracValid _ p U L _ HV.out ge HG.out).mono ?_; rintro e w1 ⟨rfl, hB⟩; rw [HV1.out]; have HB1 := Lib.hid (below_more HB0.out hB); clear hB)
      go_ret
      rw [HE.out]; exact ⟨none, 0, rfl, World.ownsRow_nil _ _ _ _, HB1.out⟩
    · have h1 : 24 < x := by omega
      clear hx
      go_enter Tryd.func15, Tryd.ntmps15
      go_wp2_with (go_at_call 8; refine (implFracValid _ p U L _ HV.out ge HG.out).mono ?_; rintro e w1 ⟨rfl, hB⟩; rw [HV1.out]; have HB1 := Lib.hid (below_more HB0.out hB); clear hB)
      go_ret
      rw [HE.out]; exact ⟨none, 0, rfl, World.ownsRow_nil _ _ _ _, HB1.out⟩
  obtain ⟨hx0, hx1⟩ := hx
  obtain ⟨m, rfl⟩ : ∃ m : Nat, x = m := ⟨x.toNat, by omega⟩
  obtain ⟨hu, hl, _, _, hl0, hl1⟩ := fracB_true hv
  have hp := (serB_true (polB_ser hu)).1
  have HE := Lib.hid (show fracT p U L (m : Int) = serT p (begL U m) (serBk p (begL L m)) from by
    rw [fracT_yes hv (by omega)]
    exact (frT_eq hp (serB_true (polB_ser hu)).2.2 (serB_true (polB_ser hl)).2.2 hl1 (by omega)).symm)
  clear hv hu hl hl0 hl1 hp
  rw [HE.out]
  obtain ⟨BK, hBK⟩ : ∃ BK, serBk p (begL L m) = BK := ⟨_, rfl⟩
  obtain ⟨BL, hBL⟩ : ∃ BL, begL L m = BL := ⟨_, rfl⟩
  obtain ⟨BU, hBU⟩ : ∃ BU, begL U m = BU := ⟨_, rfl⟩
  rw [hBK, hBU]
  rw [hBL] at hBK
  have HBK := Lib.hid hBK
  have HBL := Lib.hid hBL
  have HBU := Lib.hid hBU
  clear hBK hBL hBU
  go_enter Tryd.func15, Tryd.ntmps15
  go_wp2_with (go_at_call 8; refine (implFracValid _ p U L _ HV.out ge HG.out).mono ?_; rintro e w1 ⟨rfl, hB⟩; rw [HV1.out]; have HB1 := Lib.hid (below_more HB0.out hB); have H1 := Lib.hid (H.out.below hB); have H1' := Lib.hid (H'.out.below hB); have HBX1 := HBX.out.below hB; have y0 := HBX1.1; have y1 := HBX1.2.1; have y2 := HBX1.2.2; have HBX1 := Lib.hid HBX1; clear hB)
  have H1d := Lib.hid (H1'.out.below (below_new_drew _))
  have HBd := Lib.hid HB1.out.drew
  have H1u := Lib.hid (H1.out.below (below_new_drew _))
  have ZS := HBX1.out
  have Zd := HBX1.out.drew
  unfold Bx at ZS Zd
  go_region_held3 (fun w' => w'.cell? ⟨w.heap.size, 0, none⟩ = some (.int .i64 p) ∧ w'.cell? ⟨w.heap.size, 1, none⟩ = some (.slice A n c) ∧ w'.cell? ⟨w.heap.size, 2, none⟩ = some (.slice A' n' c')) (first | assumption | exact ZB | exact ZA | exact Zd | exact ZS | go_keep)
    (first
      | (go_at_call 36; refine (beginning_any A' n' c' b' o' L m _ H1d.out (by omega)).mono ?_; rw [HBL.out]; rintro e w2 ⟨A5, c5, rfl, hO, hB⟩; have HB2 := Lib.hid (below_more HBd.out hB); have HBX2 := Lib.hid (HBX1.out.drew.below hB); have H2 := Lib.hid (H1u.out.below hB); have ZA := HBX2.out; unfold Bx at ZA; obtain ⟨b5, hI⟩ := hO.ia; have HI5 := Lib.hid hI; clear hO hB hI)
      | (go_at_call 35; refine (implSeriesBack p A5 BL.length c5 b5 0 BL _ HI5.out).mono ?_; rw [HBK.out]; rintro e w3 ⟨A6, c6, rfl, hO, hB⟩; have HB3 := Lib.hid (below_more HB2.out hB); have HBX3 := Lib.hid (HBX2.out.below hB); have H3 := Lib.hid (H2.out.below hB); have ZB := HBX3.out; unfold Bx at ZB; obtain ⟨b6, hI⟩ := hO.ia; have HI6 := Lib.hid hI; clear hO hB hI))
  all_goals
    clear ZS Zd
    obtain ⟨y0, y1, y2⟩ := HBX3.out
    go_wp2_with (fail)
    have H3d := Lib.hid (H3.out.below (below_new_drew _))
    have HBd3 := Lib.hid HB3.out.drew
    have HI6d := Lib.hid (HI6.out.below (below_new_drew _))
    have ZS := HBX3.out
    have Zd := HBX3.out.drew
    unfold Bx at ZS Zd
    go_region_held3 (fun w' => w'.cell? ⟨w.heap.size, 0, none⟩ = some (.int .i64 p) ∧ w'.cell? ⟨w.heap.size, 1, none⟩ = some (.slice A n c) ∧ w'.cell? ⟨w.heap.size, 2, none⟩ = some (.slice A' n' c')) (first | assumption | exact ZD | exact ZC | exact Zd | exact ZS | go_keep)
      (first
        | (go_at_call 36; refine (beginning_any A n c b o U m _ H3d.out (by omega)).mono ?_; rw [HBU.out]; rintro e w4 ⟨A7, c7, rfl, hO, hB⟩; have HB4 := Lib.hid (below_more HBd3.out hB); have HBX4 := Lib.hid (HBX3.out.drew.below hB); have HI7 := Lib.hid (HI6d.out.below hB); have ZC := HBX4.out; unfold Bx at ZC; obtain ⟨b7, hI⟩ := hO.ia; have HI8 := Lib.hid hI; clear hO hB hI)
        | (go_at_call 37; refine (implSeriesTimes p A7 BU.length c7 b7 0 BU A6 BK.length c6 b6 0 BK _ HI8.out HI7.out).mono ?_; rintro e w5 ⟨A8, c8, rfl, hO, hB⟩; have HB5 := Lib.hid (below_more HB4.out hB); have HBX5 := Lib.hid (HBX4.out.below hB); have ZD := HBX5.out; unfold Bx at ZD; have HO8 := Lib.hid hO; clear hO hB))
    all_goals
      go_wp2_with (fail)
      go_ret
      exact ⟨A8, c8, rfl, owns_mono HO8.out HB4.out.size, HB5.out⟩
end Go.Proofs.YtllakclbgmingaaDoor

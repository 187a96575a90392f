/-
  The contracts of FracLeast, of both sides.
-/
import Derived.Test.YtbpndmcejbiedaaDoorLeK
import Derived.Test.YtbpndmcejbiedaaDoorFrW
import Derived.Test.YtbpndmcejbiedaaDoorSLe
namespace Go.Proofs.YtbpndmcejbiedaaDoor
open Go.RowKit
theorem leastFrac_some (p : Int) (A : Option Addr) (n c b : Nat) (f : List Int) (A' : Option Addr) (n' c' b' : Nat) (g : List Int) (w : World) (h : IT w A n c b p f) (h' : IT w A' n' c' b' p g) (hf : polB p f = true) (hg : polB p g = true) (ge : Addr) (hge : GE w ge) (q : Int) (X Y : List Int) (hR : leastR p f g = some (q, X, Y)) :
    Calls Tryd.prog 32 #[.int .i64 p, .slice A n c, .slice A' n' c'] w fun e w' => ∃ (A3 : Option Addr) (c3 : Nat) (A4 : Option Addr) (c4 : Nat), e = .returned (.tuple #[.agg #[.int .i64 q, .slice A3 X.length c3, .slice A4 Y.length c4], .bool true]) ∧ OI w' w.heap.size A3 X.length c3 X ∧ OI w' w.heap.size A4 Y.length c4 Y ∧ Apart (.slice A3 X.length c3) (.slice A4 Y.length c4) ∧ Below w.heap.size w w' := by
  refine (leastFrac_any p A n c b f A' n' c' b' g w h h' hf hg ge hge).mono ?_
  rw [hR]
  rintro e w' ⟨_, rfl, ⟨A3, c3, A4, c4, rfl, h1, h2, h3⟩, hB⟩
  exact ⟨A3, c3, A4, c4, rfl, h1, h2, h3, hB⟩
theorem RO.put3 {W : World} {B g : Nat} {v x y z : Value} {p : Int} {T F : List Int} (h : RO W B v p T F) (hg : g < B) : RO (set3 W g x y z) B v p T F :=
  h.keep (set3_keep W g x y z) (fun k hk e => by have := (h.lt k hk).1; omega)
theorem BxW.put {W : World} {g : Nat} {a b c : Value} (h : BxW W g a b c) (x y z : Value) : Bx (set3 W g x y z) g x y z := by
  obtain ⟨⟨h0, h1, h2⟩, _⟩ := h
  refine ⟨?_, ?_, ?_⟩
  · unfold set3
    rw [World.cell?_setCell_other _ ⟨g, 2, none⟩ ⟨g, 0, none⟩ _ (by simp), World.cell?_setCell_other _ ⟨g, 1, none⟩ ⟨g, 0, none⟩ _ (by simp)]
    exact World.cell?_setCell_same' _ _ _ (by rw [h0]; rfl)
  · unfold set3
    rw [World.cell?_setCell_other _ ⟨g, 2, none⟩ ⟨g, 1, none⟩ _ (by simp)]
    exact World.cell?_setCell_same' _ _ _ (by rw [World.cell?_setCell_other _ ⟨g, 0, none⟩ ⟨g, 1, none⟩ _ (by simp), h1]; rfl)
  · unfold set3
    exact World.cell?_setCell_same' _ _ _ (by rw [World.cell?_setCell_other _ ⟨g, 1, none⟩ ⟨g, 2, none⟩ _ (by simp), World.cell?_setCell_other _ ⟨g, 0, none⟩ ⟨g, 2, none⟩ _ (by simp), h2]; rfl)
theorem made_put {w W : World} {B g : Nat} {v x y z : Value} {p : Int} {T F : List Int} (hr : RO W B v p T F) (hw : Below w.heap.size w W) (hB : w.heap.size ≤ B) (hg1 : w.heap.size ≤ g) (hg : g < B) : MadeR p T F w (.returned v) (set3 W g x y z) :=
  ⟨v, rfl, (hr.put3 hg).mono hB, hw.trans (set3_far W g x y z hg1 hw.size)⟩
theorem madeb_put {w W : World} {B g : Nat} {v x y z : Value} {R : Option (Int × List Int × List Int)} (hr : RO W B v (R.getD (0, [], [])).1 (R.getD (0, [], [])).2.1 (R.getD (0, [], [])).2.2) (hw : Below w.heap.size w W) (hB : w.heap.size ≤ B) (hg1 : w.heap.size ≤ g) (hg : g < B) : MadeRB R w (.returned (.tuple #[v, .bool R.isSome])) (set3 W g x y z) :=
  ⟨v, rfl, (hr.put3 hg).mono hB, hw.trans (set3_far W g x y z hg1 hw.size)⟩
theorem madeb_no {w W : World} {g : Nat} (hw : Below w.heap.size w W) (hg1 : w.heap.size ≤ g) : MadeRB none w (.returned (.tuple #[.agg #[.int .i64 0, .slice none 0 0, .slice none 0 0], .bool false])) (set3 W g (.int .i64 0) (.slice none 0 0) (.slice none 0 0)) :=
  ⟨_, rfl, ro_zero _ _, hw.trans (set3_far W g _ _ _ hg1 hw.size)⟩
set_option maxRecDepth 100000 in
set_option maxHeartbeats 8000000 in
theorem implFracLeast (v : Value) (p : Int) (U L : List Int) (w : World) (h : RV w v p U L) (ge : Addr) (hge : GE w ge) :
    Calls Tryd.prog 41 #[v] w (MadeR (fracLeastR p U L).1 (fracLeastR p U L).2.1 (fracLeastR p U L).2.2 w) := by
  obtain ⟨A, n, c, b, o, A', n', c', b', o', rfl, g1, g2⟩ := h
  have hbx := (Bx.new w (.int .i64 p) (.slice A n c) (.slice A' n' c') 27).below (below_new _ (.cells #[.int .i64 0, .slice none 0 0, .slice none 0 0] 27))
  have hbw := BxW.new (w.alloc (.cells #[.int .i64 p, .slice A n c, .slice A' n' c'] 27)) (.int .i64 0) (.slice none 0 0) (.slice none 0 0) 27
  rw [World.size_alloc] at hbw
  have hB0 := ((Below.refl w.heap.size w).alloc (Nat.le_refl _) (.cells #[.int .i64 p, .slice A n c, .slice A' n' c'] 27)).alloc (by simp) (.cells #[.int .i64 0, .slice none 0 0, .slice none 0 0] 27)
  have HV := Lib.hid (show RV _ (.agg #[.int .i64 p, .slice A n c, .slice A' n' c']) p U L from ⟨_, _, _, _, _, _, _, _, _, _, rfl, g1.below hB0, g2.below hB0⟩)
  have H := Lib.hid (g1.below hB0)
  have H' := Lib.hid (g2.below hB0)
  have HBX := Lib.hid hbx
  have HBW := Lib.hid hbw
  have HG0 := Lib.hid (hge.below hB0)
  have HB0 := Lib.hid hB0
  clear hge g1 g2 hbx hbw hB0
  rcases hv : fracB p U L
  · have HV1 := Lib.hid hv
    have HE := Lib.hid (show fracLeastR p U L = (0, [], []) by unfold fracLeastR; rw [if_neg (by simp [hv])])
    clear hv
    go_enter Tryd.func41, Tryd.ntmps41
    go_wp2_with (go_at_call 40; refine (implFracValid _ p U L _ HV.out ge HG0.out).mono ?_; rintro e w1 ⟨rfl, hB⟩; rw [HV1.out]; have HB1 := Lib.hid (below_more HB0.out hB); have hbw := HBW.out.below hB; have x0 := hbw.c.1; have x1 := hbw.c.2.1; have x2 := hbw.c.2.2; have fz := hbw.fz; clear hB hbw)
    refine bodyPost_ret (v := .agg #[.int .i64 0, .slice none 0 0, .slice none 0 0]) (by simp [results, Tryd.f41, go_sem, x0, x1, x2]) rfl ?_
    rw [HE.out]
    exact made_zero HB1.out (by omega)
  have HV1 := Lib.hid hv
  obtain ⟨hu, hl, hu12, hl12, hl0, hl1⟩ := fracB_true hv
  have HU := Lib.hid hu
  have HL := Lib.hid hl
  have HUL := Lib.hid (show U.length ≤ 1048576 by omega)
  have HLL := Lib.hid (show L.length ≤ 1048576 by omega)
  have HR := Lib.hid (fracLeastR_eq hv)
  obtain ⟨RP, hRP⟩ : ∃ R, (fracLeastR p U L).1 = R := ⟨_, rfl⟩
  obtain ⟨RT, hRT⟩ : ∃ R, (fracLeastR p U L).2.1 = R := ⟨_, rfl⟩
  obtain ⟨RF, hRF⟩ : ∃ R, (fracLeastR p U L).2.2 = R := ⟨_, rfl⟩
  have HRE := Lib.hid (And.intro hRP (And.intro hRT hRF))
  have HR3 := Lib.hid (show leastR p U L = some (RP, RT, RF) by rw [fracLeastR_eq hv, ← hRP, ← hRT, ← hRF])
  rw [hRP, hRT, hRF]
  clear hv hu hl hu12 hl12 hl0 hl1 hRP hRT hRF
  go_enter Tryd.func41, Tryd.ntmps41
  go_upto_region 3 with (go_at_call 40; refine (implFracValid _ p U L _ HV.out ge HG0.out).mono ?_; rintro e w1 ⟨rfl, hB⟩; rw [HV1.out]; have HB1 := Lib.hid (below_more HB0.out hB); have HV2 := Lib.hid (HV.out.below hB); have HG1 := Lib.hid (HG0.out.below hB); have HW1 := Lib.hid (HBW.out.below hB); have HBX1 := Lib.hid (HBX.out.below hB); have y0 := HBX1.out.1; have y1 := HBX1.out.2.1; have y2 := HBX1.out.2.2; clear hB)
  go_cut [3, 4] (fun v v4 wx => ∃ (gB : Nat) (A3 : Option Addr) (c3 : Nat) (A4 : Option Addr) (c4 : Nat), v = .pointer (some ⟨gB, 0, none⟩) ∧ v4 = .bool true ∧ Bx wx gB (.int .i64 RP) (.slice A3 RT.length c3) (.slice A4 RF.length c4) ∧ OI wx w1.heap.size A3 RT.length c3 RT ∧ OI wx w1.heap.size A4 RF.length c4 RF ∧ Apart (.slice A3 RT.length c3) (.slice A4 RF.length c4) ∧ BxW wx (w.heap.size + 1) (.int .i64 0) (.slice none 0 0) (.slice none 0 0) ∧ Below w.heap.size w wx)
  case first =>
    have HVd := Lib.hid (HV2.out.below (below_new_drew w1))
    have HBd := Lib.hid HB1.out.drew
    have HGd := Lib.hid HG1.out.drew
    have HWd := Lib.hid HW1.out.drew
    have ZS := HBX1.out
    have Zd := HBX1.out.drew
    unfold Bx at ZS Zd
    have hlo := HW1.out.c.lt
    have hfar : ∀ (W : World) (g o o' : Nat) (v : Value), w.heap.size < g → (W.setCell ⟨g, o, none⟩ v).cell? ⟨w.heap.size, o', none⟩ = W.cell? ⟨w.heap.size, o', none⟩ := fun W g o o' v hg => World.cell?_setCell_far _ _ _ _ (by show g ≠ w.heap.size; omega)
    go_region_held3 (fun w' => w'.cell? ⟨w.heap.size, 0, none⟩ = some (.int .i64 p) ∧ w'.cell? ⟨w.heap.size, 1, none⟩ = some (.slice A n c) ∧ w'.cell? ⟨w.heap.size, 2, none⟩ = some (.slice A' n' c')) (first | assumption | exact ZC | exact ZB | exact ZA | exact Zd | exact ZS | (refine ⟨?_, ?_, ?_⟩ <;> (simp (disch := omega) only [hfar]; first | exact ZC.1 | exact ZC.2.1 | exact ZC.2.2)) | go_keep)
      (first
        | (go_at_call 60; refine (upper_any _ p U L _ (by first | exact HVd.out | exact HVd.out.below (below_new _ _)) HUL.out).mono ?_; rintro e w2 ⟨A1, c1, rfl, hO, hB⟩; have hB' : Below w1.drew.heap.size w1.drew w2 := (by first | exact hB | exact below_more (below_new _ (.cells #[.int .i64 0, .slice none 0 0, .slice none 0 0] 27)) hB); (first | have HLB := Lib.hid (show BxW w2 w1.heap.size (.int .i64 0) (.slice none 0 0) (.slice none 0 0) from (BxW.new w1.drew (.int .i64 0) (.slice none 0 0) (.slice none 0 0) 27).below hB) | skip); obtain ⟨b1, hI⟩ := OT.it hO; have hz2 : w1.heap.size ≤ w2.heap.size := hB'.size; have HI1 := Lib.hid hI; have HB2 := Lib.hid (below_more HBd.out hB'); have HV3 := Lib.hid (HVd.out.below hB'); have HG2 := Lib.hid (HGd.out.below hB'); have HW2 := Lib.hid (HWd.out.below hB'); have HBX2 := Lib.hid (HBX1.out.drew.below hB'); have ZA := HBX2.out; unfold Bx at ZA; clear hO hI hB hB')
        | (go_at_call 59; refine (lower_any _ p U L _ (by first | exact HV3.out | exact HV3.out.below (below_new _ _)) HLL.out).mono ?_; rintro e w3 ⟨A2, c2, rfl, hO, hB⟩; have hB' : Below w2.heap.size w2 w3 := (by first | exact hB | exact below_more (below_new _ (.cells #[.int .i64 0, .slice none 0 0, .slice none 0 0] 27)) hB); (first | have HLB := Lib.hid (HLB.out.below hB') | have HLB := Lib.hid ((BxW.new w2 (.int .i64 0) (.slice none 0 0) (.slice none 0 0) 27).below hB) | skip); (first | have hl3 := HLB.out.c.lt | skip); obtain ⟨b2, hI⟩ := OT.it hO; have hz3 : w2.heap.size ≤ w3.heap.size := hB'.size; have HI2 := Lib.hid hI; have HI1b := Lib.hid (HI1.out.below hB'); have HB3 := Lib.hid (below_more HB2.out hB'); have HG3 := Lib.hid (HG2.out.below hB'); have HW3 := Lib.hid (HW2.out.below hB'); have HBX3 := Lib.hid (HBX2.out.below hB'); have ZB := HBX3.out; unfold Bx at ZB; clear hO hI hB hB')
        | (go_at_call 32; refine (leastFrac_some p A1 _ c1 b1 U A2 _ c2 b2 L _ (by first | exact HI1b.out | exact HI1b.out.below (below_new _ _)) (by first | exact HI2.out | exact HI2.out.below (below_new _ _)) HU.out HL.out ge (by first | exact HG3.out | exact HG3.out.below (below_new _ _)) RP RT RF HR3.out).mono ?_; rintro e w4 ⟨A3, c3, A4, c4, rfl, hO1, hO2, hap, hB⟩; have hB' : Below w3.heap.size w3 w4 := (by first | exact hB | exact below_more (below_new _ (.cells #[.int .i64 0, .slice none 0 0, .slice none 0 0] 27)) hB); (first | have HLB := Lib.hid (HLB.out.below hB') | have HLB := Lib.hid ((BxW.new w3 (.int .i64 0) (.slice none 0 0) (.slice none 0 0) 27).below hB) | skip); have hsz3 : w3.heap.size ≤ w4.heap.size := hB'.size; have HO1 := Lib.hid hO1; have HO2 := Lib.hid hO2; have HAP := Lib.hid hap; have HB4 := Lib.hid (below_more HB3.out hB'); have HW4 := Lib.hid (HW3.out.below hB'); have HBX4 := Lib.hid (HBX3.out.below hB'); have ZC := HBX4.out; unfold Bx at ZC; clear hO1 hO2 hap hB hB'; (first | (obtain ⟨z0, z1, z2⟩ := HLB.out.c; have zf := HLB.out.fz; have hzl := HLB.out.c.lt) | skip)))
    all_goals
      go_wp2_with (fail)
      go_meet
      first
        | exact ⟨_, A3, c3, A4, c4, rfl, rfl, HLB.out.put _ _ _, owns_mono (OIk HO1.out (set3_keep _ _ _ _ _) (fun k hk e => by have := (HO1.out.lt k hk).1; first | omega | (simp at this; omega))) (by first | omega | (simp; omega)), owns_mono (OIk HO2.out (set3_keep _ _ _ _ _) (fun k hk e => by have := (HO2.out.lt k hk).1; first | omega | (simp at this; omega))) (by first | omega | (simp; omega)), HAP.out, HW4.out.keep (set3_keep _ _ _ _ _) (fun e => by omega), HB4.out.trans (set3_far _ _ _ _ _ (by omega) HB4.out.size)⟩
        | exact ⟨w4.heap.size, A3, c3, A4, c4, rfl, rfl, Bx.new _ _ _ _ _, owns_mono (OIb HO1.out (below_new _ _)) (by omega), owns_mono (OIb HO2.out (below_new _ _)) (by omega), HAP.out, HW4.out.below (below_new _ _), below_more HB4.out (below_new _ _)⟩
        | trace_state
  case rest =>
  obtain ⟨gB, A3, c3, A4, c4, rfl, rfl, hbx, hO1, hO2, hap, hbw, hB⟩ := hcut
  obtain ⟨wo, rfl⟩ : ∃ wo : World, wo = wc := ⟨_, rfl⟩
  have hs1 := HB1.out.size
  have hlo := HW1.out.c.lt
  have hne : gB ≠ w.heap.size + 1 ∨ True := .inr trivial
  have HR4 := Lib.hid (show RO wo w1.heap.size (.agg #[.int .i64 RP, .slice A3 RT.length c3, .slice A4 RF.length c4]) RP RT RF from ⟨A3, c3, A4, c4, rfl, hO1, hO2, hap⟩)
  have HB4 := Lib.hid hB
  obtain ⟨z0, z1, z2⟩ := hbx
  obtain ⟨x0, x1, x2⟩ := hbw.c
  have fz := hbw.fz
  clear hO1 hO2 hap hB hne hbw
  go_wp2_with (fail)
  refine bodyPost_ret (v := .agg #[.int .i64 RP, .slice A3 RT.length c3, .slice A4 RF.length c4]) (by simp [results, Tryd.f41, go_sem, x0, x1, x2]) rfl ?_
  exact made_put (g := w.heap.size + 1) HR4.out HB4.out hs1 (by omega) hlo
end Go.Proofs.YtbpndmcejbiedaaDoor

/-
  The contract of the model's l4Least.
-/
import Derived.Deep.RegionHeld3
import Derived.Test.YtbpndmcejbiedaaDoorFrM
import Derived.Test.YtbpndmcejbiedaaDoorDvS
import Derived.Test.YtbpndmcejbiedaaDoorBxs
namespace Go.Proofs.YtbpndmcejbiedaaDoor
open Go.RowKit
set_option maxRecDepth 100000 in
set_option maxHeartbeats 4000000 in
theorem specLeast (p : Int) (A : Option Addr) (n c b o : Nat) (f : List Int) (A' : Option Addr) (n' c' b' o' : Nat) (g : List Int) (w : World) (h : IA w A n b o f) (h' : IA w A' n' b' o' g) (hf : polB p f = true) (hg : polB p g = true) (h0 : g.length ≠ 0) (hz : co g 0 ≠ 0) :
    Calls Tryd.prog 27 #[.int .i64 p, .slice A n c, .slice A' n' c'] w (MadeR p (leastL p f g).1 (leastL p f g).2 w) := by
  obtain ⟨W0, hW0⟩ : ∃ W0, w.alloc (.cells #[.int .i64 0, .slice none 0 0, .slice none 0 0] 27) = W0 := ⟨_, rfl⟩
  have hb0 : Below w.heap.size w W0 := by rw [← hW0]; exact below_new _ _
  have HW := Lib.hid (show BxW W0 w.heap.size (.int .i64 0) (.slice none 0 0) (.slice none 0 0) by rw [← hW0]; exact BxW.new w (.int .i64 0) (.slice none 0 0) (.slice none 0 0) 27)
  have HB0 := Lib.hid hb0
  have hbig := h.big
  have hbig' := h'.big
  have H := Lib.hid (h.below hb0)
  have H' := Lib.hid (h'.below hb0)
  obtain ⟨q1, q2, q3, q4, q5, q6⟩ := quo_pos hf hg h0 hz
  obtain ⟨g1, _, _⟩ := gcd_law hf hg
  have g4 := gcd_pos hf hg h0
  obtain ⟨hp, hfl, hfv⟩ := serB_true (polB_ser hf)
  obtain ⟨_, hgl, hgv⟩ := serB_true (polB_ser hg)
  obtain ⟨_, hdl, hdv⟩ := serB_true (polB_ser g1)
  have hn1 : n ≤ 24 := by rw [← h.len]; exact hfl
  have hn2 : n' ≤ 24 := by rw [← h'.len]; exact hgl
  have HP := Lib.hid hp
  have HF := Lib.hid hf
  have HGP := Lib.hid hg
  have HFV := Lib.hid hfv
  have HGV := Lib.hid hgv
  have HLF := Lib.hid h.len
  have HLG := Lib.hid h'.len
  obtain ⟨D, hD⟩ : ∃ D, gcdL p f g = D := ⟨_, rfl⟩
  rw [hD] at q1 q2 q3 q4 q5 q6 g1 g4 hdl hdv
  have HD := Lib.hid (show gcdN p g.length f g = D from hD)
  have HDV := Lib.hid hdv
  obtain ⟨Q1, hQ1⟩ : ∃ Q, quoL p f D = Q := ⟨_, rfl⟩
  obtain ⟨Q2, hQ2⟩ : ∃ Q, quoL p g D = Q := ⟨_, rfl⟩
  rw [hQ1] at q5 q6
  rw [hQ2] at q1 q2 q3 q4
  have HQ1 := Lib.hid hQ1
  have HQ2 := Lib.hid hQ2
  have HV1 := Lib.hid (serB_true (polB_ser q5)).2.2
  have HV2 := Lib.hid (serB_true (polB_ser q1)).2.2
  have HZ2 := Lib.hid q2
  obtain ⟨bk, hbk⟩ : ∃ bk, invM p (co Q2 0) = bk := ⟨_, rfl⟩
  have HBK := Lib.hid hbk
  have hbd := inv_bd (p := p) (a := co Q2 0) hp
  rw [hbk] at hbd
  have hpb := prime_ge hp
  have hbk13 : 0 ≤ bk ∧ bk ≤ 13 := by omega
  have HX1 := Lib.hid (show (leastL p f g).1 = addL p [] Q1 bk by unfold leastL scaleL; rw [hD, hQ1, hQ2, hbk])
  have HY1 := Lib.hid (show (leastL p f g).2 = addL p [] Q2 bk by unfold leastL scaleL; rw [hD, hQ2, hbk])
  have hq6 : Q1.length ≤ 24 := by omega
  have hq4 : Q2.length ≤ 24 := by omega
  clear h h' hb0 hf hg h0 hz q1 q2 q4 q5 q6 g1 hp hfv hgv hdv hD hQ1 hQ2 hbk hfl hgl hbd
  go_enter Tryd.func27, Tryd.ntmps27
  go_wp2_with (at_builtin; refine wpList_app_any rfl (.tmp 16) (.tmp 17) rfl rfl A n c b o f rfl H.out (by omega) ?_)
  intro A1 c1 w1 hI1 hB1
  obtain ⟨b1, hI⟩ := hI1.ia
  have HI1 := Lib.hid hI
  have HB1 := Lib.hid hB1
  have H1' := Lib.hid (H'.out.below hB1)
  clear hI1 hB1 hI hW0
  go_wp2_with (at_builtin; refine wpList_app_any rfl (.tmp 19) (.tmp 20) rfl rfl A' n' c' b' o' g rfl H1'.out (by omega) ?_)
  intro A2 c2 w2 hI2 hB2
  obtain ⟨b2, hI⟩ := hI2.ia
  have HI2 := Lib.hid hI
  have HI1b := Lib.hid (HI1.out.below hB2)
  have HB2 := Lib.hid (below_more HB1.out hB2)
  clear hI2 hB2 hI
  go_wp2_with (fail)
  go_loopw [7, 8] (fun vf vg wr => ∃ (N : Nat) (x y : List Int) (Ax : Option Addr) (cx bx : Nat) (Ay : Option Addr) (cy byy : Nat), vf = .slice Ax x.length cx ∧ vg = .slice Ay y.length cy ∧ Hid (polB p x = true ∧ polB p y = true ∧ y.length ≤ N ∧ gcdN p N x y = D) ∧ IA wr Ax x.length bx 0 x ∧ IA wr Ay y.length byy 0 y ∧ Below w2.heap.size w2 wr) (fun _ v _ => match v with | .slice _ m _ => m | _ => 0)
  case atStart => exact ⟨g.length, f, g, A1, c1, b1, A2, c2, b2, by rw [HLF.out], by rw [HLG.out], ⟨HF.out, HGP.out, Nat.le_refl _, HD.out⟩, by rw [HLF.out]; exact HI1b.out, by rw [HLG.out]; exact HI2.out, Below.refl _ _⟩
  case round =>
    obtain ⟨N, x, y, Ax, cx, bx, Ay, cy, byy, rfl, rfl, hfact, hx, hy, hbel⟩ := hrel
    have HX := Lib.hid hx
    have HY := Lib.hid hy
    have HB := Lib.hid hbel
    have hbigx := hx.big
    have hbigy := hy.big
    clear hx hy hbel
    by_cases h0 : y.length = 0
    · have HE := Lib.hid (show x = D by have := hfact.out.2.2.2; rwa [gcdN_nil _ _ _ _ h0] at this)
      have hd : ¬ (0 : Int) < (y.length : Int) := by omega
      clear hfact h0
      have HB3 := Lib.hid (HB0.out.trans ((HB2.out.mono HB0.out.size).trans (HB.out.mono (Nat.le_trans HB0.out.size HB2.out.size))))
      have hE := HE.out
      clear HE
      subst hE
      have hx1 : 1 ≤ x.length := g4
      go_wp2_with (fail)
      refine (specDivide p A n c b o f Ax _ cx bx 0 x _ (H.out.below (HB2.out.trans (HB.out.mono HB2.out.size))) HX.out HP.out HFV.out HDV.out (by omega) (by omega) hx1).mono ?_
      rw [HQ1.out]
      rintro e w3 ⟨A3, c3, A4, c4, rfl, hO3, hO4, hap, hB⟩
      obtain ⟨b3, hI3⟩ := hO3.ia
      have HI3 := Lib.hid hI3
      have HX3 := Lib.hid (HX.out.below hB)
      have HB4 := Lib.hid (below_more HB3.out hB)
      have HG4 := Lib.hid ((H'.out.below (HB2.out.trans (HB.out.mono HB2.out.size))).below hB)
      have HW4 := Lib.hid ((HW.out.below (HB2.out.trans (HB.out.mono HB2.out.size))).below hB)
      clear hO3 hO4 hap hI3 hB
      go_wp2_with (fail)
      refine (specDivide p A' n' c' b' o' g Ax _ cx bx 0 x _ HG4.out HX3.out HP.out HGV.out HDV.out (by omega) (by omega) hx1).mono ?_
      rw [HQ2.out]
      rintro e w4 ⟨A5, c5, A6, c6, rfl, hO5, hO6, hap, hB⟩
      obtain ⟨b5, hI5⟩ := hO5.ia
      obtain rfl := hI5.adr (by omega)
      obtain ⟨z, hz, hc⟩ := hI5.cell 0 (by omega)
      rw [Nat.add_zero] at hc
      have HZ2' := Lib.hid (show co Q2 0 = z from getD_at hz)
      have HZV := Lib.hid (HV2.out z (List.mem_of_getElem? hz))
      have hbig5 := hI5.big
      have HI5 := Lib.hid hI5
      have HI3b := Lib.hid (HI3.out.below hB)
      have HB5 := Lib.hid (below_more HB4.out hB)
      have HW5 := Lib.hid (HW4.out.below hB)
      clear hO5 hO6 hap hI5 hB hz
      have hql : (0 : Int) < (Q2.length : Int) := by omega
      go_wp2_with (fail)
      refine (specBack p z _ HP.out (numB_bd HZV.out).1 (numB_bd HZV.out).2.1).mono ?_
      rw [← HZ2'.out, HBK.out]
      rintro e w6 ⟨rfl, rfl⟩
      go_wp2_with (fail)
      obtain ⟨be, hIe⟩ := (OI.empty w4).ia
      have hbn := below_new w4 (.cells #[] 3)
      have HB6 := Lib.hid (below_more HB5.out hbn)
      refine (specAdd p bk _ 0 0 be 0 [] A3 _ c3 b3 0 Q1 _ hIe (HI3b.out.below hbn) HP.out (by simp) HV1.out hbk13 (by omega) (by omega)).mono ?_
      rw [← HX1.out]
      rintro e w6 ⟨A7, c7, rfl, hO7, hB⟩
      have HO7 := Lib.hid hO7
      have hs7 := HB6.out.size
      have hlo := HW5.out.c.lt
      have HI5b := Lib.hid ((HI5.out.below hbn).below hB)
      have HB7 := Lib.hid (below_more HB6.out hB)
      have HW7 := Lib.hid ((HW5.out.below hbn).below hB)
      clear hO7 hB hIe hbn hc
      go_wp2_with (fail)
      obtain ⟨be2, hIe⟩ := (OI.empty w6).ia
      have hbn := below_new w6 (.cells #[] 3)
      have HB8 := Lib.hid (below_more HB7.out hbn)
      refine (specAdd p bk _ 0 0 be2 0 [] _ _ c5 b5 0 Q2 _ hIe (HI5b.out.below hbn) HP.out (by simp) HV2.out hbk13 (by omega) (by omega)).mono ?_
      rw [← HY1.out]
      rintro e w8 ⟨A9, c9, rfl, hO9, hB⟩
      have HO9 := Lib.hid hO9
      have HO7b := Lib.hid (OIb (OIb HO7.out hbn) hB)
      have HAP := Lib.hid (apart_new HO7.out hO9 hbn.size)
      have hs9 := HB8.out.size
      have HB9 := Lib.hid (below_more HB8.out hB)
      have HW9 := Lib.hid ((HW7.out.below hbn).below hB)
      clear hO9 hB hIe hbn
      obtain ⟨x0, x1, x2⟩ := HW9.out.c
      have fz := HW9.out.fz
      go_wp2_with (fail)
      refine bodyPost_ret (v := .agg #[.int .i64 p, .slice A7 (leastL p f g).1.length c7, .slice A9 (leastL p f g).2.length c9]) (by simp [results, Tryd.f27, go_sem, x0, x1, x2]) rfl ?_
      have hlo1 := HB5.out.size
      have hlo3 := HW7.out.c.lt
      exact made_set3 (g := w.heap.size) HB9.out rfl rfl HO7b.out HO9.out hs7 hs9 (Nat.le_refl _) (fun k hk => by have := (HO7.out.lt k hk).1; simp at this; omega) (fun k hk => by have := (HO9.out.lt k hk).1; simp at this; omega) HAP.out
    · have hd : (0 : Int) < (y.length : Int) := by omega
      obtain ⟨px, py, hyN, hgc⟩ := hfact.out
      obtain ⟨_, hxl, hxv⟩ := serB_true (polB_ser px)
      obtain ⟨_, hyl, hyv⟩ := serB_true (polB_ser py)
      obtain ⟨M, rfl, hst⟩ := gcdN_step p N x y h0 hyN
      obtain ⟨_, r1, _, r2, _⟩ := div_law (polB_ser px) py (by omega)
      have HN := Lib.hid (show polB p y = true ∧ polB p (remL p x y) = true ∧ (remL p x y).length ≤ M ∧ gcdN p M y (remL p x y) = D from ⟨py, r1, by omega, by rw [← hst]; exact hgc⟩)
      have HV := Lib.hid hxv
      have HW' := Lib.hid hyv
      obtain ⟨Z, hZ⟩ : ∃ Z, remL p x y = Z := ⟨_, rfl⟩
      rw [hZ] at HN r2
      have HZ := Lib.hid hZ
      have hy1 : 1 ≤ y.length := by omega
      clear px py hyN hgc hxv hyv hst r1 hZ hfact h0
      go_wp2_with (fail)
      refine (specDivide p Ax _ cx bx 0 x Ay _ cy byy 0 y _ HX.out HY.out HP.out HV.out HW'.out (by omega) (by omega) (by omega)).mono ?_
      rw [HZ.out]
      rintro e w5 ⟨A5, c5, A6, c6, rfl, hO5, hO6, hap, hB5⟩
      obtain ⟨b6, hI6⟩ := hO6.ia
      have HI6 := Lib.hid hI6
      have HY2 := Lib.hid (HY.out.below hB5)
      have HB2 := Lib.hid (below_more HB.out hB5)
      clear hO5 hO6 hI6 hB5 hap
      go_wp2_with (fail)
      go_roundw
      case rel => exact ⟨M, y, Z, Ay, cy, byy, A6, c6, b6, rfl, rfl, HN.out, HY2.out, HI6.out, HB2.out⟩
      case measure => simp; omega
end Go.Proofs.YtbpndmcejbiedaaDoor

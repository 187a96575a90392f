/-
  The draw of a recurrence and a number; the comparison of two recurrences that are the same.
-/
import Derived.Deep.RegionHeld3
import Derived.Test.YtjpmncpbghlkaaaDrawRx
import Derived.Test.YtjpmncpbghlkaaaSame
namespace Go.Proofs.Ytjpmncpbghlkaaa
open Go.RowKit
set_option maxHeartbeats 1000000 in
theorem sameRec_same (v v' : Value) (p : Int) (T F : List Int) (w : World) (h : RV w v p T F) (h' : RV w v' p T F) :
    Calls Try.prog 40 #[v, v'] w fun e w' => e = .returned (.bool true) ∧ Below w.heap.size w w' := by
  obtain ⟨A, n, c, b, o, B, m, d, x, y, rfl, g1, g2⟩ := h
  obtain ⟨A', n', c', b', o', B', m', d', x', y', rfl, k1, k2⟩ := h'
  have hB0 : Below w.heap.size w ((w.alloc (.cells #[.int .i64 p, .slice A n c, .slice B m d] 25)).alloc (.cells #[.int .i64 p, .slice A' n' c', .slice B' m' d'] 25)) := ((Below.refl _ w).alloc (Nat.le_refl _) _).alloc (by simp) _
  have H := Lib.hid (g1.below hB0)
  have H' := Lib.hid (g2.below hB0)
  have K := Lib.hid (k1.below hB0)
  have K' := Lib.hid (k2.below hB0)
  have HB0 := Lib.hid hB0
  clear g1 g2 k1 k2 hB0
  go_enter Try.func40, Try.ntmps40
  go_wp2_with (fail)
  refine (sameIntsC A n c b o T A' n' c' b' o' T _ H.out K.out).mono ?_
  rintro e w1 ⟨rfl, hw⟩
  rw [decide_eq_true rfl]
  have HBE := Lib.hid (below_drawn HB0.out hw)
  have H2 := Lib.hid (H'.out.drewN hw)
  have K2 := Lib.hid (K'.out.drewN hw)
  obtain ⟨mm, rfl⟩ := hw
  go_wp2_with (fail)
  refine (sameIntsC B m d x y F B' m' d' x' y' F _ H2.out K2.out).mono ?_
  rintro e w2 ⟨rfl, hw2⟩
  rw [decide_eq_true rfl]
  have HW2 := Lib.hid (below_drawn HBE.out hw2)
  clear hw2
  go_wp2_with (fail)
  go_ret
  exact ⟨rfl, HW2.out⟩
set_option maxRecDepth 100000 in
set_option maxHeartbeats 1000000 in
theorem drawRecTimes (a : Option Addr) (len cap : Nat) (zs : List Int) (w : World) (h : IsRow .u8 w a len cap zs) :
    Calls Try.prog 43 #[.slice a len cap] w (DRecI (-1) 1000000 w) := by
  have HW := Lib.hid (BxW.new w (.int .i64 0) (.slice none 0 0) (.slice none 0 0) 25)
  have hb0 := below_new w (.cells #[.int .i64 0, .slice none 0 0, .slice none 0 0] 25)
  have HI := Lib.hid (isRow_below h hb0)
  have HB0 := Lib.hid hb0
  clear h hb0
  go_enter Try.func43, Try.ntmps43
  go_wp2_with (fail)
  refine (open_any a len cap zs _ HI.out).mono ?_
  rintro e w1 ⟨rb, A, n, c, cb, co, rfl, hR, hB, hrb, hcb⟩
  have hB1 := HB0.out.trans (hB.mono HB0.out.size)
  have hs1 := hB.size
  rw [World.size_alloc] at hs1 hrb hcb
  have HW1 := Lib.hid (HW.out.below hB)
  clear hB
  go_wp2_with (fail)
  refine (rec_any rb n c cb co 0 A 6 9 _ hR (by omega) (by omega) (by decide) (by decide)).mono ?_
  rintro e w2 ⟨v, q, T, F, rfl, hO, hT, hF, hq0, hq1, hR2, hK2⟩
  have hs2 := hK2.size
  have HW2 := Lib.hid (HW1.out.keep hK2 (fun hs => by rcases hs with hs | hs <;> omega))
  have HB2 := Lib.hid (below_drw hB1 hK2 (Nat.le_refl _) (by omega) (by omega))
  obtain ⟨A1, c1, A2, c2, rfl, hO1, hO2, hap⟩ := hO
  have hrb2 := hR2.lt
  have hrb1 := hR.lt
  have hbn := below_new w2 (.cells #[.int .i64 q, .slice A1 T.length c1, .slice A2 F.length c2] 25)
  obtain ⟨W2, hW2⟩ : ∃ W2, w2.alloc (.cells #[.int .i64 q, .slice A1 T.length c1, .slice A2 F.length c2] 25) = W2 := ⟨_, rfl⟩
  have hbx := Bx.new w2 (.int .i64 q) (.slice A1 T.length c1) (.slice A2 F.length c2) 25
  rw [hW2] at hbn hbx
  have HO1 := Lib.hid (OIb hO1 hbn)
  have HO2 := Lib.hid (OIb hO2 hbn)
  have HAP := Lib.hid hap
  have HR2 := Lib.hid (show Rd W2.drew rb A n c cb co _ from (hR2.keep (keep_of_below hbn) (fun h => h) (fun _ h => h)).keep (keep_of_below (below_new_drew W2)) (fun h => h) (fun _ h => h))
  have HB3 := Lib.hid (below_more HB2.out hbn)
  have HW3 := Lib.hid (HW2.out.below hbn)
  have BX := Lib.hid hbx
  have hs3 := hbn.size
  clear hO1 hO2 hap hR hR2 hK2 hcb hB1 hbn hbx
  rw [← hW2] at HR2 BX HO1 HO2 HB3 HW3 hs3
  clear hW2
  obtain ⟨x0, x1, x2⟩ := BX.out
  go_wp2_with (fail)
  generalize w2.alloc (.cells #[.int .i64 q, .slice A1 T.length c1, .slice A2 F.length c2] 25) = W3 at HR2 BX HO1 HO2 HB3 HW3 hs3 x0 x1 x2 ⊢
  have ZS := And.intro x0 (And.intro x1 x2)
  have Zd := BX.out.drew
  unfold Bx at Zd
  have hf0 : ∀ (W : World) (o o' : Nat) (v : Value), (W.setCell ⟨w.heap.size, o, none⟩ v).cell? ⟨w2.heap.size, o', none⟩ = W.cell? ⟨w2.heap.size, o', none⟩ := fun W o o' v => World.cell?_setCell_far _ _ _ _ (by show w.heap.size ≠ w2.heap.size; omega)
  go_region_held3 (fun w' => w'.cell? ⟨w2.heap.size, 0, none⟩ = some (.int .i64 q) ∧ w'.cell? ⟨w2.heap.size, 1, none⟩ = some (.slice A1 T.length c1) ∧ w'.cell? ⟨w2.heap.size, 2, none⟩ = some (.slice A2 F.length c2)) (first | assumption | exact ZA | exact Zd | exact ZS | (refine ⟨?_, ?_, ?_⟩ <;> (simp only [hf0]; assumption)) | go_keep)
    ((go_at_call 68; refine (num_any rb n c cb co _ A q 9 _ HR2.out (by omega) (by decide) (by decide) hq0 (by omega)).mono ?_; rintro e w4 ⟨x, rfl, ⟨hx0, hx1⟩, hR4, hK4⟩; have hbk := BX.out.drew.keep hK4 (show ¬ w2.heap.size = rb from by omega); have ZA := hbk; unfold Bx at ZA; have hw4 := HW3.out.drew.keep hK4 (show ¬ w.heap.size = rb from by omega); have r0 := hw4.c.1; have r1 := hw4.c.2.1; have r2 := hw4.c.2.2; have rf := hw4.fz; have HO3 := Lib.hid (OIk (OIb HO1.out (below_new_drew W3)) hK4 (fun g hg e => by have := (HO1.out.lt g hg).1; omega)); have HO4 := Lib.hid (OIk (OIb HO2.out (below_new_drew W3)) hK4 (fun g hg e => by have := (HO2.out.lt g hg).1; omega)); have HB4 := Lib.hid (below_of (HB3.out.drew) hK4 (Nat.le_refl _) (by omega)); clear hw4 hbk hR4 hK4))
  all_goals
    go_wp2_with (fail)
    refine bodyPost_ret (v := .tuple #[.agg #[.int .i64 q, .slice A1 T.length c1, .slice A2 F.length c2], .int .i64 x]) (by simp [results, Try.f43, go_sem, r0, r1, r2]) rfl ?_
    have hk := set3_keep w4 w.heap.size (.int .i64 q) (.slice A1 T.length c1) (.slice A2 F.length c2)
    exact ⟨_, q, T, F, x, rfl, hx0, hx1, ⟨A1, c1, A2, c2, rfl, owns_mono (OIk HO3.out hk (fun g hg e => by have := (HO3.out.lt g hg).1; omega)) (by omega), owns_mono (OIk HO4.out hk (fun g hg e => by have := (HO4.out.lt g hg).1; omega)) (by omega), HAP.out⟩, hT, hF, hq0, hq1, HB4.out.trans (set3_far w4 w.heap.size _ _ _ (Nat.le_refl _) HB4.out.size)⟩
end Go.Proofs.Ytjpmncpbghlkaaa

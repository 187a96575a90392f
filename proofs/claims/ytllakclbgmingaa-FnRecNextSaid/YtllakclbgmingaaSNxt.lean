/-
  The contract of the model's RecNext.
-/
import Derived.Test.YtllakclbgmingaaINxt
namespace Go.Proofs.Ytllakclbgmingaa
open Go.RowKit
set_option maxRecDepth 100000 in
set_option maxHeartbeats 2000000 in
theorem specRecNext2 (v : Value) (p : Int) (T F : List Int) (w : World) (h : RV w v p T F) (hF2 : 2 ≤ F.length) :
    Calls Try.prog 21 #[v] w (MadeW (nextO p T F).1 (nextO p T F).2.1 (nextO p T F).2.2 w) := by
  obtain ⟨A, n, c, b, o, A', n', c', b', o', rfl, g1, g2⟩ := h
  have H := Lib.hid (show RV w (.agg #[.int .i64 p, .slice A n c, .slice A' n' c']) p T F from ⟨_, _, _, _, _, _, _, _, _, _, rfl, g1, g2⟩)
  have HT2 := Lib.hid g1
  have HL := Lib.hid g1.len
  have HL' := Lib.hid g2.len
  have hbx := (Bx.new w (.int .i64 p) (.slice A n c) (.slice A' n' c') 25).below (below_new _ (.cells #[.int .i64 0, .slice none 0 0, .slice none 0 0] 25))
  have hbw := BxW.new (w.alloc (.cells #[.int .i64 p, .slice A n c, .slice A' n' c'] 25)) (.int .i64 0) (.slice none 0 0) (.slice none 0 0) 25
  rw [World.size_alloc] at hbw
  have hB0 := ((Below.refl w.heap.size w).alloc (Nat.le_refl _) (.cells #[.int .i64 p, .slice A n c, .slice A' n' c'] 25)).alloc (by simp) (.cells #[.int .i64 0, .slice none 0 0, .slice none 0 0] 25)
  have HV0 := Lib.hid (H.out.below hB0)
  have HBX := Lib.hid hbx
  have HBW := Lib.hid hbw
  have HB0 := Lib.hid hB0
  clear g1 g2 hbx hbw hB0
  rcases hv : recB p T F
  · have HV := Lib.hid hv
    have HE := Lib.hid (show nextO p T F = (0, [], []) by unfold nextO; rw [if_neg (by simp [hv])])
    clear hv
    go_enter Try.func21, Try.ntmps21
    go_wp2_with (go_at_call 13; refine (specRecValid _ p T F _ HV0.out).mono ?_; rintro e w1 ⟨rfl, hB⟩; rw [HV.out]; have HB1 := Lib.hid (below_more HB0.out hB); have hbw := HBW.out.below hB; have x0 := hbw.c.1; have x1 := hbw.c.2.1; have x2 := hbw.c.2.2; have fz := hbw.fz; clear hB hbw)
    refine bodyPost_ret (v := .agg #[.int .i64 0, .slice none 0 0, .slice none 0 0]) (by simp [results, Try.f21, go_sem, x0, x1, x2]) rfl ?_
    rw [HE.out]
    exact (made_zero HB1.out (by omega)).w
  have HV := Lib.hid hv
  obtain ⟨hp, h6, hl, hT, hF⟩ := recB_true hv
  have HE := Lib.hid (show nextO p T F = (p, T, (trm p T F (n' + 1)).drop 1) by unfold nextO; rw [if_pos hv, HL'.out])
  have hn6 : n' ≤ 8 := by rw [← HL'.out]; omega
  have hn6' : n ≤ 8 := by rw [← HL.out]; omega
  obtain ⟨N1, hN1⟩ : ∃ N1, n' + 1 = N1 := ⟨_, rfl⟩
  have hw1 : IntKind.i64.wrap ((n' : Int) + 1) = (N1 : Int) := by rw [show (n' : Int) + 1 = (N1 : Int) by omega]; exact IntWalk.i64_in _ ⟨by omega, by omega⟩
  have HTE := Lib.hid (show termsO p T F (N1 : Int) = trm p T F N1 by unfold termsO; rw [if_pos ⟨hv, by omega, by omega⟩]; rfl)
  have hN2 : (1 : Int) ≤ (N1 : Int) := by omega
  have hN3 : 1 ≤ N1 := by omega
  have hN4 : N1 - 1 = n' := by omega
  rw [hN1] at HE
  have HN1 := Lib.hid hN1
  clear hv hp hT hF hl h6 hN1
  have hn0 : 2 ≤ n' := by rw [← HL'.out]; exact hF2
  have hmn : min (n' : Int) 1 = 1 := by omega
  have hm1 : ¬ (n' : Int) < 1 := by omega
  have hm2 : ¬ (n' : Int) ≤ 1 := by omega
  have hm3 : (1 : Int) < (n' : Int) := by omega
  have hm4 : (1 : Int) ≤ (n' : Int) := by omega
  go_enter Try.func21, Try.ntmps21
  go_wp2_with (go_at_call 13; refine (specRecValid _ p T F _ HV0.out).mono ?_; rintro e w1 ⟨rfl, hB⟩; rw [HV.out]; have HB1 := Lib.hid (below_more HB0.out hB); have hbx := HBX.out.below hB; have y0 := hbx.1; have y1 := hbx.2.1; have y2 := hbx.2.2; have HBX1 := Lib.hid hbx; have HBW1 := Lib.hid (HBW.out.below hB); clear hB hbx)
  have hs1 := HBW1.out.c.lt
  have hne : w.heap.size ≠ w.heap.size + 1 := by omega
  have hf0 : ∀ (W : World) (o o' : Nat) (v : Value), (W.setCell ⟨w.heap.size + 1, o, none⟩ v).cell? ⟨w.heap.size, o', none⟩ = W.cell? ⟨w.heap.size, o', none⟩ := fun W o o' v => World.cell?_setCell_far _ _ _ _ (by show w.heap.size + 1 ≠ w.heap.size; omega)
  have hs0 : w.heap.size < w1.heap.size := by omega
  have hs0' : w.heap.size ≠ w1.heap.size := by omega
  have HOb := Lib.hid (OIb (oi_empty w1 w1.heap.size (Nat.le_refl _)) (below_new_drew _))
  have HTb := Lib.hid (((HT2.out.below HB1.out).below (below_new _ (.cells #[] 3))).below (below_new_drew _))
  have ZS := HBX1.out
  have Zd := HBX1.out.drew
  unfold Bx at ZS Zd
  go_region_held3 (fun w' => w'.cell? ⟨w.heap.size, 0, none⟩ = some (.int .i64 p) ∧ w'.cell? ⟨w.heap.size, 1, none⟩ = some (.slice A n c) ∧ w'.cell? ⟨w.heap.size, 2, none⟩ = some (.slice A' n' c')) (first | assumption | exact ZB | exact ZA | exact Zd | exact ZS | (refine ⟨?_, ?_, ?_⟩ <;> (simp only [hf0]; assumption)) | go_keep)
    (first
      | (refine step_app_any rfl (.tmp 9) (.tmp 11) rfl rfl w1.heap.size w1.heap.size 0 0 [] rfl HOb.out A n c b o T rfl HTb.out (fun hA => Classical.byContradiction fun hc => by have := HT2.out.adr (by omega); rw [hA] at this; cases this) (by omega) (below_new w1 _).size ?_; intro A6 c6 w2 hO6 hg6; have hb6 : Below w1.heap.size w1 w2 := (by exact (below_new w1 (.cells #[] 3)).drew.trans ((keep_grown hg6).below (below_new w1 _).size (fun k hk => by cases hk; exact Nat.le_refl _))); have hO6' := hO6; rw [Nat.zero_add, List.nil_append] at hO6'; have HO6 := Lib.hid hO6'; have HB2 := Lib.hid (below_more HB1.out hb6); have hs12 : w1.heap.size ≤ w2.heap.size := hb6.size; have HBX2 := Lib.hid (HBX1.out.below hb6); have HBW2 := Lib.hid (HBW1.out.below hb6); have ZA := HBX2.out; unfold Bx at ZA; have HV2 := Lib.hid (H.out.below HB2.out); have hs20 : w.heap.size < w2.heap.size := HBX2.out.lt; clear hO6 hO6' hg6 hb6)
      | (go_at_call 43; refine (specL3 _ p T F N1 _ HV2.out HV.out (by omega)).mono ?_; rintro e w3 ⟨A5, c5, rfl, hO, hB⟩; have hcap := OI.capLe hO; have hcz0 : n' ≤ c5 - 1 := (by omega); have hcz : (n' : Int) ≤ ((c5 - 1 : Nat) : Int) := (by omega); have hcz1 : ¬ c5 = 1 := (by omega); have hcz2 : (n' : Int) ≤ (c5 : Int) - 1 := (by omega); have HO5 := Lib.hid hO; have HB3 := Lib.hid (below_more HB2.out hB); have HO7 := Lib.hid (OIb HO6.out hB); have HBX3 := HBX2.out.below hB; have ZB := HBX3; unfold Bx at ZB; have hbw := HBW2.out.below hB; have x0 := hbw.c.1; have x1 := hbw.c.2.1; have x2 := hbw.c.2.2; have fz := hbw.fz; clear hB hbw hO HBX3))
  all_goals
    clear ZS Zd
    obtain ⟨A7, hA7⟩ : ∃ A7, Option.map (fun x : Addr => ({ block := x.block, off := x.off + 1 } : Addr)) A5 = A7 := ⟨_, rfl⟩
    rw [hA7]
    have hs3 := HB3.out.size
    have hs2 := HB2.out.size
    have HOW := Lib.hid (show OW w3 w2.heap.size A7 n' (c5 - 1) ((trm p T F N1).drop 1) from by
      obtain ⟨q5, rfl⟩ := oi_some HO5.out (by omega)
      have hlt5 := HO5.out.lt q5 rfl
      have hO := HO5.out
      rw [← HN1.out] at hO ⊢
      obtain ⟨x, xs, hxs⟩ : ∃ x xs, trm p T F (n' + 1) = x :: xs := by
        cases ht : trm p T F (n' + 1) with
        | nil => have := trm_len p T F (n' + 1); rw [ht] at this; simp at this
        | cons x xs => exact ⟨x, xs, rfl⟩
      rw [hxs] at hO ⊢
      rw [← hA7]
      exact hO.tail)
    have hb7 : ∀ g, (Value.slice A7 n' (c5 - 1)).ownBlock = some g → w2.heap.size ≤ g := fun g hg => by
      obtain ⟨_, _, _, h2, _⟩ := HOW.out
      exact (h2 g hg).1
    have HB7 := Lib.hid hb7
    have HLT := Lib.hid (show ∀ g, (Value.slice A6 n c6).ownBlock = some g → w1.heap.size ≤ g ∧ g < w2.heap.size from fun g hg => HO6.out.lt g hg)
    have HA7 := Lib.hid hA7
    clear hA7 hb7
    go_wp2_with (fail)
    refine bodyPost_ret (v := .agg #[.int .i64 p, .slice A6 n c6, .slice A7 n' (c5 - 1)]) (by have hA7 := HA7.out; simp [results, Try.f21, go_sem, x0, x1, x2, Function.comp_def, hA7]) rfl ?_
    rw [HE.out]
    rw [show Option.map ((fun x : Addr => x) ∘ fun x : Addr => ({ block := x.block, off := x.off + 1 } : Addr)) A5 = A7 from HA7.out]
    refine madeW_set3 (g := w.heap.size + 1) HB3.out HL.out (by rw [List.length_drop, trm_len]; exact hN4) HO7.out.ow HOW.out (by show w.heap.size ≤ w1.heap.size; omega) hs2 (by omega) (fun k hk => by have := (HLT.out k hk).1; omega) (fun k hk => by have := HB7.out k hk; omega) ?_
    rcases hg : (Value.slice A6 n c6).ownBlock with _ | g
    · exact .inl hg
    · right
      rw [hg]
      intro e
      have h1 := (HLT.out g hg).2
      have h2 := HB7.out g e.symm
      omega
set_option maxRecDepth 100000 in
set_option maxHeartbeats 2000000 in
theorem specRecNext1 (v : Value) (p : Int) (T F : List Int) (w : World) (h : RV w v p T F) (hF2 : F.length = 1) :
    Calls Try.prog 21 #[v] w (MadeW (nextO p T F).1 (nextO p T F).2.1 (nextO p T F).2.2 w) := by
  obtain ⟨A, n, c, b, o, A', n', c', b', o', rfl, g1, g2⟩ := h
  have hl0 := g2.len
  rw [hF2] at hl0
  subst hl0
  have H := Lib.hid (show RV w (.agg #[.int .i64 p, .slice A n c, .slice A' 1 c']) p T F from ⟨_, _, _, _, _, _, _, _, _, _, rfl, g1, g2⟩)
  have HT2 := Lib.hid g1
  have HL := Lib.hid g1.len
  have HL' := Lib.hid g2.len
  have hbx := (Bx.new w (.int .i64 p) (.slice A n c) (.slice A' 1 c') 25).below (below_new _ (.cells #[.int .i64 0, .slice none 0 0, .slice none 0 0] 25))
  have hbw := BxW.new (w.alloc (.cells #[.int .i64 p, .slice A n c, .slice A' 1 c'] 25)) (.int .i64 0) (.slice none 0 0) (.slice none 0 0) 25
  rw [World.size_alloc] at hbw
  have hB0 := ((Below.refl w.heap.size w).alloc (Nat.le_refl _) (.cells #[.int .i64 p, .slice A n c, .slice A' 1 c'] 25)).alloc (by simp) (.cells #[.int .i64 0, .slice none 0 0, .slice none 0 0] 25)
  have HV0 := Lib.hid (H.out.below hB0)
  have HBX := Lib.hid hbx
  have HBW := Lib.hid hbw
  have HB0 := Lib.hid hB0
  clear g1 g2 hbx hbw hB0
  rcases hv : recB p T F
  · have HV := Lib.hid hv
    have HE := Lib.hid (show nextO p T F = (0, [], []) by unfold nextO; rw [if_neg (by simp [hv])])
    clear hv
    go_enter Try.func21, Try.ntmps21
    go_wp2_with (go_at_call 13; refine (specRecValid _ p T F _ HV0.out).mono ?_; rintro e w1 ⟨rfl, hB⟩; rw [HV.out]; have HB1 := Lib.hid (below_more HB0.out hB); have hbw := HBW.out.below hB; have x0 := hbw.c.1; have x1 := hbw.c.2.1; have x2 := hbw.c.2.2; have fz := hbw.fz; clear hB hbw)
    refine bodyPost_ret (v := .agg #[.int .i64 0, .slice none 0 0, .slice none 0 0]) (by simp [results, Try.f21, go_sem, x0, x1, x2]) rfl ?_
    rw [HE.out]
    exact (made_zero HB1.out (by omega)).w
  have HV := Lib.hid hv
  obtain ⟨hp, h6, hl, hT, hF⟩ := recB_true hv
  have HE := Lib.hid (show nextO p T F = (p, T, (trm p T F (1 + 1)).drop 1) by unfold nextO; rw [if_pos hv, HL'.out])
  have hn6 : 1 ≤ 8 := by rw [← HL'.out]; omega
  have hn6' : n ≤ 8 := by rw [← HL.out]; omega
  have hN1 : 1 + 1 = 2 := rfl
  have HTE := Lib.hid (show termsO p T F (2 : Int) = trm p T F 2 by unfold termsO; rw [if_pos ⟨hv, by omega, by omega⟩]; rfl)
  have hN2 : (1 : Int) ≤ (2 : Int) := by omega
  have hN3 : 1 ≤ 2 := by omega
  have hN4 : 2 - 1 = 1 := rfl
  rw [hN1] at HE
  have HN1 := Lib.hid hN1
  clear hv hp hT hF hl h6 hN1
  go_enter Try.func21, Try.ntmps21
  go_wp2_with (go_at_call 13; refine (specRecValid _ p T F _ HV0.out).mono ?_; rintro e w1 ⟨rfl, hB⟩; rw [HV.out]; have HB1 := Lib.hid (below_more HB0.out hB); have hbx := HBX.out.below hB; have y0 := hbx.1; have y1 := hbx.2.1; have y2 := hbx.2.2; have HBX1 := Lib.hid hbx; have HBW1 := Lib.hid (HBW.out.below hB); clear hB hbx)
  have hs1 := HBW1.out.c.lt
  have hne : w.heap.size ≠ w.heap.size + 1 := by omega
  have hf0 : ∀ (W : World) (o o' : Nat) (v : Value), (W.setCell ⟨w.heap.size + 1, o, none⟩ v).cell? ⟨w.heap.size, o', none⟩ = W.cell? ⟨w.heap.size, o', none⟩ := fun W o o' v => World.cell?_setCell_far _ _ _ _ (by show w.heap.size + 1 ≠ w.heap.size; omega)
  have hs0 : w.heap.size < w1.heap.size := by omega
  have hs0' : w.heap.size ≠ w1.heap.size := by omega
  have HOb := Lib.hid (OIb (oi_empty w1 w1.heap.size (Nat.le_refl _)) (below_new_drew _))
  have HTb := Lib.hid (((HT2.out.below HB1.out).below (below_new _ (.cells #[] 3))).below (below_new_drew _))
  have ZS := HBX1.out
  have Zd := HBX1.out.drew
  unfold Bx at ZS Zd
  go_region_held3 (fun w' => w'.cell? ⟨w.heap.size, 0, none⟩ = some (.int .i64 p) ∧ w'.cell? ⟨w.heap.size, 1, none⟩ = some (.slice A n c) ∧ w'.cell? ⟨w.heap.size, 2, none⟩ = some (.slice A' 1 c')) (first | assumption | exact ZB | exact ZA | exact Zd | exact ZS | (refine ⟨?_, ?_, ?_⟩ <;> (simp only [hf0]; assumption)) | go_keep)
    (first
      | (refine step_app_any rfl (.tmp 9) (.tmp 11) rfl rfl w1.heap.size w1.heap.size 0 0 [] rfl HOb.out A n c b o T rfl HTb.out (fun hA => Classical.byContradiction fun hc => by have := HT2.out.adr (by omega); rw [hA] at this; cases this) (by omega) (below_new w1 _).size ?_; intro A6 c6 w2 hO6 hg6; have hb6 : Below w1.heap.size w1 w2 := (by exact (below_new w1 (.cells #[] 3)).drew.trans ((keep_grown hg6).below (below_new w1 _).size (fun k hk => by cases hk; exact Nat.le_refl _))); have hO6' := hO6; rw [Nat.zero_add, List.nil_append] at hO6'; have HO6 := Lib.hid hO6'; have HB2 := Lib.hid (below_more HB1.out hb6); have hs12 : w1.heap.size ≤ w2.heap.size := hb6.size; have HBX2 := Lib.hid (HBX1.out.below hb6); have HBW2 := Lib.hid (HBW1.out.below hb6); have ZA := HBX2.out; unfold Bx at ZA; have HV2 := Lib.hid (H.out.below HB2.out); have hs20 : w.heap.size < w2.heap.size := HBX2.out.lt; clear hO6 hO6' hg6 hb6)
      | (go_at_call 43; refine (specL3 _ p T F 2 _ HV2.out HV.out (by omega)).mono ?_; rintro e w3 ⟨A5, c5, rfl, hO, hB⟩; have hcap := OI.capLe hO; have hcz0 : 1 ≤ c5 - 1 := (by omega); have hcz : (1 : Int) ≤ ((c5 - 1 : Nat) : Int) := (by omega); have hcz1 : ¬ c5 = 1 := (by omega); have hcz2 : (1 : Int) ≤ (c5 : Int) - 1 := (by omega); have HO5 := Lib.hid hO; have HB3 := Lib.hid (below_more HB2.out hB); have HO7 := Lib.hid (OIb HO6.out hB); have HBX3 := HBX2.out.below hB; have ZB := HBX3; unfold Bx at ZB; have hbw := HBW2.out.below hB; have x0 := hbw.c.1; have x1 := hbw.c.2.1; have x2 := hbw.c.2.2; have fz := hbw.fz; clear hB hbw hO HBX3))
  all_goals
    clear ZS Zd
    obtain ⟨A7, hA7⟩ : ∃ A7, Option.map (fun x : Addr => ({ block := x.block, off := x.off + 1 } : Addr)) A5 = A7 := ⟨_, rfl⟩
    rw [hA7]
    have hs3 := HB3.out.size
    have hs2 := HB2.out.size
    have HOW := Lib.hid (show OW w3 w2.heap.size A7 1 (c5 - 1) ((trm p T F 2).drop 1) from by
      obtain ⟨q5, rfl⟩ := oi_some HO5.out (by omega)
      have hlt5 := HO5.out.lt q5 rfl
      have hO : OI w3 w2.heap.size (some ⟨q5, 0, none⟩) (1 + 1) c5 (trm p T F (1 + 1)) := HO5.out
      show OW w3 w2.heap.size A7 1 (c5 - 1) ((trm p T F (1 + 1)).drop 1)
      obtain ⟨x, xs, hxs⟩ : ∃ x xs, trm p T F (1 + 1) = x :: xs := by
        cases ht : trm p T F (1 + 1) with
        | nil => have := trm_len p T F (1 + 1); rw [ht] at this; simp at this
        | cons x xs => exact ⟨x, xs, rfl⟩
      rw [hxs] at hO ⊢
      rw [← hA7]
      exact hO.tail)
    have hb7 : ∀ g, (Value.slice A7 1 (c5 - 1)).ownBlock = some g → w2.heap.size ≤ g := fun g hg => by
      obtain ⟨_, _, _, hN1, _⟩ := HOW.out
      exact (hN1 g hg).1
    have HB7 := Lib.hid hb7
    have HLT := Lib.hid (show ∀ g, (Value.slice A6 n c6).ownBlock = some g → w1.heap.size ≤ g ∧ g < w2.heap.size from fun g hg => HO6.out.lt g hg)
    have HA7 := Lib.hid hA7
    clear hA7 hb7
    go_wp2_with (fail)
    refine bodyPost_ret (v := .agg #[.int .i64 p, .slice A6 n c6, .slice A7 1 (c5 - 1)]) (by have hA7 := HA7.out; simp [results, Try.f21, go_sem, x0, x1, x2, Function.comp_def, hA7]) rfl ?_
    rw [HE.out]
    rw [show Option.map ((fun x : Addr => x) ∘ fun x : Addr => ({ block := x.block, off := x.off + 1 } : Addr)) A5 = A7 from HA7.out]
    refine madeW_set3 (g := w.heap.size + 1) HB3.out HL.out (by rw [List.length_drop, trm_len]) HO7.out.ow HOW.out (by show w.heap.size ≤ w1.heap.size; omega) hs2 (by omega) (fun k hk => by have := (HLT.out k hk).1; omega) (fun k hk => by have := HB7.out k hk; omega) ?_
    rcases hg : (Value.slice A6 n c6).ownBlock with _ | g
    · exact .inl hg
    · right
      rw [hg]
      intro e
      have h1 := (HLT.out g hg).2
      have hN1 := HB7.out g e.symm
      omega
set_option maxRecDepth 100000 in
set_option maxHeartbeats 2000000 in
theorem specRecNext0 (v : Value) (p : Int) (T F : List Int) (w : World) (h : RV w v p T F) (hF2 : F.length = 0) :
    Calls Try.prog 21 #[v] w (MadeW (nextO p T F).1 (nextO p T F).2.1 (nextO p T F).2.2 w) := by
  obtain ⟨A, n, c, b, o, A', n', c', b', o', rfl, g1, g2⟩ := h
  have hl0 := g2.len
  rw [hF2] at hl0
  subst hl0
  have H := Lib.hid (show RV w (.agg #[.int .i64 p, .slice A n c, .slice A' 0 c']) p T F from ⟨_, _, _, _, _, _, _, _, _, _, rfl, g1, g2⟩)
  have HT2 := Lib.hid g1
  have HL := Lib.hid g1.len
  have HL' := Lib.hid g2.len
  have hbx := (Bx.new w (.int .i64 p) (.slice A n c) (.slice A' 0 c') 25).below (below_new _ (.cells #[.int .i64 0, .slice none 0 0, .slice none 0 0] 25))
  have hbw := BxW.new (w.alloc (.cells #[.int .i64 p, .slice A n c, .slice A' 0 c'] 25)) (.int .i64 0) (.slice none 0 0) (.slice none 0 0) 25
  rw [World.size_alloc] at hbw
  have hB0 := ((Below.refl w.heap.size w).alloc (Nat.le_refl _) (.cells #[.int .i64 p, .slice A n c, .slice A' 0 c'] 25)).alloc (by simp) (.cells #[.int .i64 0, .slice none 0 0, .slice none 0 0] 25)
  have HV0 := Lib.hid (H.out.below hB0)
  have HBX := Lib.hid hbx
  have HBW := Lib.hid hbw
  have HB0 := Lib.hid hB0
  clear g1 g2 hbx hbw hB0
  rcases hv : recB p T F
  · have HV := Lib.hid hv
    have HE := Lib.hid (show nextO p T F = (0, [], []) by unfold nextO; rw [if_neg (by simp [hv])])
    clear hv
    go_enter Try.func21, Try.ntmps21
    go_wp2_with (go_at_call 13; refine (specRecValid _ p T F _ HV0.out).mono ?_; rintro e w1 ⟨rfl, hB⟩; rw [HV.out]; have HB1 := Lib.hid (below_more HB0.out hB); have hbw := HBW.out.below hB; have x0 := hbw.c.1; have x1 := hbw.c.2.1; have x2 := hbw.c.2.2; have fz := hbw.fz; clear hB hbw)
    refine bodyPost_ret (v := .agg #[.int .i64 0, .slice none 0 0, .slice none 0 0]) (by simp [results, Try.f21, go_sem, x0, x1, x2]) rfl ?_
    rw [HE.out]
    exact (made_zero HB1.out (by omega)).w
  have HV := Lib.hid hv
  obtain ⟨hp, h6, hl, hT, hF⟩ := recB_true hv
  have HE := Lib.hid (show nextO p T F = (p, T, (trm p T F (0 + 1)).drop 1) by unfold nextO; rw [if_pos hv, HL'.out])
  have hn6 : 0 ≤ 8 := by rw [← HL'.out]; omega
  have hn6' : n ≤ 8 := by rw [← HL.out]; omega
  have hN1 : 0 + 1 = 1 := rfl
  have HTE := Lib.hid (show termsO p T F (1 : Int) = trm p T F 1 by unfold termsO; rw [if_pos ⟨hv, by omega, by omega⟩]; rfl)
  have hN2 : (1 : Int) ≤ (1 : Int) := by omega
  have hN3 : 1 ≤ 1 := by omega
  have hN4 : 1 - 1 = 0 := rfl
  rw [hN1] at HE
  have HN1 := Lib.hid hN1
  clear hv hp hT hF hl h6 hN1
  go_enter Try.func21, Try.ntmps21
  go_wp2_with (go_at_call 13; refine (specRecValid _ p T F _ HV0.out).mono ?_; rintro e w1 ⟨rfl, hB⟩; rw [HV.out]; have HB1 := Lib.hid (below_more HB0.out hB); have hbx := HBX.out.below hB; have y0 := hbx.1; have y1 := hbx.2.1; have y2 := hbx.2.2; have HBX1 := Lib.hid hbx; have HBW1 := Lib.hid (HBW.out.below hB); clear hB hbx)
  have hs1 := HBW1.out.c.lt
  have hne : w.heap.size ≠ w.heap.size + 1 := by omega
  have hf0 : ∀ (W : World) (o o' : Nat) (v : Value), (W.setCell ⟨w.heap.size + 1, o, none⟩ v).cell? ⟨w.heap.size, o', none⟩ = W.cell? ⟨w.heap.size, o', none⟩ := fun W o o' v => World.cell?_setCell_far _ _ _ _ (by show w.heap.size + 1 ≠ w.heap.size; omega)
  have hs0 : w.heap.size < w1.heap.size := by omega
  have hs0' : w.heap.size ≠ w1.heap.size := by omega
  have HOb := Lib.hid (OIb (oi_empty w1 w1.heap.size (Nat.le_refl _)) (below_new_drew _))
  have HTb := Lib.hid (((HT2.out.below HB1.out).below (below_new _ (.cells #[] 3))).below (below_new_drew _))
  have ZS := HBX1.out
  have Zd := HBX1.out.drew
  unfold Bx at ZS Zd
  go_region_held3 (fun w' => w'.cell? ⟨w.heap.size, 0, none⟩ = some (.int .i64 p) ∧ w'.cell? ⟨w.heap.size, 1, none⟩ = some (.slice A n c) ∧ w'.cell? ⟨w.heap.size, 2, none⟩ = some (.slice A' 0 c')) (first | assumption | exact ZB | exact ZA | exact Zd | exact ZS | (refine ⟨?_, ?_, ?_⟩ <;> (simp only [hf0]; assumption)) | go_keep)
    (first
      | (refine step_app_any rfl (.tmp 9) (.tmp 11) rfl rfl w1.heap.size w1.heap.size 0 0 [] rfl HOb.out A n c b o T rfl HTb.out (fun hA => Classical.byContradiction fun hc => by have := HT2.out.adr (by omega); rw [hA] at this; cases this) (by omega) (below_new w1 _).size ?_; intro A6 c6 w2 hO6 hg6; have hb6 : Below w1.heap.size w1 w2 := (by exact (below_new w1 (.cells #[] 3)).drew.trans ((keep_grown hg6).below (below_new w1 _).size (fun k hk => by cases hk; exact Nat.le_refl _))); have hO6' := hO6; rw [Nat.zero_add, List.nil_append] at hO6'; have HO6 := Lib.hid hO6'; have HB2 := Lib.hid (below_more HB1.out hb6); have hs12 : w1.heap.size ≤ w2.heap.size := hb6.size; have HBX2 := Lib.hid (HBX1.out.below hb6); have HBW2 := Lib.hid (HBW1.out.below hb6); have ZA := HBX2.out; unfold Bx at ZA; have HV2 := Lib.hid (H.out.below HB2.out); have hs20 : w.heap.size < w2.heap.size := HBX2.out.lt; clear hO6 hO6' hg6 hb6)
      | (go_at_call 43; refine (specL3 _ p T F 1 _ HV2.out HV.out (by omega)).mono ?_; rintro e w3 ⟨A5, c5, rfl, hO, hB⟩; have hcap := OI.capLe hO; have hcz0 : 0 ≤ c5 - 1 := (by omega); have hcz : (0 : Int) ≤ ((c5 - 1 : Nat) : Int) := (by omega); have hcz2 : (0 : Int) ≤ (c5 : Int) - 1 := (by omega); have HO5 := Lib.hid hO; have HB3 := Lib.hid (below_more HB2.out hB); have HO7 := Lib.hid (OIb HO6.out hB); have HBX3 := HBX2.out.below hB; have ZB := HBX3; unfold Bx at ZB; have hbw := HBW2.out.below hB; have x0 := hbw.c.1; have x1 := hbw.c.2.1; have x2 := hbw.c.2.2; have fz := hbw.fz; clear hB hbw hO HBX3))
  all_goals
    clear ZS Zd
    have hs3 := HB3.out.size
    have hs2 := HB2.out.size
    have HOW := Lib.hid (show OW w3 w2.heap.size A5 0 c5 ((trm p T F 1).drop 1) from by
      obtain ⟨q5, rfl⟩ := oi_some HO5.out (by omega)
      have hlt5 := HO5.out.lt q5 rfl
      rw [List.drop_of_length_le (by rw [trm_len]; exact Nat.le_refl _)]
      exact OW.nil hlt5.1 hlt5.2)
    have hb7 : ∀ g, (Value.slice A5 0 c5).ownBlock = some g → w2.heap.size ≤ g := fun g hg => by
      obtain ⟨_, _, _, h2, _⟩ := HOW.out
      exact (h2 g hg).1
    have HB7 := Lib.hid hb7
    have HLT := Lib.hid (show ∀ g, (Value.slice A6 n c6).ownBlock = some g → w1.heap.size ≤ g ∧ g < w2.heap.size from fun g hg => HO6.out.lt g hg)
    clear hb7
    go_wp2_with (fail)
    refine bodyPost_ret (v := .agg #[.int .i64 p, .slice A6 n c6, .slice A5 0 c5]) (by simp [results, Try.f21, go_sem, x0, x1, x2]) rfl ?_
    rw [HE.out]
    refine madeW_set3 (g := w.heap.size + 1) HB3.out HL.out (by rw [List.length_drop, trm_len]) HO7.out.ow HOW.out (by show w.heap.size ≤ w1.heap.size; omega) hs2 (by omega) (fun k hk => by have := (HLT.out k hk).1; omega) (fun k hk => by have := HB7.out k hk; omega) ?_
    rcases hg : (Value.slice A6 n c6).ownBlock with _ | g
    · exact .inl hg
    · right
      rw [hg]
      intro e
      have hN1 := (HLT.out g hg).2
      have h2 := HB7.out g e.symm
      omega
theorem specRecNext (v : Value) (p : Int) (T F : List Int) (w : World) (h : RV w v p T F) :
    Calls Try.prog 21 #[v] w (MadeW (nextO p T F).1 (nextO p T F).2.1 (nextO p T F).2.2 w) := by
  by_cases h2 : 2 ≤ F.length
  · exact specRecNext2 v p T F w h h2
  · by_cases h1 : F.length = 1
    · exact specRecNext1 v p T F w h h1
    · exact specRecNext0 v p T F w h (by omega)
end Go.Proofs.Ytllakclbgmingaa

/-
  The contracts of WaBack, of the model and of the program.
-/
import Derived.Deep.RegionHeld3
import Derived.Deep.DeepCutAuto
import Derived.Test.YtegkmolffemkpaaWbk
import Derived.Test.YtegkmolffemkpaaClo
import Derived.Test.YtegkmolffemkpaaBx5
import Derived.Test.YtegkmolffemkpaaSta
namespace Go.Proofs.Ytegkmolffemkpaa
open Go.RowKit
def backR (p : Int) (S : List Int) (MA MB : List (List Int)) (E : List Int) : WaT := if waB p S MA MB E = true then (p, E, backM MA, backM MB, S) else waZ
theorem back_turn {p : Int} {n : Nat} {M : List (List Int)} (h : sqB p n M = true) (hn : n ≤ 6) : turnR p M = backM M := by
  obtain ⟨h1, h2⟩ := sqB_true h
  cases M with
  | nil => simp [turnR, matB, backM]
  | cons r M =>
    obtain ⟨h3, h4⟩ := h2 r (by simp)
    have hl : 1 ≤ n := by rw [← h1]; simp
    have hv : matB p (r :: M) = true := by
      rw [matB_of (by rw [List.headD_cons]; omega), List.headD_cons, List.all_eq_true]
      intro row hr
      obtain ⟨h5, h6⟩ := h2 row hr
      simp only [rowOk, Bool.and_eq_true, decide_eq_true_eq]
      exact ⟨by omega, h6⟩
    unfold turnR turnM backM
    rw [if_pos hv, List.headD_cons, h3, h1]
theorem oi_emp (w : World) (B : Nat) (hB : B ≤ w.heap.size) : OI (w.alloc (.cells #[] 3)) B (some ⟨w.heap.size, 0, none⟩) 0 0 [] := owns_mono (OI.empty w) hB
theorem bel_new (W : World) (o : Obj) : Below W.heap.size W (W.alloc o) := (Below.refl _ W).alloc (Nat.le_refl _) o
theorem bel_drew (W : World) : Below W.heap.size W W.drew := (Below.refl _ W).drew
set_option maxRecDepth 100000 in
set_option maxHeartbeats 4000000 in
theorem implWaBack (v : Value) (p : Int) (S : List Int) (MA MB : List (List Int)) (E : List Int) (w : World) (h : WV w v p S MA MB E) :
    Calls Try.prog 32 #[v] w (MadeW (backR p S MA MB E).1 (backR p S MA MB E).2.1 (backR p S MA MB E).2.2.1 (backR p S MA MB E).2.2.2.1 (backR p S MA MB E).2.2.2.2 w) := by
  obtain ⟨A1, n1, c1, b1, o1, A2, n2, c2, b2, o2, A3, n3, c3, b3, o3, A4, n4, c4, b4, o4, rfl, g1, g2, g3, g4⟩ := h
  have hbx := (Bx5.new w (.int .i64 p) (.slice A1 n1 c1) (.slice A2 n2 c2) (.slice A3 n3 c3) (.slice A4 n4 c4) 26).below (bel_new _ (.cells #[.int .i64 0, .slice none 0 0, .slice none 0 0, .slice none 0 0, .slice none 0 0] 26))
  have hbw := BxW5.new (w.alloc (.cells #[.int .i64 p, .slice A1 n1 c1, .slice A2 n2 c2, .slice A3 n3 c3, .slice A4 n4 c4] 26)) (.int .i64 0) (.slice none 0 0) (.slice none 0 0) (.slice none 0 0) (.slice none 0 0) 26
  rw [World.size_alloc] at hbw
  have hb0 : Below w.heap.size w ((w.alloc (.cells #[.int .i64 p, .slice A1 n1 c1, .slice A2 n2 c2, .slice A3 n3 c3, .slice A4 n4 c4] 26)).alloc (.cells #[.int .i64 0, .slice none 0 0, .slice none 0 0, .slice none 0 0, .slice none 0 0] 26)) := ((Below.refl _ w).alloc (Nat.le_refl _) _).alloc (by simp) _
  have HV := Lib.hid (show WV _ _ p S MA MB E from ⟨A1, n1, c1, b1, o1, A2, n2, c2, b2, o2, A3, n3, c3, b3, o3, A4, n4, c4, b4, o4, rfl, g1.below hb0, g2.below hb0, g3.below hb0, g4.below hb0⟩)
  have HL1 := Lib.hid g1.len
  have H1 := Lib.hid (g1.below hb0)
  have HL2 := Lib.hid g2.len
  have H2 := Lib.hid (g2.below hb0)
  have HL3 := Lib.hid g3.len
  have H3 := Lib.hid (g3.below hb0)
  have HL4 := Lib.hid g4.len
  have H4 := Lib.hid (g4.below hb0)
  have HBX := Lib.hid hbx
  have HBW := Lib.hid hbw
  have HB0 := Lib.hid hb0
  clear g1 g2 g3 g4 hb0 hbx hbw
  go_enter Try.func32, Try.ntmps32
  go_upto_region 1 with (fail)
  obtain ⟨wb, hwb⟩ : ∃ wb, (w.alloc (.cells #[.int .i64 p, .slice A1 n1 c1, .slice A2 n2 c2, .slice A3 n3 c3, .slice A4 n4 c4] 26)).alloc (.cells #[.int .i64 0, .slice none 0 0, .slice none 0 0, .slice none 0 0, .slice none 0 0] 26) = wb := ⟨_, rfl⟩
  rw [hwb] at HBX HBW H1 H2 H3 H4 HV HB0
  rw [hwb]
  have hsb : w.heap.size + 2 ≤ wb.heap.size := by rw [← hwb]; simp
  clear hwb
  obtain ⟨x0, x1, x2, x3, x4⟩ := HBX.out
  go_wp2_with (fail)
  refine (implWaValid _ p S MA MB E _ HV.out).mono ?_
  rintro e w1 ⟨rfl, hB1⟩
  clear x0 x1 x2 x3 x4
  have HBX := Lib.hid (HBX.out.below hB1)
  have HBW := Lib.hid (HBW.out.below hB1)
  obtain ⟨x0, x1, x2, x3, x4⟩ := HBX.out
  obtain ⟨⟨r0, r1, r2, r3, r4⟩, fz⟩ := HBW.out
  have H1 := Lib.hid (H1.out.below hB1)
  have H2 := Lib.hid (H2.out.below hB1)
  have H3 := Lib.hid (H3.out.below hB1)
  have H4 := Lib.hid (H4.out.below hB1)
  have hs1 := hB1.size
  have HB1 := Lib.hid (HB0.out.trans (hB1.mono (by omega)))
  clear hB1
  rcases hv : waB p S MA MB E
  · have HE := Lib.hid (show backR p S MA MB E = waZ by unfold backR; rw [hv]; rfl)
    go_wp2_with (fail)
    refine bodyPost_ret (v := .agg #[.int .i64 0, .slice none 0 0, .slice none 0 0, .slice none 0 0, .slice none 0 0]) (by simp [results, Try.f32, go_sem, r0, r1, r2, r3, r4]) rfl ?_
    rw [HE.out]
    exact madew_zero HB1.out (by omega)
  have HE := Lib.hid (show backR p S MA MB E = (p, E, backM MA, backM MB, S) by unfold backR; rw [hv]; rfl)
  obtain ⟨hp, h6, hE, hS, hEv, hA, hB⟩ := waB_true hv
  obtain rfl : n4 = n1 := by rw [← HL4.out, hE, HL1.out]
  obtain rfl : n2 = n4 := by rw [← HL2.out, (sqB_true hA).1, HL1.out]
  obtain rfl : n3 = n2 := by rw [← HL3.out, (sqB_true hB).1, HL1.out]
  rw [HL1.out] at h6 hA hB
  have HTA := Lib.hid (back_turn hA h6)
  have HTB := Lib.hid (back_turn hB h6)
  have HRA := Lib.hid (show ∀ r ∈ MA, r.length = n3 from fun r hr => ((sqB_true hA).2 r hr).1)
  have HRB := Lib.hid (show ∀ r ∈ MB, r.length = n3 from fun r hr => ((sqB_true hB).2 r hr).1)
  clear hp hS hEv hE hA hB hv
  go_wp2_with (fail)
  have HB0 := Lib.hid (bel_drew w1)
  have cd0 : w1.drew.cell? ⟨w.heap.size, 0, none⟩ = some (.int .i64 p) := x0
  have cd1 : w1.drew.cell? ⟨w.heap.size, 1, none⟩ = some (.slice A1 n3 c1) := x1
  have cd2 : w1.drew.cell? ⟨w.heap.size, 2, none⟩ = some (.slice A2 n3 c2) := x2
  have cd3 : w1.drew.cell? ⟨w.heap.size, 3, none⟩ = some (.slice A3 n3 c3) := x3
  have cd4 : w1.drew.cell? ⟨w.heap.size, 4, none⟩ = some (.slice A4 n3 c4) := x4
  have Z0 : w1.cell? ⟨w.heap.size, 0, none⟩ = some (.int .i64 p) ∧ w1.cell? ⟨w.heap.size, 1, none⟩ = some (.slice A1 n3 c1) ∧ w1.cell? ⟨w.heap.size, 2, none⟩ = some (.slice A2 n3 c2) ∧ w1.cell? ⟨w.heap.size, 3, none⟩ = some (.slice A3 n3 c3) ∧ w1.cell? ⟨w.heap.size, 4, none⟩ = some (.slice A4 n3 c4) := ⟨x0, x1, x2, x3, x4⟩
  have Z1 : w1.drew.cell? ⟨w.heap.size, 0, none⟩ = some (.int .i64 p) ∧ w1.drew.cell? ⟨w.heap.size, 1, none⟩ = some (.slice A1 n3 c1) ∧ w1.drew.cell? ⟨w.heap.size, 2, none⟩ = some (.slice A2 n3 c2) ∧ w1.drew.cell? ⟨w.heap.size, 3, none⟩ = some (.slice A3 n3 c3) ∧ w1.drew.cell? ⟨w.heap.size, 4, none⟩ = some (.slice A4 n3 c4) := ⟨cd0, cd1, cd2, cd3, cd4⟩
  have H1 := Lib.hid (H1.out.below (bel_drew w1))
  have H2 := Lib.hid (H2.out.below (bel_drew w1))
  have H3 := Lib.hid (H3.out.below (bel_drew w1))
  have H4 := Lib.hid (H4.out.below (bel_drew w1))
  have HBW := Lib.hid HBW.out.drew
  have HD := Lib.hid (show w1.drew.heap.size = w1.heap.size from rfl)
  clear r0 r1 r2 r3 r4 fz
  have hfa : ∀ (W : World) (o o' : Nat) (v : Value), (W.setCell ⟨w.heap.size + 1, o, none⟩ v).cell? ⟨w.heap.size, o', none⟩ = W.cell? ⟨w.heap.size, o', none⟩ := fun W o o' v => World.cell?_setCell_far _ _ _ _ (by show w.heap.size + 1 ≠ w.heap.size; omega)
  go_region_held3 (fun w' => w'.cell? ⟨w.heap.size, 0, none⟩ = some (.int .i64 p) ∧ w'.cell? ⟨w.heap.size, 1, none⟩ = some (.slice A1 n3 c1) ∧ w'.cell? ⟨w.heap.size, 2, none⟩ = some (.slice A2 n3 c2) ∧ w'.cell? ⟨w.heap.size, 3, none⟩ = some (.slice A3 n3 c3) ∧ w'.cell? ⟨w.heap.size, 4, none⟩ = some (.slice A4 n3 c4)) (first | (refine ⟨?_, ?_, ?_, ?_, ?_⟩ <;> (simp only [hfa]; (with_reducible assumption))) | (with_reducible exact Z5) | (with_reducible exact Z4) | (with_reducible exact Z3) | (with_reducible exact Z2) | (with_reducible exact Z1) | (with_reducible exact Z0) | go_keep) (first | (go_at_call 64; (with_reducible refine (clone_any A4 n3 c4 b4 o4 E _ H4.out (by omega)).mono ?_); rintro e wc1 ⟨D1, d1, rfl, hO, hN⟩; have hkN := keep_of_below hN; have ce0 := hkN.cell cd0 (fun h => h); have ce1 := hkN.cell cd1 (fun h => h); have ce2 := hkN.cell cd2 (fun h => h); have ce3 := hkN.cell cd3 (fun h => h); have ce4 := hkN.cell cd4 (fun h => h); have Z2 := (And.intro ce0 (And.intro ce1 (And.intro ce2 (And.intro ce3 (ce4))))); have H1 := Lib.hid (H1.out.below hN); have H2 := Lib.hid (H2.out.below hN); have H3 := Lib.hid (H3.out.below hN); have H4 := Lib.hid (H4.out.below hN); have HBW := Lib.hid (HBW.out.below hN); have hz1 := hN.size; have HO1 := Lib.hid hO; have HM1 := Lib.hid ((fun g hg => hO.lt g hg : ∀ g, (Value.slice D1 n3 d1).ownBlock = some g → w1.drew.heap.size ≤ g ∧ g < wc1.heap.size)); have HB0 := Lib.hid (below_more HB0.out hN); clear hO hN hkN) | (go_at_call 65; (with_reducible refine (implMatTurn p A2 n3 c2 b2 o2 MA _ H2.out).mono ?_); rw [HTA.out]; rintro e wc2 ⟨D2, d2, vs2, rfl, hO, hN⟩; have hkN := keep_of_below hN; have cf0 := hkN.cell ce0 (fun h => h); have cf1 := hkN.cell ce1 (fun h => h); have cf2 := hkN.cell ce2 (fun h => h); have cf3 := hkN.cell ce3 (fun h => h); have cf4 := hkN.cell ce4 (fun h => h); have Z3 := (And.intro cf0 (And.intro cf1 (And.intro cf2 (And.intro cf3 (cf4))))); have H1 := Lib.hid (H1.out.below hN); have H2 := Lib.hid (H2.out.below hN); have H3 := Lib.hid (H3.out.below hN); have H4 := Lib.hid (H4.out.below hN); have HBW := Lib.hid (HBW.out.below hN); have hz2 := hN.size; have HO1 := Lib.hid (OIb HO1.out hN); have HO2 := Lib.hid hO; have HM2 := Lib.hid (hO.mlt); have HB0 := Lib.hid (below_more HB0.out hN); clear hO hN hkN) | (go_at_call 65; (with_reducible refine (implMatTurn p A3 n3 c3 b3 o3 MB _ H3.out).mono ?_); rw [HTB.out]; rintro e wc3 ⟨D3, d3, vs3, rfl, hO, hN⟩; have hkN := keep_of_below hN; have cg0 := hkN.cell cf0 (fun h => h); have cg1 := hkN.cell cf1 (fun h => h); have cg2 := hkN.cell cf2 (fun h => h); have cg3 := hkN.cell cf3 (fun h => h); have cg4 := hkN.cell cf4 (fun h => h); have Z4 := (And.intro cg0 (And.intro cg1 (And.intro cg2 (And.intro cg3 (cg4))))); have H1 := Lib.hid (H1.out.below hN); have H2 := Lib.hid (H2.out.below hN); have H3 := Lib.hid (H3.out.below hN); have H4 := Lib.hid (H4.out.below hN); have HBW := Lib.hid (HBW.out.below hN); have hz3 := hN.size; have HO1 := Lib.hid (OIb HO1.out hN); have HO2 := Lib.hid (HO2.out.below hN); have HO3 := Lib.hid hO; have HM3 := Lib.hid (hO.mlt); have HB0 := Lib.hid (below_more HB0.out hN); clear hO hN hkN) | (go_at_call 64; (with_reducible refine (clone_any A1 n3 c1 b1 o1 S _ H1.out (by omega)).mono ?_); rintro e wc4 ⟨D4, d4, rfl, hO, hN⟩; have hkN := keep_of_below hN; have ch0 := hkN.cell cg0 (fun h => h); have ch1 := hkN.cell cg1 (fun h => h); have ch2 := hkN.cell cg2 (fun h => h); have ch3 := hkN.cell cg3 (fun h => h); have ch4 := hkN.cell cg4 (fun h => h); have Z5 := (And.intro ch0 (And.intro ch1 (And.intro ch2 (And.intro ch3 (ch4))))); have H1 := Lib.hid (H1.out.below hN); have H2 := Lib.hid (H2.out.below hN); have H3 := Lib.hid (H3.out.below hN); have H4 := Lib.hid (H4.out.below hN); have HBW := Lib.hid (HBW.out.below hN); have hz4 := hN.size; have HO1 := Lib.hid (OIb HO1.out hN); have HO2 := Lib.hid (HO2.out.below hN); have HO3 := Lib.hid (HO3.out.below hN); have HO4 := Lib.hid hO; have HM4 := Lib.hid ((fun g hg => hO.lt g hg : ∀ g, (Value.slice D4 n3 d4).ownBlock = some g → wc3.heap.size ≤ g ∧ g < wc4.heap.size)); have HB0 := Lib.hid (below_more HB0.out hN); obtain ⟨⟨r0, r1, r2, r3, r4⟩, fz⟩ := HBW.out; clear hO hN hkN))
  go_wp2_with (fail)
  have hd1 := backM_len MA
  have hd2 := backM_len MB
  refine bodyPost_ret (v := .agg #[.int .i64 p, .slice D1 n3 d1, .slice D2 (backM MA).length d2, .slice D3 (backM MB).length d3, .slice D4 n3 d4]) (by simp [results, Try.f32, go_sem, r0, r1, r2, r3, r4]) rfl ?_
  rw [HE.out]
  have e1 := HL1.out
  have e4 := HL4.out
  have hd := HD.out
  refine madew_put (B := w1.drew.heap.size) (hi := wc4.heap.size) ?_ (below_more HB1.out HB0.out) (by omega) (by omega) (by omega) (Nat.le_refl _)
  have hval : Value.agg #[.int .i64 p, .slice D1 n3 d1, .slice D2 (backM MA).length d2, .slice D3 (backM MB).length d3, .slice D4 n3 d4] = .agg #[.int .i64 p, .slice D1 E.length d1, .slice D2 (backM MA).length d2, .slice D3 (backM MB).length d3, .slice D4 S.length d4] := by rw [e1, e4]
  rw [hval]
  have HO1 : OI wc4 w1.drew.heap.size D1 E.length d1 E := by rw [e4]; exact HO1.out
  have HO4 : OI wc4 wc3.heap.size D4 S.length d4 S := by rw [e1]; exact HO4.out
  have HM1 : ∀ g, (Value.slice D1 E.length d1).ownBlock = some g → w1.drew.heap.size ≤ g ∧ g < wc1.heap.size := by rw [e4]; exact HM1.out
  have HM4 : ∀ g, (Value.slice D4 S.length d4).ownBlock = some g → wc3.heap.size ≤ g ∧ g < wc4.heap.size := by rw [e1]; exact HM4.out
  exact wo_seq (s1 := wc1.heap.size) (s2 := wc2.heap.size) (s3 := wc3.heap.size) HO1 (fun g hg => (HM1 g hg).2) HO2.out (fun g hg => (HM2.out g hg).2) HO3.out (fun g hg => (HM3.out g hg).2) HO4 (fun g hg => (HM4 g hg).2) hz1 hz2 hz3 hz4
set_option maxRecDepth 100000 in
set_option maxHeartbeats 4000000 in
theorem specWaBack (v : Value) (p : Int) (S : List Int) (MA MB : List (List Int)) (E : List Int) (w : World) (h : WV w v p S MA MB E) :
    Calls Try.prog 35 #[v] w (SaidW (backR p S MA MB E).1 (backR p S MA MB E).2.1 (backR p S MA MB E).2.2.1 (backR p S MA MB E).2.2.2.1 (backR p S MA MB E).2.2.2.2 w) := by
  obtain ⟨A1, n1, c1, b1, o1, A2, n2, c2, b2, o2, A3, n3, c3, b3, o3, A4, n4, c4, b4, o4, rfl, g1, g2, g3, g4⟩ := h
  have hbx := (Bx5.new w (.int .i64 p) (.slice A1 n1 c1) (.slice A2 n2 c2) (.slice A3 n3 c3) (.slice A4 n4 c4) 26).below (bel_new _ (.cells #[.int .i64 0, .slice none 0 0, .slice none 0 0, .slice none 0 0, .slice none 0 0] 26))
  have hbw := BxW5.new (w.alloc (.cells #[.int .i64 p, .slice A1 n1 c1, .slice A2 n2 c2, .slice A3 n3 c3, .slice A4 n4 c4] 26)) (.int .i64 0) (.slice none 0 0) (.slice none 0 0) (.slice none 0 0) (.slice none 0 0) 26
  rw [World.size_alloc] at hbw
  have hb0 : Below w.heap.size w ((w.alloc (.cells #[.int .i64 p, .slice A1 n1 c1, .slice A2 n2 c2, .slice A3 n3 c3, .slice A4 n4 c4] 26)).alloc (.cells #[.int .i64 0, .slice none 0 0, .slice none 0 0, .slice none 0 0, .slice none 0 0] 26)) := ((Below.refl _ w).alloc (Nat.le_refl _) _).alloc (by simp) _
  have HV := Lib.hid (show WV _ _ p S MA MB E from ⟨A1, n1, c1, b1, o1, A2, n2, c2, b2, o2, A3, n3, c3, b3, o3, A4, n4, c4, b4, o4, rfl, g1.below hb0, g2.below hb0, g3.below hb0, g4.below hb0⟩)
  have HL1 := Lib.hid g1.len
  have H1 := Lib.hid (g1.below hb0)
  have HL2 := Lib.hid g2.len
  have H2 := Lib.hid (g2.below hb0)
  have HL3 := Lib.hid g3.len
  have H3 := Lib.hid (g3.below hb0)
  have HL4 := Lib.hid g4.len
  have H4 := Lib.hid (g4.below hb0)
  have HBX := Lib.hid hbx
  have HBW := Lib.hid hbw
  have HB0 := Lib.hid hb0
  clear g1 g2 g3 g4 hb0 hbx hbw
  go_enter Try.func35, Try.ntmps35
  go_upto_region 1 with (fail)
  obtain ⟨wb, hwb⟩ : ∃ wb, (w.alloc (.cells #[.int .i64 p, .slice A1 n1 c1, .slice A2 n2 c2, .slice A3 n3 c3, .slice A4 n4 c4] 26)).alloc (.cells #[.int .i64 0, .slice none 0 0, .slice none 0 0, .slice none 0 0, .slice none 0 0] 26) = wb := ⟨_, rfl⟩
  rw [hwb] at HBX HBW H1 H2 H3 H4 HV HB0
  rw [hwb]
  have hsb : w.heap.size + 2 ≤ wb.heap.size := by rw [← hwb]; simp
  clear hwb
  obtain ⟨x0, x1, x2, x3, x4⟩ := HBX.out
  go_wp2_with (fail)
  refine (specWaValid _ p S MA MB E _ HV.out).mono ?_
  rintro e w1 ⟨rfl, hB1⟩
  clear x0 x1 x2 x3 x4
  have HBX := Lib.hid (HBX.out.below hB1)
  have HBW := Lib.hid (HBW.out.below hB1)
  obtain ⟨x0, x1, x2, x3, x4⟩ := HBX.out
  obtain ⟨⟨r0, r1, r2, r3, r4⟩, fz⟩ := HBW.out
  have H1 := Lib.hid (H1.out.below hB1)
  have H2 := Lib.hid (H2.out.below hB1)
  have H3 := Lib.hid (H3.out.below hB1)
  have H4 := Lib.hid (H4.out.below hB1)
  have hs1 := hB1.size
  have HB1 := Lib.hid (HB0.out.trans (hB1.mono (by omega)))
  clear hB1
  rcases hv : waB p S MA MB E
  · have HE := Lib.hid (show backR p S MA MB E = waZ by unfold backR; rw [hv]; rfl)
    go_wp2_with (fail)
    refine bodyPost_ret (v := .agg #[.int .i64 0, .slice none 0 0, .slice none 0 0, .slice none 0 0, .slice none 0 0]) (by simp [results, Try.f35, go_sem, r0, r1, r2, r3, r4]) rfl ?_
    rw [HE.out]
    exact saidw_zero HB1.out (by omega)
  have HE := Lib.hid (show backR p S MA MB E = (p, E, backM MA, backM MB, S) by unfold backR; rw [hv]; rfl)
  obtain ⟨hp, h6, hE, hS, hEv, hA, hB⟩ := waB_true hv
  obtain rfl : n4 = n1 := by rw [← HL4.out, hE, HL1.out]
  obtain rfl : n2 = n4 := by rw [← HL2.out, (sqB_true hA).1, HL1.out]
  obtain rfl : n3 = n2 := by rw [← HL3.out, (sqB_true hB).1, HL1.out]
  rw [HL1.out] at h6 hA hB
  have HTA := Lib.hid (back_turn hA h6)
  have HTB := Lib.hid (back_turn hB h6)
  have HRA := Lib.hid (show ∀ r ∈ MA, r.length = n3 from fun r hr => ((sqB_true hA).2 r hr).1)
  have HRB := Lib.hid (show ∀ r ∈ MB, r.length = n3 from fun r hr => ((sqB_true hB).2 r hr).1)
  clear hp hS hEv hE hA hB hv
  go_wp2_with (fail)
  clear r0 r1 r2 r3 r4 fz
  have cd0 : w1.drew.cell? ⟨w.heap.size, 0, none⟩ = some (.int .i64 p) := x0
  have cd1 : w1.drew.cell? ⟨w.heap.size, 1, none⟩ = some (.slice A1 n3 c1) := x1
  have cd2 : w1.drew.cell? ⟨w.heap.size, 2, none⟩ = some (.slice A2 n3 c2) := x2
  have cd3 : w1.drew.cell? ⟨w.heap.size, 3, none⟩ = some (.slice A3 n3 c3) := x3
  have cd4 : w1.drew.cell? ⟨w.heap.size, 4, none⟩ = some (.slice A4 n3 c4) := x4
  have Z0 : w1.cell? ⟨w.heap.size, 0, none⟩ = some (.int .i64 p) ∧ w1.cell? ⟨w.heap.size, 1, none⟩ = some (.slice A1 n3 c1) ∧ w1.cell? ⟨w.heap.size, 2, none⟩ = some (.slice A2 n3 c2) ∧ w1.cell? ⟨w.heap.size, 3, none⟩ = some (.slice A3 n3 c3) ∧ w1.cell? ⟨w.heap.size, 4, none⟩ = some (.slice A4 n3 c4) := ⟨x0, x1, x2, x3, x4⟩
  have Z1 : w1.drew.cell? ⟨w.heap.size, 0, none⟩ = some (.int .i64 p) ∧ w1.drew.cell? ⟨w.heap.size, 1, none⟩ = some (.slice A1 n3 c1) ∧ w1.drew.cell? ⟨w.heap.size, 2, none⟩ = some (.slice A2 n3 c2) ∧ w1.drew.cell? ⟨w.heap.size, 3, none⟩ = some (.slice A3 n3 c3) ∧ w1.drew.cell? ⟨w.heap.size, 4, none⟩ = some (.slice A4 n3 c4) := ⟨cd0, cd1, cd2, cd3, cd4⟩
  have hlt1 : w.heap.size < w1.heap.size := HBX.out.lt
  have hne1 : w.heap.size ≠ w1.heap.size := by omega
  have HN0 := Lib.hid (Below.refl w1.heap.size w1)
  have hfa : ∀ (W : World) (o o' : Nat) (v : Value), (W.setCell ⟨w.heap.size + 1, o, none⟩ v).cell? ⟨w.heap.size, o', none⟩ = W.cell? ⟨w.heap.size, o', none⟩ := fun W o o' v => World.cell?_setCell_far _ _ _ _ (by show w.heap.size + 1 ≠ w.heap.size; omega)
  go_region_held3 (fun w' => w'.cell? ⟨w.heap.size, 0, none⟩ = some (.int .i64 p) ∧ w'.cell? ⟨w.heap.size, 1, none⟩ = some (.slice A1 n3 c1) ∧ w'.cell? ⟨w.heap.size, 2, none⟩ = some (.slice A2 n3 c2) ∧ w'.cell? ⟨w.heap.size, 3, none⟩ = some (.slice A3 n3 c3) ∧ w'.cell? ⟨w.heap.size, 4, none⟩ = some (.slice A4 n3 c4)) (first | (refine ⟨?_, ?_, ?_, ?_, ?_⟩ <;> (simp only [hfa]; (with_reducible assumption))) | (with_reducible exact Z5) | (with_reducible exact Z4) | (with_reducible exact Z3) | (with_reducible exact Z2) | (with_reducible exact Z1) | (with_reducible exact Z0) | go_keep) (first | (refine step_app_copy rfl (.tmp 9) (.tmp 11) rfl _ rfl A4 n3 c4 b4 o4 E rfl (by first | exact H4.out | exact H4.out.below (bel_new _ _) | exact (H4.out.below (bel_new _ _)).below (bel_drew _) | exact ((H4.out.below (bel_new _ _)).below (bel_new _ _)).below (bel_drew _)) (by omega) ?_; intro D1 d1 wt1 hI hN; have hN' : Below w1.heap.size w1 wt1 := (by first | exact hN | exact below_more (bel_new w1 (.cells #[] 3)) hN | exact below_more (below_more (bel_new w1 (.cells #[] 3)) (bel_drew _)) hN | exact below_more (below_more (below_more (bel_new w1 (.cells #[] 3)) (bel_new _ (.cells #[] 3))) (bel_drew _)) hN); have hzwt1 : w1.heap.size ≤ wt1.heap.size := hN'.size; have H1 := Lib.hid (H1.out.below hN'); have H2 := Lib.hid (H2.out.below hN'); have H3 := Lib.hid (H3.out.below hN'); have H4 := Lib.hid (H4.out.below hN'); have HBX := Lib.hid (HBX.out.below hN'); have HBW := Lib.hid (HBW.out.below hN'); have HI1 := Lib.hid (show ∃ b', IA wt1 D1 n3 b' 0 E ∧ (0 < n3 → w1.heap.size ≤ b') from hI.elim (fun b' h => ⟨b', h.1, fun h0 => Nat.le_trans (Nat.le_trans HN0.out.size (by first | exact Nat.le_refl _ | exact (bel_new w1 (.cells #[] 3)).size | exact Nat.le_trans (bel_new w1 (.cells #[] 3)).size (bel_new _ (.cells #[] 3)).size)) (h.2 h0)⟩)); have HN0 := Lib.hid (below_more HN0.out hN'); have hlt2 : w.heap.size < wt1.heap.size := HBX.out.lt; have hne2 : w.heap.size ≠ wt1.heap.size := (by omega); obtain ⟨ce0, ce1, ce2, ce3, ce4⟩ := HBX.out; have Z2 := (And.intro ce0 (And.intro ce1 (And.intro ce2 (And.intro ce3 (ce4))))); clear hN hN' hI) | (go_at_call 68; (with_reducible refine (specTurn6 A2 n3 c2 b2 o2 MA _ (by first | exact H2.out | exact H2.out.below (bel_new _ _) | exact (H2.out.below (bel_new _ _)).below (bel_drew _) | exact ((H2.out.below (bel_new _ _)).below (bel_new _ _)).below (bel_drew _)) (by omega) HRA.out).mono ?_); rintro e wt2 ⟨D2, d2, vs2, rfl, hO, hN⟩; have hN' : Below wt1.heap.size wt1 wt2 := (by first | exact hN | exact below_more (bel_new wt1 (.cells #[] 3)) hN | exact below_more (below_more (bel_new wt1 (.cells #[] 3)) (bel_drew _)) hN | exact below_more (below_more (below_more (bel_new wt1 (.cells #[] 3)) (bel_new _ (.cells #[] 3))) (bel_drew _)) hN); have hzwt2 : wt1.heap.size ≤ wt2.heap.size := hN'.size; have H1 := Lib.hid (H1.out.below hN'); have H2 := Lib.hid (H2.out.below hN'); have H3 := Lib.hid (H3.out.below hN'); have H4 := Lib.hid (H4.out.below hN'); have HBX := Lib.hid (HBX.out.below hN'); have HBW := Lib.hid (HBW.out.below hN'); have HI1 := Lib.hid (show ∃ b', IA wt2 D1 n3 b' 0 E ∧ (0 < n3 → w1.heap.size ≤ b') from HI1.out.elim (fun b' h => ⟨b', h.1.below hN', h.2⟩)); have HI2 := Lib.hid (hO.mono (B' := w1.heap.size) (by first | exact HN0.out.size | exact Nat.le_trans HN0.out.size (bel_new wt1 (.cells #[] 3)).size)); have HN0 := Lib.hid (below_more HN0.out hN'); have hlt3 : w.heap.size < wt2.heap.size := HBX.out.lt; have hne3 : w.heap.size ≠ wt2.heap.size := (by omega); obtain ⟨cf0, cf1, cf2, cf3, cf4⟩ := HBX.out; have Z3 := (And.intro cf0 (And.intro cf1 (And.intro cf2 (And.intro cf3 (cf4))))); clear hN hN' hO) | (go_at_call 68; (with_reducible refine (specTurn6 A3 n3 c3 b3 o3 MB _ (by first | exact H3.out | exact H3.out.below (bel_new _ _) | exact (H3.out.below (bel_new _ _)).below (bel_drew _) | exact ((H3.out.below (bel_new _ _)).below (bel_new _ _)).below (bel_drew _)) (by omega) HRB.out).mono ?_); rintro e wt3 ⟨D3, d3, vs3, rfl, hO, hN⟩; have hN' : Below wt2.heap.size wt2 wt3 := (by first | exact hN | exact below_more (bel_new wt2 (.cells #[] 3)) hN | exact below_more (below_more (bel_new wt2 (.cells #[] 3)) (bel_drew _)) hN | exact below_more (below_more (below_more (bel_new wt2 (.cells #[] 3)) (bel_new _ (.cells #[] 3))) (bel_drew _)) hN); have hzwt3 : wt2.heap.size ≤ wt3.heap.size := hN'.size; have H1 := Lib.hid (H1.out.below hN'); have H2 := Lib.hid (H2.out.below hN'); have H3 := Lib.hid (H3.out.below hN'); have H4 := Lib.hid (H4.out.below hN'); have HBX := Lib.hid (HBX.out.below hN'); have HBW := Lib.hid (HBW.out.below hN'); have HI1 := Lib.hid (show ∃ b', IA wt3 D1 n3 b' 0 E ∧ (0 < n3 → w1.heap.size ≤ b') from HI1.out.elim (fun b' h => ⟨b', h.1.below hN', h.2⟩)); have HI2 := Lib.hid (HI2.out.below hN'); have HI3 := Lib.hid (hO.mono (B' := w1.heap.size) (by first | exact HN0.out.size | exact Nat.le_trans HN0.out.size (bel_new wt2 (.cells #[] 3)).size)); have HN0 := Lib.hid (below_more HN0.out hN'); have hlt4 : w.heap.size < wt3.heap.size := HBX.out.lt; have hne4 : w.heap.size ≠ wt3.heap.size := (by omega); obtain ⟨cg0, cg1, cg2, cg3, cg4⟩ := HBX.out; have Z4 := (And.intro cg0 (And.intro cg1 (And.intro cg2 (And.intro cg3 (cg4))))); clear hN hN' hO) | (refine step_app_copy rfl (.tmp 19) (.tmp 21) rfl _ rfl A1 n3 c1 b1 o1 S rfl (by first | exact H1.out | exact H1.out.below (bel_new _ _) | exact (H1.out.below (bel_new _ _)).below (bel_drew _) | exact ((H1.out.below (bel_new _ _)).below (bel_new _ _)).below (bel_drew _)) (by omega) ?_; intro D4 d4 wt4 hI hN; have hN' : Below wt3.heap.size wt3 wt4 := (by first | exact hN | exact below_more (bel_new wt3 (.cells #[] 3)) hN | exact below_more (below_more (bel_new wt3 (.cells #[] 3)) (bel_drew _)) hN | exact below_more (below_more (below_more (bel_new wt3 (.cells #[] 3)) (bel_new _ (.cells #[] 3))) (bel_drew _)) hN); have hzwt4 : wt3.heap.size ≤ wt4.heap.size := hN'.size; have H1 := Lib.hid (H1.out.below hN'); have H2 := Lib.hid (H2.out.below hN'); have H3 := Lib.hid (H3.out.below hN'); have H4 := Lib.hid (H4.out.below hN'); have HBX := Lib.hid (HBX.out.below hN'); have HBW := Lib.hid (HBW.out.below hN'); have HI1 := Lib.hid (show ∃ b', IA wt4 D1 n3 b' 0 E ∧ (0 < n3 → w1.heap.size ≤ b') from HI1.out.elim (fun b' h => ⟨b', h.1.below hN', h.2⟩)); have HI2 := Lib.hid (HI2.out.below hN'); have HI3 := Lib.hid (HI3.out.below hN'); have HI4 := Lib.hid (show ∃ b', IA wt4 D4 n3 b' 0 S ∧ (0 < n3 → w1.heap.size ≤ b') from hI.elim (fun b' h => ⟨b', h.1, fun h0 => Nat.le_trans (Nat.le_trans HN0.out.size (by first | exact Nat.le_refl _ | exact (bel_new wt3 (.cells #[] 3)).size | exact Nat.le_trans (bel_new wt3 (.cells #[] 3)).size (bel_new _ (.cells #[] 3)).size)) (h.2 h0)⟩)); have HN0 := Lib.hid (below_more HN0.out hN'); have hlt5 : w.heap.size < wt4.heap.size := HBX.out.lt; have hne5 : w.heap.size ≠ wt4.heap.size := (by omega); obtain ⟨ch0, ch1, ch2, ch3, ch4⟩ := HBX.out; have Z5 := (And.intro ch0 (And.intro ch1 (And.intro ch2 (And.intro ch3 (ch4))))); obtain ⟨⟨r0, r1, r2, r3, r4⟩, fz⟩ := HBW.out; clear hN hN' hI))
  all_goals
    go_wp2_with (fail)
    refine bodyPost_ret (v := .agg #[.int .i64 p, .slice D1 n3 d1, .slice D2 (backM MA).length d2, .slice D3 (backM MB).length d3, .slice D4 n3 d4]) (by simp [results, Try.f35, go_sem, r0, r1, r2, r3, r4]) rfl ?_
    rw [HE.out]
    obtain ⟨b5, hI5, hb5⟩ := HI1.out
    obtain ⟨b6, hI6, hb6⟩ := HI4.out
    have hk5 := set5_keep wt4 (w.heap.size + 1) (.int .i64 p) (.slice D1 n3 d1) (.slice D2 (backM MA).length d2) (.slice D3 (backM MB).length d3) (.slice D4 n3 d4)
    obtain ⟨b7, hI7⟩ := (HI2.out.keepF hk5 (fun g hg e => by have := (HI2.out.mlt g hg).1; omega)).ra
    obtain ⟨b8, hI8⟩ := (HI3.out.keepF hk5 (fun g hg e => by have := (HI3.out.mlt g hg).1; omega)).ra
    exact ⟨D1, n3, d1, D2, _, d2, D3, _, d3, D4, n3, d4, rfl, ⟨_, _, _, b5, 0, _, _, _, b7, 0, _, _, _, b8, 0, _, _, _, b6, 0, rfl, hI5.keepB hk5 (fun h0 e => by have := hb5 h0; omega), hI7, hI8, hI6.keepB hk5 (fun h0 e => by have := hb6 h0; omega)⟩, (below_more HB1.out HN0.out).trans (set5_far wt4 _ _ _ _ _ _ (by omega) (by have := (below_more HB1.out HN0.out).size; omega))⟩
end Go.Proofs.Ytegkmolffemkpaa

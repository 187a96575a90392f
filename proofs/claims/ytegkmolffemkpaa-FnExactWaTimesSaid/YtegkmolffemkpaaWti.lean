/-
  The contracts of WaTimes, of the model and of the program.
-/
import Derived.Deep.RegionHeld3
import Derived.Deep.DeepCutAuto
import Derived.Test.YtegkmolffemkpaaPaiM
import Derived.Test.YtegkmolffemkpaaBx5
namespace Go.Proofs.Ytegkmolffemkpaa
open Go.RowKit
theorem bel_newT (W : World) (o : Obj) : Below W.heap.size W (W.alloc o) := (Below.refl _ W).alloc (Nat.le_refl _) o
theorem bel_drewT (W : World) : Below W.heap.size W W.drew := (Below.refl _ W).drew
theorem sq_rowsT {p : Int} {n : Nat} {M : List (List Int)} (h : sqB p n M = true) : ∀ r ∈ M, r.length = n ∧ rowB p r = true := (sqB_true h).2
def prodR (p : Int) (S : List Int) (MA MB : List (List Int)) (E : List Int) (p' : Int) (S' : List Int) (MA' MB' : List (List Int)) (E' : List Int) : Option WaT :=
  if waB p S MA MB E = true ∧ waB p' S' MA' MB' E' = true ∧ p = p' ∧ S.length * S'.length ≤ 6 then some (p, pairL p S S', pairM p MA MA', pairM p MB MB', pairL p E E') else none
def bothB (p : Int) (S : List Int) (MA MB : List (List Int)) (E : List Int) (p' : Int) (S' : List Int) (MA' MB' : List (List Int)) (E' : List Int) : Bool :=
  waB p S MA MB E && (waB p' S' MA' MB' E' && decide (p = p'))
set_option maxRecDepth 100000 in
set_option maxHeartbeats 1600000 in
theorem bothValidW (v : Value) (p : Int) (S : List Int) (MA MB : List (List Int)) (E : List Int) (v' : Value) (p' : Int) (S' : List Int) (MA' MB' : List (List Int)) (E' : List Int) (w : World) (h : WV w v p S MA MB E) (h' : WV w v' p' S' MA' MB' E') :
    Calls Try.prog 74 #[v, v'] w fun e w' => e = .returned (.bool (bothB p S MA MB E p' S' MA' MB' E')) ∧ Below w.heap.size w w' := by
  obtain ⟨A1, n1, c1, b1, o1, A2, n2, c2, b2, o2, A3, n3, c3, b3, o3, A4, n4, c4, b4, o4, rfl, g1, g2, g3, g4⟩ := h
  obtain ⟨D1, m1, d1, e1, f1, D2, m2, d2, e2, f2, D3, m3, d3, e3, f3, D4, m4, d4, e4, f4, rfl, k1, k2, k3, k4⟩ := h'
  have hb0 : Below w.heap.size w ((w.alloc (.cells #[.int .i64 p, .slice A1 n1 c1, .slice A2 n2 c2, .slice A3 n3 c3, .slice A4 n4 c4] 26)).alloc (.cells #[.int .i64 p', .slice D1 m1 d1, .slice D2 m2 d2, .slice D3 m3 d3, .slice D4 m4 d4] 26)) := ((Below.refl _ w).alloc (Nat.le_refl _) _).alloc (by simp) _
  have HV := Lib.hid (show WV _ _ p S MA MB E from ⟨A1, n1, c1, b1, o1, A2, n2, c2, b2, o2, A3, n3, c3, b3, o3, A4, n4, c4, b4, o4, rfl, g1.below hb0, g2.below hb0, g3.below hb0, g4.below hb0⟩)
  have HW := Lib.hid (show WV _ _ p' S' MA' MB' E' from ⟨D1, m1, d1, e1, f1, D2, m2, d2, e2, f2, D3, m3, d3, e3, f3, D4, m4, d4, e4, f4, rfl, k1.below hb0, k2.below hb0, k3.below hb0, k4.below hb0⟩)
  have HXA := Lib.hid ((Bx5.new w (.int .i64 p) (.slice A1 n1 c1) (.slice A2 n2 c2) (.slice A3 n3 c3) (.slice A4 n4 c4) 26).below (bel_newT _ (.cells #[.int .i64 p', .slice D1 m1 d1, .slice D2 m2 d2, .slice D3 m3 d3, .slice D4 m4 d4] 26)))
  have hxb := Bx5.new (w.alloc (.cells #[.int .i64 p, .slice A1 n1 c1, .slice A2 n2 c2, .slice A3 n3 c3, .slice A4 n4 c4] 26)) (.int .i64 p') (.slice D1 m1 d1) (.slice D2 m2 d2) (.slice D3 m3 d3) (.slice D4 m4 d4) 26
  rw [World.size_alloc] at hxb
  have HXB := Lib.hid hxb
  have HB0 := Lib.hid hb0
  clear g1 g2 g3 g4 k1 k2 k3 k4 hb0 hxb
  go_enter Try.func74, Try.ntmps74
  go_wp2_with (fail)
  refine (implWaValid _ p S MA MB E _ HV.out).mono ?_
  rintro e w1 ⟨rfl, hB⟩
  have HXA := Lib.hid (HXA.out.below hB)
  have HXB := Lib.hid (HXB.out.below hB)
  have HW := Lib.hid (HW.out.below hB)
  have HB0 := Lib.hid (below_more HB0.out hB)
  clear hB
  rcases hv : waB p S MA MB E
  · have HR := Lib.hid (show bothB p S MA MB E p' S' MA' MB' E' = false by unfold bothB; rw [hv]; rfl)
    go_wp2_with (fail)
    go_ret
    exact ⟨ret_bool HR.out.symm, HB0.out⟩
  obtain ⟨y0, y1, y2, y3, y4⟩ := HXB.out
  obtain ⟨x0, _, _, _, _⟩ := HXA.out
  go_wp2_with (fail)
  refine (implWaValid _ p' S' MA' MB' E' _ HW.out).mono ?_
  rintro e w2 ⟨rfl, hB⟩
  clear x0 y0 y1 y2 y3 y4
  have HXA := Lib.hid (HXA.out.below hB)
  have HXB := Lib.hid (HXB.out.below hB)
  have HB0 := Lib.hid (below_more HB0.out hB)
  clear hB
  rcases hv' : waB p' S' MA' MB' E'
  · have HR := Lib.hid (show bothB p S MA MB E p' S' MA' MB' E' = false by unfold bothB; rw [hv, hv']; rfl)
    go_wp2_with (fail)
    go_ret
    exact ⟨ret_bool HR.out.symm, HB0.out⟩
  have HR := Lib.hid (show bothB p S MA MB E p' S' MA' MB' E' = decide (p = p') by unfold bothB; rw [hv, hv']; simp)
  obtain ⟨y0, _, _, _, _⟩ := HXB.out
  obtain ⟨x0, _, _, _, _⟩ := HXA.out
  clear hv hv'
  go_wp2_with (fail)
  go_ret
  exact ⟨ret_bool (by rw [HR.out]; by_cases hq : p = p' <;> simp [hq]), HB0.out⟩
theorem made_said {R : Option WaT} {w : World} {e : Ending} {w' : World} (h : MadeWB R w e w') : SaidWB R w e w' := by
  obtain ⟨v, rfl, hO, hB⟩ := h
  have hv := hO.wv
  obtain ⟨A1, c1, A2, c2, A3, c3, A4, c4, rfl⟩ := hO.shape
  exact ⟨A1, _, c1, A2, _, c2, A3, _, c3, A4, _, c4, rfl, hv, hB⟩
set_option maxRecDepth 100000 in
set_option maxHeartbeats 4000000 in
theorem implWaTimes (v : Value) (p : Int) (S : List Int) (MA MB : List (List Int)) (E : List Int) (v' : Value) (p' : Int) (S' : List Int) (MA' MB' : List (List Int)) (E' : List Int) (w : World) (h : WV w v p S MA MB E) (h' : WV w v' p' S' MA' MB' E') :
    Calls Try.prog 44 #[v, v'] w (MadeWB (prodR p S MA MB E p' S' MA' MB' E') w) := by
  obtain ⟨A1, n1, c1, b1, o1, A2, n2, c2, b2, o2, A3, n3, c3, b3, o3, A4, n4, c4, b4, o4, rfl, g1, g2, g3, g4⟩ := h
  obtain ⟨D1, m1, d1, e1, f1, D2, m2, d2, e2, f2, D3, m3, d3, e3, f3, D4, m4, d4, e4, f4, rfl, k1, k2, k3, k4⟩ := h'
  have hb0 : Below w.heap.size w (((w.alloc (.cells #[.int .i64 p, .slice A1 n1 c1, .slice A2 n2 c2, .slice A3 n3 c3, .slice A4 n4 c4] 26)).alloc (.cells #[.int .i64 p', .slice D1 m1 d1, .slice D2 m2 d2, .slice D3 m3 d3, .slice D4 m4 d4] 26)).alloc (.cells #[.int .i64 0, .slice none 0 0, .slice none 0 0, .slice none 0 0, .slice none 0 0] 26)) := (((Below.refl _ w).alloc (Nat.le_refl _) _).alloc (by simp) _).alloc (by simp; omega) _
  have HL1 := Lib.hid g1.len
  have H1 := Lib.hid (g1.below hb0)
  have LL1 := Lib.hid k1.len
  have K1 := Lib.hid (k1.below hb0)
  have HL2 := Lib.hid g2.len
  have H2 := Lib.hid (g2.below hb0)
  have LL2 := Lib.hid k2.len
  have K2 := Lib.hid (k2.below hb0)
  have HL3 := Lib.hid g3.len
  have H3 := Lib.hid (g3.below hb0)
  have LL3 := Lib.hid k3.len
  have K3 := Lib.hid (k3.below hb0)
  have HL4 := Lib.hid g4.len
  have H4 := Lib.hid (g4.below hb0)
  have LL4 := Lib.hid k4.len
  have K4 := Lib.hid (k4.below hb0)
  have HV := Lib.hid (show WV _ _ p S MA MB E from ⟨A1, n1, c1, b1, o1, A2, n2, c2, b2, o2, A3, n3, c3, b3, o3, A4, n4, c4, b4, o4, rfl, g1.below hb0, g2.below hb0, g3.below hb0, g4.below hb0⟩)
  have HW := Lib.hid (show WV _ _ p' S' MA' MB' E' from ⟨D1, m1, d1, e1, f1, D2, m2, d2, e2, f2, D3, m3, d3, e3, f3, D4, m4, d4, e4, f4, rfl, k1.below hb0, k2.below hb0, k3.below hb0, k4.below hb0⟩)
  have hxa := ((Bx5.new w (.int .i64 p) (.slice A1 n1 c1) (.slice A2 n2 c2) (.slice A3 n3 c3) (.slice A4 n4 c4) 26).below (bel_newT _ (.cells #[.int .i64 p', .slice D1 m1 d1, .slice D2 m2 d2, .slice D3 m3 d3, .slice D4 m4 d4] 26))).below (bel_newT _ (.cells #[.int .i64 0, .slice none 0 0, .slice none 0 0, .slice none 0 0, .slice none 0 0] 26))
  have hxb := (Bx5.new (w.alloc (.cells #[.int .i64 p, .slice A1 n1 c1, .slice A2 n2 c2, .slice A3 n3 c3, .slice A4 n4 c4] 26)) (.int .i64 p') (.slice D1 m1 d1) (.slice D2 m2 d2) (.slice D3 m3 d3) (.slice D4 m4 d4) 26).below (bel_newT _ (.cells #[.int .i64 0, .slice none 0 0, .slice none 0 0, .slice none 0 0, .slice none 0 0] 26))
  rw [World.size_alloc] at hxb
  have hbw := BxW5.new ((w.alloc (.cells #[.int .i64 p, .slice A1 n1 c1, .slice A2 n2 c2, .slice A3 n3 c3, .slice A4 n4 c4] 26)).alloc (.cells #[.int .i64 p', .slice D1 m1 d1, .slice D2 m2 d2, .slice D3 m3 d3, .slice D4 m4 d4] 26)) (.int .i64 0) (.slice none 0 0) (.slice none 0 0) (.slice none 0 0) (.slice none 0 0) 26
  rw [World.size_alloc, World.size_alloc] at hbw
  have HXA := Lib.hid hxa
  have HXB := Lib.hid hxb
  have HBW := Lib.hid hbw
  have HB0 := Lib.hid hb0
  clear g1 g2 g3 g4 k1 k2 k3 k4 hb0 hxa hxb hbw
  go_enter Try.func44, Try.ntmps44
  go_upto_region 1 with (fail)
  obtain ⟨wb, hwb⟩ : ∃ wb, (((w.alloc (.cells #[.int .i64 p, .slice A1 n1 c1, .slice A2 n2 c2, .slice A3 n3 c3, .slice A4 n4 c4] 26)).alloc (.cells #[.int .i64 p', .slice D1 m1 d1, .slice D2 m2 d2, .slice D3 m3 d3, .slice D4 m4 d4] 26)).alloc (.cells #[.int .i64 0, .slice none 0 0, .slice none 0 0, .slice none 0 0, .slice none 0 0] 26)) = wb := ⟨_, rfl⟩
  rw [hwb] at H1 H2 H3 H4 K1 K2 K3 K4 HV HW HXA HXB HBW HB0
  rw [hwb]
  have hsb : w.heap.size + 3 ≤ wb.heap.size := by rw [← hwb]; simp
  clear hwb
  obtain ⟨x0, x1, x2, x3, x4⟩ := HXA.out
  obtain ⟨y0, y1, y2, y3, y4⟩ := HXB.out
  obtain ⟨⟨r0, r1, r2, r3, r4⟩, fz⟩ := HBW.out
  go_wp2_with (fail)
  refine (bothValidW _ p S MA MB E _ p' S' MA' MB' E' _ HV.out HW.out).mono ?_
  rintro e w1 ⟨rfl, hB⟩
  clear x0 x1 x2 x3 x4 y0 y1 y2 y3 y4 r0 r1 r2 r3 r4 fz
  have H1 := Lib.hid (H1.out.below hB)
  have H2 := Lib.hid (H2.out.below hB)
  have H3 := Lib.hid (H3.out.below hB)
  have H4 := Lib.hid (H4.out.below hB)
  have K1 := Lib.hid (K1.out.below hB)
  have K2 := Lib.hid (K2.out.below hB)
  have K3 := Lib.hid (K3.out.below hB)
  have K4 := Lib.hid (K4.out.below hB)
  have HV := Lib.hid (HV.out.below hB)
  have HW := Lib.hid (HW.out.below hB)
  have HXA := Lib.hid (HXA.out.below hB)
  have HXB := Lib.hid (HXB.out.below hB)
  have HBW := Lib.hid (HBW.out.below hB)
  have HB0 := Lib.hid (below_more HB0.out hB)
  clear hB
  obtain ⟨x0, x1, x2, x3, x4⟩ := HXA.out
  obtain ⟨y0, y1, y2, y3, y4⟩ := HXB.out
  obtain ⟨⟨r0, r1, r2, r3, r4⟩, fz⟩ := HBW.out
  rcases hv : bothB p S MA MB E p' S' MA' MB' E'
  · skip
    have HE := Lib.hid (show prodR p S MA MB E p' S' MA' MB' E' = none by unfold prodR; rw [if_neg (fun h => by have := hv; unfold bothB at this; rw [h.1, h.2.1, decide_eq_true h.2.2.1] at this; cases this)])
    go_wp2_with (fail)
    refine bodyPost_ret (v := .tuple #[.agg #[.int .i64 0, .slice none 0 0, .slice none 0 0, .slice none 0 0, .slice none 0 0], .bool false]) (by simp [results, Try.f44, go_sem, r0, r1, r2, r3, r4]) rfl ?_
    rw [HE.out]
    exact madewb_no HB0.out (by omega)
  have hv2 := hv
  unfold bothB at hv2
  simp only [Bool.and_eq_true, decide_eq_true_eq] at hv2
  obtain ⟨hva, hvb, hpp⟩ := hv2
  clear hv
  obtain ⟨hp, h6, hE, hS, hEv, hA, hB⟩ := waB_true hva
  obtain ⟨hp', h6', hE', hS', hEv', hA', hB'⟩ := waB_true hvb
  obtain rfl : n4 = n1 := by rw [← HL4.out, hE, HL1.out]
  obtain rfl : n2 = n4 := by rw [← HL2.out, (sqB_true hA).1, HL1.out]
  obtain rfl : n3 = n2 := by rw [← HL3.out, (sqB_true hB).1, HL1.out]
  obtain rfl : m4 = m1 := by rw [← LL4.out, hE', LL1.out]
  obtain rfl : m2 = m4 := by rw [← LL2.out, (sqB_true hA').1, LL1.out]
  obtain rfl : m3 = m2 := by rw [← LL3.out, (sqB_true hB').1, LL1.out]
  rw [HL1.out] at h6 hA hB
  rw [LL1.out] at h6' hA' hB'
  obtain ⟨nm, hnm⟩ : ∃ nm : Nat, n3 * m3 = nm := ⟨_, rfl⟩
  have hnm36 : nm ≤ 6 * 6 := by rw [← hnm]; exact Nat.mul_le_mul h6 h6'
  have hmi : (n3 : Int) * (m3 : Int) = (nm : Int) := by rw [← hnm]; simp
  by_cases hmax : nm ≤ 6
  case neg =>
    have HE := Lib.hid (show prodR p S MA MB E p' S' MA' MB' E' = none by unfold prodR; rw [if_neg (fun h => hmax (by rw [← hnm, ← HL1.out, ← LL1.out]; exact h.2.2.2))])
    go_wp2_with (fail)
    refine bodyPost_ret (v := .tuple #[.agg #[.int .i64 0, .slice none 0 0, .slice none 0 0, .slice none 0 0, .slice none 0 0], .bool false]) (by simp [results, Try.f44, go_sem, r0, r1, r2, r3, r4]) rfl ?_
    rw [HE.out]
    exact madewb_no HB0.out (by omega)
  have HE := Lib.hid (show prodR p S MA MB E p' S' MA' MB' E' = some (p, pairL p S S', pairM p MA MA', pairM p MB MB', pairL p E E') by unfold prodR; rw [if_pos ⟨hva, hvb, hpp, by rw [HL1.out, LL1.out, hnm]; exact hmax⟩])
  subst hpp
  have HP := Lib.hid hp
  have HS1 := Lib.hid (rowB_mem hS)
  have HS2 := Lib.hid (rowB_mem hS')
  have HE1 := Lib.hid (rowB_mem hEv)
  have HE2 := Lib.hid (rowB_mem hEv')
  have HA1 := Lib.hid (sq_rowsT hA)
  have HA2 := Lib.hid (sq_rowsT hA')
  have HQ1 := Lib.hid (sq_rowsT hB)
  have HQ2 := Lib.hid (sq_rowsT hB')
  clear hp hp' hS hS' hE hE' hEv hEv' hA hA' hB hB' hva hvb
  go_wp2_with (fail)
  have HB9 := Lib.hid (bel_drewT w1)
  have cdx0 : w1.drew.cell? ⟨w.heap.size, 0, none⟩ = some (.int .i64 p) := x0
  have cdx1 : w1.drew.cell? ⟨w.heap.size, 1, none⟩ = some (.slice A1 n3 c1) := x1
  have cdx2 : w1.drew.cell? ⟨w.heap.size, 2, none⟩ = some (.slice A2 n3 c2) := x2
  have cdx3 : w1.drew.cell? ⟨w.heap.size, 3, none⟩ = some (.slice A3 n3 c3) := x3
  have cdx4 : w1.drew.cell? ⟨w.heap.size, 4, none⟩ = some (.slice A4 n3 c4) := x4
  have cdy0 : w1.drew.cell? ⟨w.heap.size + 1, 0, none⟩ = some (.int .i64 p) := y0
  have cdy1 : w1.drew.cell? ⟨w.heap.size + 1, 1, none⟩ = some (.slice D1 m3 d1) := y1
  have cdy2 : w1.drew.cell? ⟨w.heap.size + 1, 2, none⟩ = some (.slice D2 m3 d2) := y2
  have cdy3 : w1.drew.cell? ⟨w.heap.size + 1, 3, none⟩ = some (.slice D3 m3 d3) := y3
  have cdy4 : w1.drew.cell? ⟨w.heap.size + 1, 4, none⟩ = some (.slice D4 m3 d4) := y4
  have Z0 : w1.cell? ⟨w.heap.size, 0, none⟩ = some (.int .i64 p) ∧ w1.cell? ⟨w.heap.size, 1, none⟩ = some (.slice A1 n3 c1) ∧ w1.cell? ⟨w.heap.size, 2, none⟩ = some (.slice A2 n3 c2) ∧ w1.cell? ⟨w.heap.size, 3, none⟩ = some (.slice A3 n3 c3) ∧ w1.cell? ⟨w.heap.size, 4, none⟩ = some (.slice A4 n3 c4) ∧ w1.cell? ⟨w.heap.size + 1, 0, none⟩ = some (.int .i64 p) ∧ w1.cell? ⟨w.heap.size + 1, 1, none⟩ = some (.slice D1 m3 d1) ∧ w1.cell? ⟨w.heap.size + 1, 2, none⟩ = some (.slice D2 m3 d2) ∧ w1.cell? ⟨w.heap.size + 1, 3, none⟩ = some (.slice D3 m3 d3) ∧ w1.cell? ⟨w.heap.size + 1, 4, none⟩ = some (.slice D4 m3 d4) := (And.intro x0 (And.intro x1 (And.intro x2 (And.intro x3 (And.intro x4 (And.intro y0 (And.intro y1 (And.intro y2 (And.intro y3 (y4))))))))))
  have Z1 : w1.drew.cell? ⟨w.heap.size, 0, none⟩ = some (.int .i64 p) ∧ w1.drew.cell? ⟨w.heap.size, 1, none⟩ = some (.slice A1 n3 c1) ∧ w1.drew.cell? ⟨w.heap.size, 2, none⟩ = some (.slice A2 n3 c2) ∧ w1.drew.cell? ⟨w.heap.size, 3, none⟩ = some (.slice A3 n3 c3) ∧ w1.drew.cell? ⟨w.heap.size, 4, none⟩ = some (.slice A4 n3 c4) ∧ w1.drew.cell? ⟨w.heap.size + 1, 0, none⟩ = some (.int .i64 p) ∧ w1.drew.cell? ⟨w.heap.size + 1, 1, none⟩ = some (.slice D1 m3 d1) ∧ w1.drew.cell? ⟨w.heap.size + 1, 2, none⟩ = some (.slice D2 m3 d2) ∧ w1.drew.cell? ⟨w.heap.size + 1, 3, none⟩ = some (.slice D3 m3 d3) ∧ w1.drew.cell? ⟨w.heap.size + 1, 4, none⟩ = some (.slice D4 m3 d4) := (And.intro cdx0 (And.intro cdx1 (And.intro cdx2 (And.intro cdx3 (And.intro cdx4 (And.intro cdy0 (And.intro cdy1 (And.intro cdy2 (And.intro cdy3 (cdy4))))))))))
  have H1 := Lib.hid (H1.out.below (bel_drewT w1))
  have H2 := Lib.hid (H2.out.below (bel_drewT w1))
  have H3 := Lib.hid (H3.out.below (bel_drewT w1))
  have H4 := Lib.hid (H4.out.below (bel_drewT w1))
  have K1 := Lib.hid (K1.out.below (bel_drewT w1))
  have K2 := Lib.hid (K2.out.below (bel_drewT w1))
  have K3 := Lib.hid (K3.out.below (bel_drewT w1))
  have K4 := Lib.hid (K4.out.below (bel_drewT w1))
  have HBW := Lib.hid HBW.out.drew
  have HD := Lib.hid (show w1.drew.heap.size = w1.heap.size from rfl)
  clear r0 r1 r2 r3 r4 fz
  have hlt0 : w.heap.size + 1 + 1 < w1.heap.size := HBW.out.c.lt
  have hfa : ∀ (W : World) (o o' : Nat) (v : Value), (W.setCell ⟨w.heap.size + 1 + 1, o, none⟩ v).cell? ⟨w.heap.size, o', none⟩ = W.cell? ⟨w.heap.size, o', none⟩ := fun W o o' v => World.cell?_setCell_far _ _ _ _ (by show w.heap.size + 1 + 1 ≠ w.heap.size; omega)
  have hfb : ∀ (W : World) (o o' : Nat) (v : Value), (W.setCell ⟨w.heap.size + 1 + 1, o, none⟩ v).cell? ⟨w.heap.size + 1, o', none⟩ = W.cell? ⟨w.heap.size + 1, o', none⟩ := fun W o o' v => World.cell?_setCell_far _ _ _ _ (by show w.heap.size + 1 + 1 ≠ w.heap.size + 1; omega)
  go_region_held3 (fun w' => w'.cell? ⟨w.heap.size, 0, none⟩ = some (.int .i64 p) ∧ w'.cell? ⟨w.heap.size, 1, none⟩ = some (.slice A1 n3 c1) ∧ w'.cell? ⟨w.heap.size, 2, none⟩ = some (.slice A2 n3 c2) ∧ w'.cell? ⟨w.heap.size, 3, none⟩ = some (.slice A3 n3 c3) ∧ w'.cell? ⟨w.heap.size, 4, none⟩ = some (.slice A4 n3 c4) ∧ w'.cell? ⟨w.heap.size + 1, 0, none⟩ = some (.int .i64 p) ∧ w'.cell? ⟨w.heap.size + 1, 1, none⟩ = some (.slice D1 m3 d1) ∧ w'.cell? ⟨w.heap.size + 1, 2, none⟩ = some (.slice D2 m3 d2) ∧ w'.cell? ⟨w.heap.size + 1, 3, none⟩ = some (.slice D3 m3 d3) ∧ w'.cell? ⟨w.heap.size + 1, 4, none⟩ = some (.slice D4 m3 d4)) (first | (refine ⟨?_, ?_, ?_, ?_, ?_, ?_, ?_, ?_, ?_, ?_⟩ <;> (simp only [hfa, hfb]; (with_reducible assumption))) | (with_reducible exact Z5) | (with_reducible exact Z4) | (with_reducible exact Z3) | (with_reducible exact Z2) | (with_reducible exact Z1) | (with_reducible exact Z0) | go_keep) (first | (go_at_call 77; (with_reducible refine (implPairs p A1 n3 c1 b1 o1 S D1 m3 d1 e1 f1 S' _ H1.out K1.out (by omega) (by omega) HP.out HS1.out HS2.out).mono ?_); rintro e wc1 ⟨Q1, q1, rfl, hO, hN⟩; have hkN := keep_of_below hN; have cex0 := hkN.cell cdx0 (fun h => h); have cex1 := hkN.cell cdx1 (fun h => h); have cex2 := hkN.cell cdx2 (fun h => h); have cex3 := hkN.cell cdx3 (fun h => h); have cex4 := hkN.cell cdx4 (fun h => h); have cey0 := hkN.cell cdy0 (fun h => h); have cey1 := hkN.cell cdy1 (fun h => h); have cey2 := hkN.cell cdy2 (fun h => h); have cey3 := hkN.cell cdy3 (fun h => h); have cey4 := hkN.cell cdy4 (fun h => h); have Z2 := (And.intro cex0 (And.intro cex1 (And.intro cex2 (And.intro cex3 (And.intro cex4 (And.intro cey0 (And.intro cey1 (And.intro cey2 (And.intro cey3 (cey4)))))))))); have H1 := Lib.hid (H1.out.below hN); have H2 := Lib.hid (H2.out.below hN); have H3 := Lib.hid (H3.out.below hN); have H4 := Lib.hid (H4.out.below hN); have K1 := Lib.hid (K1.out.below hN); have K2 := Lib.hid (K2.out.below hN); have K3 := Lib.hid (K3.out.below hN); have K4 := Lib.hid (K4.out.below hN); have HBW := Lib.hid (HBW.out.below hN); have hz1 := hN.size; have HO1 := Lib.hid hO; have HM1 := Lib.hid ((fun g hg => hO.lt g hg : ∀ g, (Value.slice Q1 (pairL p S S').length q1).ownBlock = some g → w1.drew.heap.size ≤ g ∧ g < wc1.heap.size)); have HB9 := Lib.hid (below_more HB9.out hN); clear hO hN hkN) | (go_at_call 78; (with_reducible refine (implPairRows p A2 n3 c2 b2 o2 MA D2 m3 d2 e2 f2 MA' _ H2.out K2.out (by omega) (by omega) HP.out HA1.out HA2.out).mono ?_); rintro e wc2 ⟨Q2, q2, vs2, rfl, hO, hN⟩; have hkN := keep_of_below hN; have cfx0 := hkN.cell cex0 (fun h => h); have cfx1 := hkN.cell cex1 (fun h => h); have cfx2 := hkN.cell cex2 (fun h => h); have cfx3 := hkN.cell cex3 (fun h => h); have cfx4 := hkN.cell cex4 (fun h => h); have cfy0 := hkN.cell cey0 (fun h => h); have cfy1 := hkN.cell cey1 (fun h => h); have cfy2 := hkN.cell cey2 (fun h => h); have cfy3 := hkN.cell cey3 (fun h => h); have cfy4 := hkN.cell cey4 (fun h => h); have Z3 := (And.intro cfx0 (And.intro cfx1 (And.intro cfx2 (And.intro cfx3 (And.intro cfx4 (And.intro cfy0 (And.intro cfy1 (And.intro cfy2 (And.intro cfy3 (cfy4)))))))))); have H1 := Lib.hid (H1.out.below hN); have H2 := Lib.hid (H2.out.below hN); have H3 := Lib.hid (H3.out.below hN); have H4 := Lib.hid (H4.out.below hN); have K1 := Lib.hid (K1.out.below hN); have K2 := Lib.hid (K2.out.below hN); have K3 := Lib.hid (K3.out.below hN); have K4 := Lib.hid (K4.out.below hN); have HBW := Lib.hid (HBW.out.below hN); have hz2 := hN.size; have HO1 := Lib.hid (OIb HO1.out hN); have HO2 := Lib.hid hO; have HM2 := Lib.hid (hO.mlt); have HB9 := Lib.hid (below_more HB9.out hN); clear hO hN hkN) | (go_at_call 78; (with_reducible refine (implPairRows p A3 n3 c3 b3 o3 MB D3 m3 d3 e3 f3 MB' _ H3.out K3.out (by omega) (by omega) HP.out HQ1.out HQ2.out).mono ?_); rintro e wc3 ⟨Q3, q3, vs3, rfl, hO, hN⟩; have hkN := keep_of_below hN; have cgx0 := hkN.cell cfx0 (fun h => h); have cgx1 := hkN.cell cfx1 (fun h => h); have cgx2 := hkN.cell cfx2 (fun h => h); have cgx3 := hkN.cell cfx3 (fun h => h); have cgx4 := hkN.cell cfx4 (fun h => h); have cgy0 := hkN.cell cfy0 (fun h => h); have cgy1 := hkN.cell cfy1 (fun h => h); have cgy2 := hkN.cell cfy2 (fun h => h); have cgy3 := hkN.cell cfy3 (fun h => h); have cgy4 := hkN.cell cfy4 (fun h => h); have Z4 := (And.intro cgx0 (And.intro cgx1 (And.intro cgx2 (And.intro cgx3 (And.intro cgx4 (And.intro cgy0 (And.intro cgy1 (And.intro cgy2 (And.intro cgy3 (cgy4)))))))))); have H1 := Lib.hid (H1.out.below hN); have H2 := Lib.hid (H2.out.below hN); have H3 := Lib.hid (H3.out.below hN); have H4 := Lib.hid (H4.out.below hN); have K1 := Lib.hid (K1.out.below hN); have K2 := Lib.hid (K2.out.below hN); have K3 := Lib.hid (K3.out.below hN); have K4 := Lib.hid (K4.out.below hN); have HBW := Lib.hid (HBW.out.below hN); have hz3 := hN.size; have HO1 := Lib.hid (OIb HO1.out hN); have HO2 := Lib.hid (HO2.out.below hN); have HO3 := Lib.hid hO; have HM3 := Lib.hid (hO.mlt); have HB9 := Lib.hid (below_more HB9.out hN); clear hO hN hkN) | (go_at_call 77; (with_reducible refine (implPairs p A4 n3 c4 b4 o4 E D4 m3 d4 e4 f4 E' _ H4.out K4.out (by omega) (by omega) HP.out HE1.out HE2.out).mono ?_); rintro e wc4 ⟨Q4, q4, rfl, hO, hN⟩; have hkN := keep_of_below hN; have chx0 := hkN.cell cgx0 (fun h => h); have chx1 := hkN.cell cgx1 (fun h => h); have chx2 := hkN.cell cgx2 (fun h => h); have chx3 := hkN.cell cgx3 (fun h => h); have chx4 := hkN.cell cgx4 (fun h => h); have chy0 := hkN.cell cgy0 (fun h => h); have chy1 := hkN.cell cgy1 (fun h => h); have chy2 := hkN.cell cgy2 (fun h => h); have chy3 := hkN.cell cgy3 (fun h => h); have chy4 := hkN.cell cgy4 (fun h => h); have Z5 := (And.intro chx0 (And.intro chx1 (And.intro chx2 (And.intro chx3 (And.intro chx4 (And.intro chy0 (And.intro chy1 (And.intro chy2 (And.intro chy3 (chy4)))))))))); have H1 := Lib.hid (H1.out.below hN); have H2 := Lib.hid (H2.out.below hN); have H3 := Lib.hid (H3.out.below hN); have H4 := Lib.hid (H4.out.below hN); have K1 := Lib.hid (K1.out.below hN); have K2 := Lib.hid (K2.out.below hN); have K3 := Lib.hid (K3.out.below hN); have K4 := Lib.hid (K4.out.below hN); have HBW := Lib.hid (HBW.out.below hN); have hz4 := hN.size; have HO1 := Lib.hid (OIb HO1.out hN); have HO2 := Lib.hid (HO2.out.below hN); have HO3 := Lib.hid (HO3.out.below hN); have HO4 := Lib.hid hO; have HM4 := Lib.hid ((fun g hg => hO.lt g hg : ∀ g, (Value.slice Q4 (pairL p E E').length q4).ownBlock = some g → wc3.heap.size ≤ g ∧ g < wc4.heap.size)); have HB9 := Lib.hid (below_more HB9.out hN); obtain ⟨⟨r0, r1, r2, r3, r4⟩, fz⟩ := HBW.out; clear hO hN hkN))
  go_wp2_with (fail)
  refine bodyPost_ret (v := .tuple #[.agg #[.int .i64 p, .slice Q1 (pairL p S S').length q1, .slice Q2 (pairM p MA MA').length q2, .slice Q3 (pairM p MB MB').length q3, .slice Q4 (pairL p E E').length q4], .bool true]) (by simp [results, Try.f44, go_sem, r0, r1, r2, r3, r4]) rfl ?_
  rw [HE.out]
  have hd := HD.out
  have hs0 := HB0.out.size
  refine madewb_put (R := some (p, pairL p S S', pairM p MA MA', pairM p MB MB', pairL p E E')) (B := w1.drew.heap.size) (hi := wc4.heap.size) ?_ (below_more HB0.out HB9.out) (by omega) (by omega) (by omega) (Nat.le_refl _)
  exact wo_seq (s1 := wc1.heap.size) (s2 := wc2.heap.size) (s3 := wc3.heap.size) HO1.out (fun g hg => (HM1.out g hg).2) HO2.out (fun g hg => (HM2.out g hg).2) HO3.out (fun g hg => (HM3.out g hg).2) HO4.out (fun g hg => (HM4.out g hg).2) hz1 hz2 hz3 hz4
set_option maxRecDepth 100000 in
set_option maxHeartbeats 4000000 in
theorem specWaTimesM (v : Value) (p : Int) (S : List Int) (MA MB : List (List Int)) (E : List Int) (v' : Value) (p' : Int) (S' : List Int) (MA' MB' : List (List Int)) (E' : List Int) (w : World) (h : WV w v p S MA MB E) (h' : WV w v' p' S' MA' MB' E') :
    Calls Try.prog 45 #[v, v'] w (MadeWB (prodR p S MA MB E p' S' MA' MB' E') w) := by
  obtain ⟨A1, n1, c1, b1, o1, A2, n2, c2, b2, o2, A3, n3, c3, b3, o3, A4, n4, c4, b4, o4, rfl, g1, g2, g3, g4⟩ := h
  obtain ⟨D1, m1, d1, e1, f1, D2, m2, d2, e2, f2, D3, m3, d3, e3, f3, D4, m4, d4, e4, f4, rfl, k1, k2, k3, k4⟩ := h'
  have hb0 : Below w.heap.size w (((w.alloc (.cells #[.int .i64 p, .slice A1 n1 c1, .slice A2 n2 c2, .slice A3 n3 c3, .slice A4 n4 c4] 26)).alloc (.cells #[.int .i64 p', .slice D1 m1 d1, .slice D2 m2 d2, .slice D3 m3 d3, .slice D4 m4 d4] 26)).alloc (.cells #[.int .i64 0, .slice none 0 0, .slice none 0 0, .slice none 0 0, .slice none 0 0] 26)) := (((Below.refl _ w).alloc (Nat.le_refl _) _).alloc (by simp) _).alloc (by simp; omega) _
  have HL1 := Lib.hid g1.len
  have H1 := Lib.hid (g1.below hb0)
  have LL1 := Lib.hid k1.len
  have K1 := Lib.hid (k1.below hb0)
  have HL2 := Lib.hid g2.len
  have H2 := Lib.hid (g2.below hb0)
  have LL2 := Lib.hid k2.len
  have K2 := Lib.hid (k2.below hb0)
  have HL3 := Lib.hid g3.len
  have H3 := Lib.hid (g3.below hb0)
  have LL3 := Lib.hid k3.len
  have K3 := Lib.hid (k3.below hb0)
  have HL4 := Lib.hid g4.len
  have H4 := Lib.hid (g4.below hb0)
  have LL4 := Lib.hid k4.len
  have K4 := Lib.hid (k4.below hb0)
  have HV := Lib.hid (show WV _ _ p S MA MB E from ⟨A1, n1, c1, b1, o1, A2, n2, c2, b2, o2, A3, n3, c3, b3, o3, A4, n4, c4, b4, o4, rfl, g1.below hb0, g2.below hb0, g3.below hb0, g4.below hb0⟩)
  have HW := Lib.hid (show WV _ _ p' S' MA' MB' E' from ⟨D1, m1, d1, e1, f1, D2, m2, d2, e2, f2, D3, m3, d3, e3, f3, D4, m4, d4, e4, f4, rfl, k1.below hb0, k2.below hb0, k3.below hb0, k4.below hb0⟩)
  have hxa := ((Bx5.new w (.int .i64 p) (.slice A1 n1 c1) (.slice A2 n2 c2) (.slice A3 n3 c3) (.slice A4 n4 c4) 26).below (bel_newT _ (.cells #[.int .i64 p', .slice D1 m1 d1, .slice D2 m2 d2, .slice D3 m3 d3, .slice D4 m4 d4] 26))).below (bel_newT _ (.cells #[.int .i64 0, .slice none 0 0, .slice none 0 0, .slice none 0 0, .slice none 0 0] 26))
  have hxb := (Bx5.new (w.alloc (.cells #[.int .i64 p, .slice A1 n1 c1, .slice A2 n2 c2, .slice A3 n3 c3, .slice A4 n4 c4] 26)) (.int .i64 p') (.slice D1 m1 d1) (.slice D2 m2 d2) (.slice D3 m3 d3) (.slice D4 m4 d4) 26).below (bel_newT _ (.cells #[.int .i64 0, .slice none 0 0, .slice none 0 0, .slice none 0 0, .slice none 0 0] 26))
  rw [World.size_alloc] at hxb
  have hbw := BxW5.new ((w.alloc (.cells #[.int .i64 p, .slice A1 n1 c1, .slice A2 n2 c2, .slice A3 n3 c3, .slice A4 n4 c4] 26)).alloc (.cells #[.int .i64 p', .slice D1 m1 d1, .slice D2 m2 d2, .slice D3 m3 d3, .slice D4 m4 d4] 26)) (.int .i64 0) (.slice none 0 0) (.slice none 0 0) (.slice none 0 0) (.slice none 0 0) 26
  rw [World.size_alloc, World.size_alloc] at hbw
  have HXA := Lib.hid hxa
  have HXB := Lib.hid hxb
  have HBW := Lib.hid hbw
  have HB0 := Lib.hid hb0
  clear g1 g2 g3 g4 k1 k2 k3 k4 hb0 hxa hxb hbw
  go_enter Try.func45, Try.ntmps45
  go_upto_region 1 with (fail)
  obtain ⟨wb, hwb⟩ : ∃ wb, (((w.alloc (.cells #[.int .i64 p, .slice A1 n1 c1, .slice A2 n2 c2, .slice A3 n3 c3, .slice A4 n4 c4] 26)).alloc (.cells #[.int .i64 p', .slice D1 m1 d1, .slice D2 m2 d2, .slice D3 m3 d3, .slice D4 m4 d4] 26)).alloc (.cells #[.int .i64 0, .slice none 0 0, .slice none 0 0, .slice none 0 0, .slice none 0 0] 26)) = wb := ⟨_, rfl⟩
  rw [hwb] at H1 H2 H3 H4 K1 K2 K3 K4 HV HW HXA HXB HBW HB0
  rw [hwb]
  have hsb : w.heap.size + 3 ≤ wb.heap.size := by rw [← hwb]; simp
  clear hwb
  obtain ⟨x0, x1, x2, x3, x4⟩ := HXA.out
  obtain ⟨y0, y1, y2, y3, y4⟩ := HXB.out
  obtain ⟨⟨r0, r1, r2, r3, r4⟩, fz⟩ := HBW.out
  go_wp2_with (fail)
  refine (specWaValid _ p S MA MB E _ HV.out).mono ?_
  rintro e w1 ⟨rfl, hB⟩
  clear x0 x1 x2 x3 x4 y0 y1 y2 y3 y4 r0 r1 r2 r3 r4 fz
  have H1 := Lib.hid (H1.out.below hB)
  have H2 := Lib.hid (H2.out.below hB)
  have H3 := Lib.hid (H3.out.below hB)
  have H4 := Lib.hid (H4.out.below hB)
  have K1 := Lib.hid (K1.out.below hB)
  have K2 := Lib.hid (K2.out.below hB)
  have K3 := Lib.hid (K3.out.below hB)
  have K4 := Lib.hid (K4.out.below hB)
  have HV := Lib.hid (HV.out.below hB)
  have HW := Lib.hid (HW.out.below hB)
  have HXA := Lib.hid (HXA.out.below hB)
  have HXB := Lib.hid (HXB.out.below hB)
  have HBW := Lib.hid (HBW.out.below hB)
  have HB0 := Lib.hid (below_more HB0.out hB)
  clear hB
  obtain ⟨x0, x1, x2, x3, x4⟩ := HXA.out
  obtain ⟨y0, y1, y2, y3, y4⟩ := HXB.out
  obtain ⟨⟨r0, r1, r2, r3, r4⟩, fz⟩ := HBW.out
  rcases hva : waB p S MA MB E
  · skip
    have HE := Lib.hid (show prodR p S MA MB E p' S' MA' MB' E' = none by unfold prodR; rw [if_neg (fun h => by rw [hva] at h; cases h.1)])
    go_wp2_with (fail)
    refine bodyPost_ret (v := .tuple #[.agg #[.int .i64 0, .slice none 0 0, .slice none 0 0, .slice none 0 0, .slice none 0 0], .bool false]) (by simp [results, Try.f45, go_sem, r0, r1, r2, r3, r4]) rfl ?_
    rw [HE.out]
    exact madewb_no HB0.out (by omega)
  go_wp2_with (fail)
  refine (specWaValid _ p' S' MA' MB' E' _ HW.out).mono ?_
  rintro e w2 ⟨rfl, hB⟩
  clear x0 x1 x2 x3 x4 y0 y1 y2 y3 y4 r0 r1 r2 r3 r4 fz
  have H1 := Lib.hid (H1.out.below hB)
  have H2 := Lib.hid (H2.out.below hB)
  have H3 := Lib.hid (H3.out.below hB)
  have H4 := Lib.hid (H4.out.below hB)
  have K1 := Lib.hid (K1.out.below hB)
  have K2 := Lib.hid (K2.out.below hB)
  have K3 := Lib.hid (K3.out.below hB)
  have K4 := Lib.hid (K4.out.below hB)
  have HV := Lib.hid (HV.out.below hB)
  have HW := Lib.hid (HW.out.below hB)
  have HXA := Lib.hid (HXA.out.below hB)
  have HXB := Lib.hid (HXB.out.below hB)
  have HBW := Lib.hid (HBW.out.below hB)
  have HB0 := Lib.hid (below_more HB0.out hB)
  clear hB
  obtain ⟨x0, x1, x2, x3, x4⟩ := HXA.out
  obtain ⟨y0, y1, y2, y3, y4⟩ := HXB.out
  obtain ⟨⟨r0, r1, r2, r3, r4⟩, fz⟩ := HBW.out
  rcases hvb : waB p' S' MA' MB' E'
  · skip
    have HE := Lib.hid (show prodR p S MA MB E p' S' MA' MB' E' = none by unfold prodR; rw [if_neg (fun h => by rw [hvb] at h; cases h.2.1)])
    go_wp2_with (fail)
    refine bodyPost_ret (v := .tuple #[.agg #[.int .i64 0, .slice none 0 0, .slice none 0 0, .slice none 0 0, .slice none 0 0], .bool false]) (by simp [results, Try.f45, go_sem, r0, r1, r2, r3, r4]) rfl ?_
    rw [HE.out]
    exact madewb_no HB0.out (by omega)
  by_cases hpp : p = p'
  case neg =>
    have hq : (p != p') = true := by simpa using hpp
    have HE := Lib.hid (show prodR p S MA MB E p' S' MA' MB' E' = none by unfold prodR; rw [if_neg (fun h => hpp h.2.2.1)])
    go_wp2_with (fail)
    refine bodyPost_ret (v := .tuple #[.agg #[.int .i64 0, .slice none 0 0, .slice none 0 0, .slice none 0 0, .slice none 0 0], .bool false]) (by simp [results, Try.f45, go_sem, r0, r1, r2, r3, r4]) rfl ?_
    rw [HE.out]
    exact madewb_no HB0.out (by omega)
  have hq : (p != p') = false := by simpa using hpp
  obtain ⟨hp, h6, hE, hS, hEv, hA, hB⟩ := waB_true hva
  obtain ⟨hp', h6', hE', hS', hEv', hA', hB'⟩ := waB_true hvb
  obtain rfl : n4 = n1 := by rw [← HL4.out, hE, HL1.out]
  obtain rfl : n2 = n4 := by rw [← HL2.out, (sqB_true hA).1, HL1.out]
  obtain rfl : n3 = n2 := by rw [← HL3.out, (sqB_true hB).1, HL1.out]
  obtain rfl : m4 = m1 := by rw [← LL4.out, hE', LL1.out]
  obtain rfl : m2 = m4 := by rw [← LL2.out, (sqB_true hA').1, LL1.out]
  obtain rfl : m3 = m2 := by rw [← LL3.out, (sqB_true hB').1, LL1.out]
  rw [HL1.out] at h6 hA hB
  rw [LL1.out] at h6' hA' hB'
  obtain ⟨nm, hnm⟩ : ∃ nm : Nat, n3 * m3 = nm := ⟨_, rfl⟩
  have hnm36 : nm ≤ 6 * 6 := by rw [← hnm]; exact Nat.mul_le_mul h6 h6'
  have hmi : (n3 : Int) * (m3 : Int) = (nm : Int) := by rw [← hnm]; simp
  by_cases hmax : nm ≤ 6
  case neg =>
    have HE := Lib.hid (show prodR p S MA MB E p' S' MA' MB' E' = none by unfold prodR; rw [if_neg (fun h => hmax (by rw [← hnm, ← HL1.out, ← LL1.out]; exact h.2.2.2))])
    go_wp2_with (fail)
    refine bodyPost_ret (v := .tuple #[.agg #[.int .i64 0, .slice none 0 0, .slice none 0 0, .slice none 0 0, .slice none 0 0], .bool false]) (by simp [results, Try.f45, go_sem, r0, r1, r2, r3, r4]) rfl ?_
    rw [HE.out]
    exact madewb_no HB0.out (by omega)
  have HE := Lib.hid (show prodR p S MA MB E p' S' MA' MB' E' = some (p, pairL p S S', pairM p MA MA', pairM p MB MB', pairL p E E') by unfold prodR; rw [if_pos ⟨hva, hvb, hpp, by rw [HL1.out, LL1.out, hnm]; exact hmax⟩])
  subst hpp
  have HP := Lib.hid hp
  have HS1 := Lib.hid (rowB_mem hS)
  have HS2 := Lib.hid (rowB_mem hS')
  have HE1 := Lib.hid (rowB_mem hEv)
  have HE2 := Lib.hid (rowB_mem hEv')
  have HA1 := Lib.hid (sq_rowsT hA)
  have HA2 := Lib.hid (sq_rowsT hA')
  have HQ1 := Lib.hid (sq_rowsT hB)
  have HQ2 := Lib.hid (sq_rowsT hB')
  clear hp hp' hS hS' hE hE' hEv hEv' hA hA' hB hB' hva hvb
  go_wp2_with (fail)
  have HB9 := Lib.hid (bel_drewT w2)
  have cdx0 : w2.drew.cell? ⟨w.heap.size, 0, none⟩ = some (.int .i64 p) := x0
  have cdx1 : w2.drew.cell? ⟨w.heap.size, 1, none⟩ = some (.slice A1 n3 c1) := x1
  have cdx2 : w2.drew.cell? ⟨w.heap.size, 2, none⟩ = some (.slice A2 n3 c2) := x2
  have cdx3 : w2.drew.cell? ⟨w.heap.size, 3, none⟩ = some (.slice A3 n3 c3) := x3
  have cdx4 : w2.drew.cell? ⟨w.heap.size, 4, none⟩ = some (.slice A4 n3 c4) := x4
  have cdy0 : w2.drew.cell? ⟨w.heap.size + 1, 0, none⟩ = some (.int .i64 p) := y0
  have cdy1 : w2.drew.cell? ⟨w.heap.size + 1, 1, none⟩ = some (.slice D1 m3 d1) := y1
  have cdy2 : w2.drew.cell? ⟨w.heap.size + 1, 2, none⟩ = some (.slice D2 m3 d2) := y2
  have cdy3 : w2.drew.cell? ⟨w.heap.size + 1, 3, none⟩ = some (.slice D3 m3 d3) := y3
  have cdy4 : w2.drew.cell? ⟨w.heap.size + 1, 4, none⟩ = some (.slice D4 m3 d4) := y4
  have Z0 : w2.cell? ⟨w.heap.size, 0, none⟩ = some (.int .i64 p) ∧ w2.cell? ⟨w.heap.size, 1, none⟩ = some (.slice A1 n3 c1) ∧ w2.cell? ⟨w.heap.size, 2, none⟩ = some (.slice A2 n3 c2) ∧ w2.cell? ⟨w.heap.size, 3, none⟩ = some (.slice A3 n3 c3) ∧ w2.cell? ⟨w.heap.size, 4, none⟩ = some (.slice A4 n3 c4) ∧ w2.cell? ⟨w.heap.size + 1, 0, none⟩ = some (.int .i64 p) ∧ w2.cell? ⟨w.heap.size + 1, 1, none⟩ = some (.slice D1 m3 d1) ∧ w2.cell? ⟨w.heap.size + 1, 2, none⟩ = some (.slice D2 m3 d2) ∧ w2.cell? ⟨w.heap.size + 1, 3, none⟩ = some (.slice D3 m3 d3) ∧ w2.cell? ⟨w.heap.size + 1, 4, none⟩ = some (.slice D4 m3 d4) := (And.intro x0 (And.intro x1 (And.intro x2 (And.intro x3 (And.intro x4 (And.intro y0 (And.intro y1 (And.intro y2 (And.intro y3 (y4))))))))))
  have Z1 : w2.drew.cell? ⟨w.heap.size, 0, none⟩ = some (.int .i64 p) ∧ w2.drew.cell? ⟨w.heap.size, 1, none⟩ = some (.slice A1 n3 c1) ∧ w2.drew.cell? ⟨w.heap.size, 2, none⟩ = some (.slice A2 n3 c2) ∧ w2.drew.cell? ⟨w.heap.size, 3, none⟩ = some (.slice A3 n3 c3) ∧ w2.drew.cell? ⟨w.heap.size, 4, none⟩ = some (.slice A4 n3 c4) ∧ w2.drew.cell? ⟨w.heap.size + 1, 0, none⟩ = some (.int .i64 p) ∧ w2.drew.cell? ⟨w.heap.size + 1, 1, none⟩ = some (.slice D1 m3 d1) ∧ w2.drew.cell? ⟨w.heap.size + 1, 2, none⟩ = some (.slice D2 m3 d2) ∧ w2.drew.cell? ⟨w.heap.size + 1, 3, none⟩ = some (.slice D3 m3 d3) ∧ w2.drew.cell? ⟨w.heap.size + 1, 4, none⟩ = some (.slice D4 m3 d4) := (And.intro cdx0 (And.intro cdx1 (And.intro cdx2 (And.intro cdx3 (And.intro cdx4 (And.intro cdy0 (And.intro cdy1 (And.intro cdy2 (And.intro cdy3 (cdy4))))))))))
  have H1 := Lib.hid (H1.out.below (bel_drewT w2))
  have H2 := Lib.hid (H2.out.below (bel_drewT w2))
  have H3 := Lib.hid (H3.out.below (bel_drewT w2))
  have H4 := Lib.hid (H4.out.below (bel_drewT w2))
  have K1 := Lib.hid (K1.out.below (bel_drewT w2))
  have K2 := Lib.hid (K2.out.below (bel_drewT w2))
  have K3 := Lib.hid (K3.out.below (bel_drewT w2))
  have K4 := Lib.hid (K4.out.below (bel_drewT w2))
  have HBW := Lib.hid HBW.out.drew
  have HD := Lib.hid (show w2.drew.heap.size = w2.heap.size from rfl)
  clear r0 r1 r2 r3 r4 fz
  have hlt0 : w.heap.size + 1 + 1 < w2.heap.size := HBW.out.c.lt
  have hfa : ∀ (W : World) (o o' : Nat) (v : Value), (W.setCell ⟨w.heap.size + 1 + 1, o, none⟩ v).cell? ⟨w.heap.size, o', none⟩ = W.cell? ⟨w.heap.size, o', none⟩ := fun W o o' v => World.cell?_setCell_far _ _ _ _ (by show w.heap.size + 1 + 1 ≠ w.heap.size; omega)
  have hfb : ∀ (W : World) (o o' : Nat) (v : Value), (W.setCell ⟨w.heap.size + 1 + 1, o, none⟩ v).cell? ⟨w.heap.size + 1, o', none⟩ = W.cell? ⟨w.heap.size + 1, o', none⟩ := fun W o o' v => World.cell?_setCell_far _ _ _ _ (by show w.heap.size + 1 + 1 ≠ w.heap.size + 1; omega)
  go_region_held3 (fun w' => w'.cell? ⟨w.heap.size, 0, none⟩ = some (.int .i64 p) ∧ w'.cell? ⟨w.heap.size, 1, none⟩ = some (.slice A1 n3 c1) ∧ w'.cell? ⟨w.heap.size, 2, none⟩ = some (.slice A2 n3 c2) ∧ w'.cell? ⟨w.heap.size, 3, none⟩ = some (.slice A3 n3 c3) ∧ w'.cell? ⟨w.heap.size, 4, none⟩ = some (.slice A4 n3 c4) ∧ w'.cell? ⟨w.heap.size + 1, 0, none⟩ = some (.int .i64 p) ∧ w'.cell? ⟨w.heap.size + 1, 1, none⟩ = some (.slice D1 m3 d1) ∧ w'.cell? ⟨w.heap.size + 1, 2, none⟩ = some (.slice D2 m3 d2) ∧ w'.cell? ⟨w.heap.size + 1, 3, none⟩ = some (.slice D3 m3 d3) ∧ w'.cell? ⟨w.heap.size + 1, 4, none⟩ = some (.slice D4 m3 d4)) (first | (refine ⟨?_, ?_, ?_, ?_, ?_, ?_, ?_, ?_, ?_, ?_⟩ <;> (simp only [hfa, hfb]; (with_reducible assumption))) | (with_reducible exact Z5) | (with_reducible exact Z4) | (with_reducible exact Z3) | (with_reducible exact Z2) | (with_reducible exact Z1) | (with_reducible exact Z0) | go_keep) (first | (go_at_call 79; (with_reducible refine (specPairs p A1 n3 c1 b1 o1 S D1 m3 d1 e1 f1 S' _ H1.out K1.out (by omega) (by omega) HP.out HS1.out HS2.out).mono ?_); rintro e wc1 ⟨Q1, q1, rfl, hO, hN⟩; have hkN := keep_of_below hN; have cex0 := hkN.cell cdx0 (fun h => h); have cex1 := hkN.cell cdx1 (fun h => h); have cex2 := hkN.cell cdx2 (fun h => h); have cex3 := hkN.cell cdx3 (fun h => h); have cex4 := hkN.cell cdx4 (fun h => h); have cey0 := hkN.cell cdy0 (fun h => h); have cey1 := hkN.cell cdy1 (fun h => h); have cey2 := hkN.cell cdy2 (fun h => h); have cey3 := hkN.cell cdy3 (fun h => h); have cey4 := hkN.cell cdy4 (fun h => h); have Z2 := (And.intro cex0 (And.intro cex1 (And.intro cex2 (And.intro cex3 (And.intro cex4 (And.intro cey0 (And.intro cey1 (And.intro cey2 (And.intro cey3 (cey4)))))))))); have H1 := Lib.hid (H1.out.below hN); have H2 := Lib.hid (H2.out.below hN); have H3 := Lib.hid (H3.out.below hN); have H4 := Lib.hid (H4.out.below hN); have K1 := Lib.hid (K1.out.below hN); have K2 := Lib.hid (K2.out.below hN); have K3 := Lib.hid (K3.out.below hN); have K4 := Lib.hid (K4.out.below hN); have HBW := Lib.hid (HBW.out.below hN); have hz1 := hN.size; have HO1 := Lib.hid hO; have HM1 := Lib.hid ((fun g hg => hO.lt g hg : ∀ g, (Value.slice Q1 (pairL p S S').length q1).ownBlock = some g → w2.drew.heap.size ≤ g ∧ g < wc1.heap.size)); have HB9 := Lib.hid (below_more HB9.out hN); clear hO hN hkN) | (go_at_call 80; (with_reducible refine (specTensor p A2 n3 c2 b2 o2 MA D2 m3 d2 e2 f2 MA' _ H2.out K2.out (by omega) (by omega) HP.out HA1.out HA2.out).mono ?_); rintro e wc2 ⟨Q2, q2, vs2, rfl, hO, hN⟩; have hkN := keep_of_below hN; have cfx0 := hkN.cell cex0 (fun h => h); have cfx1 := hkN.cell cex1 (fun h => h); have cfx2 := hkN.cell cex2 (fun h => h); have cfx3 := hkN.cell cex3 (fun h => h); have cfx4 := hkN.cell cex4 (fun h => h); have cfy0 := hkN.cell cey0 (fun h => h); have cfy1 := hkN.cell cey1 (fun h => h); have cfy2 := hkN.cell cey2 (fun h => h); have cfy3 := hkN.cell cey3 (fun h => h); have cfy4 := hkN.cell cey4 (fun h => h); have Z3 := (And.intro cfx0 (And.intro cfx1 (And.intro cfx2 (And.intro cfx3 (And.intro cfx4 (And.intro cfy0 (And.intro cfy1 (And.intro cfy2 (And.intro cfy3 (cfy4)))))))))); have H1 := Lib.hid (H1.out.below hN); have H2 := Lib.hid (H2.out.below hN); have H3 := Lib.hid (H3.out.below hN); have H4 := Lib.hid (H4.out.below hN); have K1 := Lib.hid (K1.out.below hN); have K2 := Lib.hid (K2.out.below hN); have K3 := Lib.hid (K3.out.below hN); have K4 := Lib.hid (K4.out.below hN); have HBW := Lib.hid (HBW.out.below hN); have hz2 := hN.size; have HO1 := Lib.hid (OIb HO1.out hN); have HO2 := Lib.hid hO; have HM2 := Lib.hid (hO.mlt); have HB9 := Lib.hid (below_more HB9.out hN); clear hO hN hkN) | (go_at_call 80; (with_reducible refine (specTensor p A3 n3 c3 b3 o3 MB D3 m3 d3 e3 f3 MB' _ H3.out K3.out (by omega) (by omega) HP.out HQ1.out HQ2.out).mono ?_); rintro e wc3 ⟨Q3, q3, vs3, rfl, hO, hN⟩; have hkN := keep_of_below hN; have cgx0 := hkN.cell cfx0 (fun h => h); have cgx1 := hkN.cell cfx1 (fun h => h); have cgx2 := hkN.cell cfx2 (fun h => h); have cgx3 := hkN.cell cfx3 (fun h => h); have cgx4 := hkN.cell cfx4 (fun h => h); have cgy0 := hkN.cell cfy0 (fun h => h); have cgy1 := hkN.cell cfy1 (fun h => h); have cgy2 := hkN.cell cfy2 (fun h => h); have cgy3 := hkN.cell cfy3 (fun h => h); have cgy4 := hkN.cell cfy4 (fun h => h); have Z4 := (And.intro cgx0 (And.intro cgx1 (And.intro cgx2 (And.intro cgx3 (And.intro cgx4 (And.intro cgy0 (And.intro cgy1 (And.intro cgy2 (And.intro cgy3 (cgy4)))))))))); have H1 := Lib.hid (H1.out.below hN); have H2 := Lib.hid (H2.out.below hN); have H3 := Lib.hid (H3.out.below hN); have H4 := Lib.hid (H4.out.below hN); have K1 := Lib.hid (K1.out.below hN); have K2 := Lib.hid (K2.out.below hN); have K3 := Lib.hid (K3.out.below hN); have K4 := Lib.hid (K4.out.below hN); have HBW := Lib.hid (HBW.out.below hN); have hz3 := hN.size; have HO1 := Lib.hid (OIb HO1.out hN); have HO2 := Lib.hid (HO2.out.below hN); have HO3 := Lib.hid hO; have HM3 := Lib.hid (hO.mlt); have HB9 := Lib.hid (below_more HB9.out hN); clear hO hN hkN) | (go_at_call 79; (with_reducible refine (specPairs p A4 n3 c4 b4 o4 E D4 m3 d4 e4 f4 E' _ H4.out K4.out (by omega) (by omega) HP.out HE1.out HE2.out).mono ?_); rintro e wc4 ⟨Q4, q4, rfl, hO, hN⟩; have hkN := keep_of_below hN; have chx0 := hkN.cell cgx0 (fun h => h); have chx1 := hkN.cell cgx1 (fun h => h); have chx2 := hkN.cell cgx2 (fun h => h); have chx3 := hkN.cell cgx3 (fun h => h); have chx4 := hkN.cell cgx4 (fun h => h); have chy0 := hkN.cell cgy0 (fun h => h); have chy1 := hkN.cell cgy1 (fun h => h); have chy2 := hkN.cell cgy2 (fun h => h); have chy3 := hkN.cell cgy3 (fun h => h); have chy4 := hkN.cell cgy4 (fun h => h); have Z5 := (And.intro chx0 (And.intro chx1 (And.intro chx2 (And.intro chx3 (And.intro chx4 (And.intro chy0 (And.intro chy1 (And.intro chy2 (And.intro chy3 (chy4)))))))))); have H1 := Lib.hid (H1.out.below hN); have H2 := Lib.hid (H2.out.below hN); have H3 := Lib.hid (H3.out.below hN); have H4 := Lib.hid (H4.out.below hN); have K1 := Lib.hid (K1.out.below hN); have K2 := Lib.hid (K2.out.below hN); have K3 := Lib.hid (K3.out.below hN); have K4 := Lib.hid (K4.out.below hN); have HBW := Lib.hid (HBW.out.below hN); have hz4 := hN.size; have HO1 := Lib.hid (OIb HO1.out hN); have HO2 := Lib.hid (HO2.out.below hN); have HO3 := Lib.hid (HO3.out.below hN); have HO4 := Lib.hid hO; have HM4 := Lib.hid ((fun g hg => hO.lt g hg : ∀ g, (Value.slice Q4 (pairL p E E').length q4).ownBlock = some g → wc3.heap.size ≤ g ∧ g < wc4.heap.size)); have HB9 := Lib.hid (below_more HB9.out hN); obtain ⟨⟨r0, r1, r2, r3, r4⟩, fz⟩ := HBW.out; clear hO hN hkN))
  go_wp2_with (fail)
  refine bodyPost_ret (v := .tuple #[.agg #[.int .i64 p, .slice Q1 (pairL p S S').length q1, .slice Q2 (pairM p MA MA').length q2, .slice Q3 (pairM p MB MB').length q3, .slice Q4 (pairL p E E').length q4], .bool true]) (by simp [results, Try.f45, go_sem, r0, r1, r2, r3, r4]) rfl ?_
  rw [HE.out]
  have hd := HD.out
  have hs0 := HB0.out.size
  refine madewb_put (R := some (p, pairL p S S', pairM p MA MA', pairM p MB MB', pairL p E E')) (B := w2.drew.heap.size) (hi := wc4.heap.size) ?_ (below_more HB0.out HB9.out) (by omega) (by omega) (by omega) (Nat.le_refl _)
  exact wo_seq (s1 := wc1.heap.size) (s2 := wc2.heap.size) (s3 := wc3.heap.size) HO1.out (fun g hg => (HM1.out g hg).2) HO2.out (fun g hg => (HM2.out g hg).2) HO3.out (fun g hg => (HM3.out g hg).2) HO4.out (fun g hg => (HM4.out g hg).2) hz1 hz2 hz3 hz4
theorem specWaTimes (v : Value) (p : Int) (S : List Int) (MA MB : List (List Int)) (E : List Int) (v' : Value) (p' : Int) (S' : List Int) (MA' MB' : List (List Int)) (E' : List Int) (w : World) (h : WV w v p S MA MB E) (h' : WV w v' p' S' MA' MB' E') :
    Calls Try.prog 45 #[v, v'] w (SaidWB (prodR p S MA MB E p' S' MA' MB' E') w) := (specWaTimesM v p S MA MB E v' p' S' MA' MB' E' w h h').mono (fun _ _ h => made_said h)
end Go.Proofs.Ytegkmolffemkpaa

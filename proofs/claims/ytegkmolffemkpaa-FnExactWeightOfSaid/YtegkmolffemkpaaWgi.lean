/-
  The contracts of WeightOf, of the model and of the program.
-/
import Derived.Test.YtegkmolffemkpaaWgt
namespace Go.Proofs.Ytegkmolffemkpaa
open Go.RowKit
theorem sq_rows {p : Int} {n : Nat} {M : List (List Int)} (h : sqB p n M = true) : ∀ r ∈ M, r.length = n ∧ rowB p r = true := (sqB_true h).2
set_option maxRecDepth 100000 in
set_option maxHeartbeats 1600000 in
theorem specWeightOf (v : Value) (p : Int) (S : List Int) (MA MB : List (List Int)) (E : List Int) (A : Option Addr) (m c b o : Nat) (word : List Int) (w : World) (h : WV w v p S MA MB E) (h' : IA w A m b o word) :
    Calls Try.prog 30 #[v, .slice A m c] w fun e w' => e = .returned (.int .i64 (weightR p S MA MB E word)) ∧ Below w.heap.size w w' := by
  obtain ⟨A1, n1, c1, b1, o1, A2, n2, c2, b2, o2, A3, n3, c3, b3, o3, A4, n4, c4, b4, o4, rfl, g1, g2, g3, g4⟩ := h
  have hb0 : Below w.heap.size w (w.alloc (.cells #[.int .i64 p, .slice A1 n1 c1, .slice A2 n2 c2, .slice A3 n3 c3, .slice A4 n4 c4] 26)) := (Below.refl _ w).alloc (Nat.le_refl _) _
  have hbm := h'.big
  have HL1 := Lib.hid g1.len
  have HL2 := Lib.hid g2.len
  have HL3 := Lib.hid g3.len
  have HL4 := Lib.hid g4.len
  have HV := Lib.hid (show WV _ _ p S MA MB E from ⟨A1, n1, c1, b1, o1, A2, n2, c2, b2, o2, A3, n3, c3, b3, o3, A4, n4, c4, b4, o4, rfl, g1.below hb0, g2.below hb0, g3.below hb0, g4.below hb0⟩)
  have H1 := Lib.hid (g1.below hb0)
  have H2 := Lib.hid (g2.below hb0)
  have H3 := Lib.hid (g3.below hb0)
  have H4 := Lib.hid (g4.below hb0)
  have H := Lib.hid (h'.below hb0)
  have HB0 := Lib.hid hb0
  clear g1 g2 g3 g4 h' hb0
  go_enter Try.func30, Try.ntmps30
  go_upto_region 1 with (fail)
  obtain ⟨x0, x1, x2, x3, x4⟩ := box5 w (.int .i64 p) (.slice A1 n1 c1) (.slice A2 n2 c2) (.slice A3 n3 c3) (.slice A4 n4 c4) 26
  obtain ⟨wb, hwb⟩ : ∃ wb, w.alloc (.cells #[.int .i64 p, .slice A1 n1 c1, .slice A2 n2 c2, .slice A3 n3 c3, .slice A4 n4 c4] 26) = wb := ⟨_, rfl⟩
  rw [hwb] at x0 x1 x2 x3 x4 H1 H2 H3 H4 H HV HB0
  rw [hwb]
  have hsb : w.heap.size ≤ wb.heap.size := by rw [← hwb]; simp
  clear hwb
  go_wp2_with (fail)
  refine (specWaValid _ p S MA MB E _ HV.out).mono ?_
  rintro e w1 ⟨rfl, hB1⟩
  have k1 := keep_of_below hB1
  have x0 := k1.cell x0 (fun h => h)
  have x1 := k1.cell x1 (fun h => h)
  have x2 := k1.cell x2 (fun h => h)
  have x3 := k1.cell x3 (fun h => h)
  have x4 := k1.cell x4 (fun h => h)
  have H1 := Lib.hid (H1.out.below hB1)
  have H2 := Lib.hid (H2.out.below hB1)
  have H3 := Lib.hid (H3.out.below hB1)
  have H4 := Lib.hid (H4.out.below hB1)
  have H := Lib.hid (H.out.below hB1)
  have hs1 := hB1.size
  have HB1 := Lib.hid (HB0.out.trans (hB1.mono hsb))
  clear hB1 k1
  rcases hv : waB p S MA MB E
  · have HR := Lib.hid (show weightR p S MA MB E word = -1 by unfold weightR; rw [hv]; rfl)
    go_wp2_with (fail)
    go_ret
    exact ⟨ret_int HR.out.symm, HB1.out⟩
  rcases hw : wordB word
  · have HR := Lib.hid (show weightR p S MA MB E word = -1 by unfold weightR; rw [hw]; simp)
    have HW := Lib.hid hw
    clear hw
    go_wp2_with (go_at_call 25; refine (specWord A m c b o word _ H.out).mono ?_; rintro e w' ⟨rfl, rfl⟩; rw [HW.out])
    go_ret
    exact ⟨ret_int HR.out.symm, HB1.out⟩
  have HR := Lib.hid (show weightR p S MA MB E word = dot (runW p MA MB S word) E % p by unfold weightR; rw [hv, hw]; rfl)
  obtain ⟨hp, h6, hE, hS, hEv, hA, hB⟩ := waB_true hv
  obtain rfl : n4 = n1 := by rw [← HL4.out, hE, HL1.out]
  obtain rfl : n2 = n4 := by rw [← HL2.out, (sqB_true hA).1, HL1.out]
  obtain rfl : n3 = n2 := by rw [← HL3.out, (sqB_true hB).1, HL1.out]
  rw [HL1.out] at h6 hA hB
  have HW := Lib.hid hw
  have HP := Lib.hid hp
  have HS := Lib.hid (rowB_mem hS)
  have HE := Lib.hid (rowB_mem hEv)
  have HA := Lib.hid (sq_rows hA)
  have HBB := Lib.hid (sq_rows hB)
  clear hw hp hS hEv hA hB hE
  go_wp2_with (go_at_call 25; refine (specWord A m c b o word _ H.out).mono ?_; rintro e w' ⟨rfl, rfl⟩; rw [HW.out])
  have cd0 : w1.drew.cell? ⟨w.heap.size, 0, none⟩ = some (.int .i64 p) := x0
  have cd1 : w1.drew.cell? ⟨w.heap.size, 1, none⟩ = some (.slice A1 n3 c1) := x1
  have cd2 : w1.drew.cell? ⟨w.heap.size, 2, none⟩ = some (.slice A2 n3 c2) := x2
  have cd3 : w1.drew.cell? ⟨w.heap.size, 3, none⟩ = some (.slice A3 n3 c3) := x3
  have cd4 : w1.drew.cell? ⟨w.heap.size, 4, none⟩ = some (.slice A4 n3 c4) := x4
  have Z0 : w1.cell? ⟨w.heap.size, 0, none⟩ = some (.int .i64 p) ∧ w1.cell? ⟨w.heap.size, 1, none⟩ = some (.slice A1 n3 c1) ∧ w1.cell? ⟨w.heap.size, 2, none⟩ = some (.slice A2 n3 c2) ∧ w1.cell? ⟨w.heap.size, 3, none⟩ = some (.slice A3 n3 c3) ∧ w1.cell? ⟨w.heap.size, 4, none⟩ = some (.slice A4 n3 c4) := ⟨x0, x1, x2, x3, x4⟩
  have Z1 : w1.drew.cell? ⟨w.heap.size, 0, none⟩ = some (.int .i64 p) ∧ w1.drew.cell? ⟨w.heap.size, 1, none⟩ = some (.slice A1 n3 c1) ∧ w1.drew.cell? ⟨w.heap.size, 2, none⟩ = some (.slice A2 n3 c2) ∧ w1.drew.cell? ⟨w.heap.size, 3, none⟩ = some (.slice A3 n3 c3) ∧ w1.drew.cell? ⟨w.heap.size, 4, none⟩ = some (.slice A4 n3 c4) := ⟨cd0, cd1, cd2, cd3, cd4⟩
  have hdr : Below w1.heap.size w1 w1.drew := below_drawn (Below.refl _ _) ⟨1, rfl⟩
  have H1d := Lib.hid (H1.out.below hdr)
  have H2d := Lib.hid (H2.out.below hdr)
  have H3d := Lib.hid (H3.out.below hdr)
  have H4d := Lib.hid (H4.out.below hdr)
  have Hd := Lib.hid (H.out.below hdr)
  have HRV := Lib.hid (runW_val HP.out MA MB word S HS.out)
  have HDR := Lib.hid hdr
  clear hdr
  go_region_held3 (fun w' => w'.cell? ⟨w.heap.size, 0, none⟩ = some (.int .i64 p) ∧ w'.cell? ⟨w.heap.size, 1, none⟩ = some (.slice A1 n3 c1) ∧ w'.cell? ⟨w.heap.size, 2, none⟩ = some (.slice A2 n3 c2) ∧ w'.cell? ⟨w.heap.size, 3, none⟩ = some (.slice A3 n3 c3) ∧ w'.cell? ⟨w.heap.size, 4, none⟩ = some (.slice A4 n3 c4)) (first | assumption | exact Z3 | exact Z2 | exact Z1 | exact Z0 | go_keep) (first | (go_at_call 63; refine (specReached p A1 n3 c1 b1 o1 A2 c2 b2 o2 A3 c3 b3 o3 _ S MA MB A m c b o word _ H1d.out H2d.out H3d.out Hd.out (by omega) HP.out HS.out HA.out HBB.out).mono ?_; rintro e w2 ⟨A5, c5, rfl, hO, hN0⟩; have hN := hN0; have ce0 := (keep_of_below hN).cell cd0 (fun h => h); have ce1 := (keep_of_below hN).cell cd1 (fun h => h); have ce2 := (keep_of_below hN).cell cd2 (fun h => h); have ce3 := (keep_of_below hN).cell cd3 (fun h => h); have ce4 := (keep_of_below hN).cell cd4 (fun h => h); have Z2 := And.intro ce0 (And.intro ce1 (And.intro ce2 (And.intro ce3 ce4))); have HN0 := Lib.hid hN; obtain ⟨b5, hI5⟩ := hO.ia; have HI5 := Lib.hid hI5; have H4e := Lib.hid (H4d.out.below hN); clear hO hI5 hN0; clear hN) | (go_at_call 62; refine (specDot p A5 n3 c5 b5 0 _ A4 c4 b4 o4 E _ HI5.out H4e.out (by omega) HP.out HRV.out HE.out).mono ?_; rintro e w3 ⟨rfl, hw3⟩; have hN := below_drawn (Below.refl w2.heap.size w2) hw3; have cf0 := (keep_of_below hN).cell ce0 (fun h => h); have cf1 := (keep_of_below hN).cell ce1 (fun h => h); have cf2 := (keep_of_below hN).cell ce2 (fun h => h); have cf3 := (keep_of_below hN).cell ce3 (fun h => h); have cf4 := (keep_of_below hN).cell ce4 (fun h => h); have Z3 := And.intro cf0 (And.intro cf1 (And.intro cf2 (And.intro cf3 cf4))); have HN1 := Lib.hid hN; clear hw3; clear hN))
  have HNN := Lib.hid (below_more (below_more HDR.out HN0.out) HN1.out)
  have x_ := Z3
  obtain ⟨x0, x1, x2, x3, x4⟩ := x_
  clear Z0 Z1 Z2 Z3 HDR HN0 HN1 cd0 cd1 cd2 cd3 cd4 ce0 ce1 ce2 ce3 ce4 cf0 cf1 cf2 cf3 cf4
  go_wp2_with (fail)
  go_ret
  exact ⟨ret_int HR.out.symm, HB1.out.trans (HNN.out.mono HB1.out.size)⟩
theorem matrixOf_a (p : Value) (A1 : Option Addr) (n1 c1 : Nat) (A2 : Option Addr) (n2 c2 : Nat) (A3 : Option Addr) (n3 c3 : Nat) (v4 : Value) (w : World) :
    Calls Try.prog 60 #[.agg #[p, .slice A1 n1 c1, .slice A2 n2 c2, .slice A3 n3 c3, v4], .int .i64 0] w fun e w' => e = .returned (.slice A2 n2 c2) ∧ Below w.heap.size w w' := by
  go_enter Try.func60, Try.ntmps60
  go_wp2_with (fail)
  go_ret
  exact ⟨rfl, (Below.refl _ _).alloc (Nat.le_refl _) _⟩
theorem matrixOf_b (p : Value) (A1 : Option Addr) (n1 c1 : Nat) (A2 : Option Addr) (n2 c2 : Nat) (A3 : Option Addr) (n3 c3 : Nat) (v4 : Value) (x : Int) (w : World) (hx : x ≠ 0) :
    Calls Try.prog 60 #[.agg #[p, .slice A1 n1 c1, .slice A2 n2 c2, .slice A3 n3 c3, v4], .int .i64 x] w fun e w' => e = .returned (.slice A3 n3 c3) ∧ Below w.heap.size w w' := by
  have hq : (x == 0) = false := by simpa using hx
  go_enter Try.func60, Try.ntmps60
  go_wp2_with (fail)
  go_ret
  exact ⟨rfl, (Below.refl _ _).alloc (Nat.le_refl _) _⟩
set_option maxRecDepth 100000 in
set_option maxHeartbeats 1600000 in
theorem implWeightOf (v : Value) (p : Int) (S : List Int) (MA MB : List (List Int)) (E : List Int) (A : Option Addr) (m c b o : Nat) (word : List Int) (w : World) (h : WV w v p S MA MB E) (h' : IA w A m b o word) :
    Calls Try.prog 29 #[v, .slice A m c] w fun e w' => e = .returned (.int .i64 (weightR p S MA MB E word)) ∧ Below w.heap.size w w' := by
  obtain ⟨A1, n1, c1, b1, o1, A2, n2, c2, b2, o2, A3, n3, c3, b3, o3, A4, n4, c4, b4, o4, rfl, g1, g2, g3, g4⟩ := h
  have hb0 : Below w.heap.size w (w.alloc (.cells #[.int .i64 p, .slice A1 n1 c1, .slice A2 n2 c2, .slice A3 n3 c3, .slice A4 n4 c4] 26)) := (Below.refl _ w).alloc (Nat.le_refl _) _
  have hbm := h'.big
  have HL1 := Lib.hid g1.len
  have HL2 := Lib.hid g2.len
  have HL3 := Lib.hid g3.len
  have HL4 := Lib.hid g4.len
  have HV := Lib.hid (show WV _ _ p S MA MB E from ⟨A1, n1, c1, b1, o1, A2, n2, c2, b2, o2, A3, n3, c3, b3, o3, A4, n4, c4, b4, o4, rfl, g1.below hb0, g2.below hb0, g3.below hb0, g4.below hb0⟩)
  have H1 := Lib.hid (g1.below hb0)
  have H2 := Lib.hid (g2.below hb0)
  have H3 := Lib.hid (g3.below hb0)
  have H4 := Lib.hid (g4.below hb0)
  have H := Lib.hid (h'.below hb0)
  have HB0 := Lib.hid hb0
  clear g1 g2 g3 g4 h' hb0
  go_enter Try.func29, Try.ntmps29
  go_upto_region 1 with (fail)
  obtain ⟨x0, x1, x2, x3, x4⟩ := box5 w (.int .i64 p) (.slice A1 n1 c1) (.slice A2 n2 c2) (.slice A3 n3 c3) (.slice A4 n4 c4) 26
  obtain ⟨wb, hwb⟩ : ∃ wb, w.alloc (.cells #[.int .i64 p, .slice A1 n1 c1, .slice A2 n2 c2, .slice A3 n3 c3, .slice A4 n4 c4] 26) = wb := ⟨_, rfl⟩
  rw [hwb] at x0 x1 x2 x3 x4 H1 H2 H3 H4 H HV HB0
  rw [hwb]
  have hsb : w.heap.size ≤ wb.heap.size := by rw [← hwb]; simp
  clear hwb
  go_wp2_with (fail)
  refine (implWaValid _ p S MA MB E _ HV.out).mono ?_
  rintro e w1 ⟨rfl, hB1⟩
  have k1 := keep_of_below hB1
  have x0 := k1.cell x0 (fun h => h)
  have x1 := k1.cell x1 (fun h => h)
  have x2 := k1.cell x2 (fun h => h)
  have x3 := k1.cell x3 (fun h => h)
  have x4 := k1.cell x4 (fun h => h)
  have H1 := Lib.hid (H1.out.below hB1)
  have H2 := Lib.hid (H2.out.below hB1)
  have H3 := Lib.hid (H3.out.below hB1)
  have H4 := Lib.hid (H4.out.below hB1)
  have H := Lib.hid (H.out.below hB1)
  have hs1 := hB1.size
  have HB1 := Lib.hid (HB0.out.trans (hB1.mono hsb))
  clear hB1 k1
  rcases hv : waB p S MA MB E
  · have HR := Lib.hid (show weightR p S MA MB E word = -1 by unfold weightR; rw [hv]; rfl)
    go_wp2_with (fail)
    go_ret
    exact ⟨ret_int HR.out.symm, HB1.out⟩
  rcases hw : wordB word
  · have HR := Lib.hid (show weightR p S MA MB E word = -1 by unfold weightR; rw [hw]; simp)
    have HW := Lib.hid hw
    clear hw
    go_wp2_with (go_at_call 24; refine (implWord A m c b o word _ H.out).mono ?_; rintro e w' ⟨rfl, rfl⟩; rw [HW.out])
    go_ret
    exact ⟨ret_int HR.out.symm, HB1.out⟩
  have HR := Lib.hid (show weightR p S MA MB E word = dot (runW p MA MB S word) E % p by unfold weightR; rw [hv, hw]; rfl)
  obtain ⟨hp, h6, hE, hS, hEv, hA, hB⟩ := waB_true hv
  obtain rfl : n4 = n1 := by rw [← HL4.out, hE, HL1.out]
  obtain rfl : n2 = n4 := by rw [← HL2.out, (sqB_true hA).1, HL1.out]
  obtain rfl : n3 = n2 := by rw [← HL3.out, (sqB_true hB).1, HL1.out]
  rw [HL1.out] at h6 hA hB
  have HW := Lib.hid hw
  have HP := Lib.hid hp
  have HS := Lib.hid (rowB_mem hS)
  have HE := Lib.hid (rowB_mem hEv)
  have HA := Lib.hid (sq_rows hA)
  have HBB := Lib.hid (sq_rows hB)
  clear hw hp hS hEv hA hB hE
  go_wp2_with (go_at_call 24; refine (implWord A m c b o word _ H.out).mono ?_; rintro e w' ⟨rfl, rfl⟩; rw [HW.out])
  go_loopw [5, 20] (fun v i wr => ∃ (k : Nat) (A' : Option Addr) (c' b' o' : Nat), k ≤ m ∧ i = .int .i64 k ∧ v = .slice A' n3 c' ∧ IA wr A' n3 b' o' (runW p MA MB S (word.take k)) ∧ Below w1.heap.size w1 wr) (fun _ i _ => m - (intOf i).toNat)
  case atStart => exact ⟨0, _, _, _, _, by omega, rfl, rfl, H1.out, Below.refl _ _⟩
  case round =>
    obtain ⟨k, A', c', b', o', hk, rfl, rfl, hI, hbel⟩ := hrel
    have kb := keep_of_below hbel
    have x0 := kb.cell x0 (fun h => h)
    have x1 := kb.cell x1 (fun h => h)
    have x2 := kb.cell x2 (fun h => h)
    have x3 := kb.cell x3 (fun h => h)
    have x4 := kb.cell x4 (fun h => h)
    have HVR := Lib.hid (runW_val HP.out MA MB (word.take k) S HS.out)
    have HI := Lib.hid hI
    have HBR := Lib.hid hbel
    clear hI kb
    by_cases hlt : k < m
    · obtain ⟨x, hx, hxc⟩ := (H.out.below hbel).cell k hlt
      obtain rfl := H.out.adr (by omega)
      have HXW := Lib.hid (runW_step p MA MB S word k x hx)
      clear hx hbel
      by_cases hz : x = 0
      · subst hz
        go_wp2_with (fail)
        have cd0 : wr.drew.cell? ⟨w.heap.size, 0, none⟩ = some (.int .i64 p) := x0
        have cd1 : wr.drew.cell? ⟨w.heap.size, 1, none⟩ = some (.slice A1 n3 c1) := x1
        have cd2 : wr.drew.cell? ⟨w.heap.size, 2, none⟩ = some (.slice A2 n3 c2) := x2
        have cd3 : wr.drew.cell? ⟨w.heap.size, 3, none⟩ = some (.slice A3 n3 c3) := x3
        have cd4 : wr.drew.cell? ⟨w.heap.size, 4, none⟩ = some (.slice A4 n3 c4) := x4
        have Z0 : wr.cell? ⟨w.heap.size, 0, none⟩ = some (.int .i64 p) ∧ wr.cell? ⟨w.heap.size, 1, none⟩ = some (.slice A1 n3 c1) ∧ wr.cell? ⟨w.heap.size, 2, none⟩ = some (.slice A2 n3 c2) ∧ wr.cell? ⟨w.heap.size, 3, none⟩ = some (.slice A3 n3 c3) ∧ wr.cell? ⟨w.heap.size, 4, none⟩ = some (.slice A4 n3 c4) := ⟨x0, x1, x2, x3, x4⟩
        have Z1 : wr.drew.cell? ⟨w.heap.size, 0, none⟩ = some (.int .i64 p) ∧ wr.drew.cell? ⟨w.heap.size, 1, none⟩ = some (.slice A1 n3 c1) ∧ wr.drew.cell? ⟨w.heap.size, 2, none⟩ = some (.slice A2 n3 c2) ∧ wr.drew.cell? ⟨w.heap.size, 3, none⟩ = some (.slice A3 n3 c3) ∧ wr.drew.cell? ⟨w.heap.size, 4, none⟩ = some (.slice A4 n3 c4) := ⟨cd0, cd1, cd2, cd3, cd4⟩
        have hdr : Below wr.heap.size wr wr.drew := below_drawn (Below.refl _ _) ⟨1, rfl⟩
        have Hrd := Lib.hid (HI.out.below hdr)
        have Hmd := Lib.hid ((H2.out.below HBR.out).below hdr)
        have HDR := Lib.hid hdr
        clear hdr
        go_region_held3 (fun w' => w'.cell? ⟨w.heap.size, 0, none⟩ = some (.int .i64 p) ∧ w'.cell? ⟨w.heap.size, 1, none⟩ = some (.slice A1 n3 c1) ∧ w'.cell? ⟨w.heap.size, 2, none⟩ = some (.slice A2 n3 c2) ∧ w'.cell? ⟨w.heap.size, 3, none⟩ = some (.slice A3 n3 c3) ∧ w'.cell? ⟨w.heap.size, 4, none⟩ = some (.slice A4 n3 c4)) (first | assumption | exact Z3 | exact Z2 | exact Z1 | exact Z0 | go_keep) (first | (go_at_call 60; refine (matrixOf_a _ A1 n3 c1 A2 n3 c2 A3 n3 c3 _ _).mono ?_; rintro e w2 ⟨rfl, hN0⟩; have hN := hN0; have ce0 := (keep_of_below hN).cell cd0 (fun h => h); have ce1 := (keep_of_below hN).cell cd1 (fun h => h); have ce2 := (keep_of_below hN).cell cd2 (fun h => h); have ce3 := (keep_of_below hN).cell cd3 (fun h => h); have ce4 := (keep_of_below hN).cell cd4 (fun h => h); have Z2 := And.intro ce0 (And.intro ce1 (And.intro ce2 (And.intro ce3 ce4))); have HN0 := Lib.hid hN; have Hre := Lib.hid (Hrd.out.below hN); have Hme := Lib.hid (Hmd.out.below hN); clear hN0; clear hN) | (go_at_call 59; refine (implRowT p A' n3 c' b' o' _ A2 c2 b2 o2 MA _ Hre.out Hme.out (by omega) HP.out HVR.out HA.out).mono ?_; rintro e w3 ⟨A5, c5, rfl, hO, hN0⟩; have hN := hN0; have cf0 := (keep_of_below hN).cell ce0 (fun h => h); have cf1 := (keep_of_below hN).cell ce1 (fun h => h); have cf2 := (keep_of_below hN).cell ce2 (fun h => h); have cf3 := (keep_of_below hN).cell ce3 (fun h => h); have cf4 := (keep_of_below hN).cell ce4 (fun h => h); have Z3 := And.intro cf0 (And.intro cf1 (And.intro cf2 (And.intro cf3 cf4))); have HN1 := Lib.hid hN; obtain ⟨b5, hI5⟩ := hO.ia; have HI5 := Lib.hid hI5; clear hO hI5 hN0; clear hN))
        have HNN := Lib.hid (below_more (below_more HDR.out HN0.out) HN1.out)
        have x_ := Z3
        obtain ⟨x0, x1, x2, x3, x4⟩ := x_
        clear Z0 Z1 Z2 Z3 HDR HN0 HN1 cd0 cd1 cd2 cd3 cd4 ce0 ce1 ce2 ce3 ce4 cf0 cf1 cf2 cf3 cf4
        go_wp2_with (fail)
        go_roundw
        case rel => exact ⟨k + 1, _, _, _, _, by omega, by go_num, rfl, by rw [HXW.out]; exact HI5.out, HBR.out.trans (HNN.out.mono HBR.out.size)⟩
        case measure => simp [intOf]; omega
      · go_wp2_with (fail)
        have cd0 : wr.drew.cell? ⟨w.heap.size, 0, none⟩ = some (.int .i64 p) := x0
        have cd1 : wr.drew.cell? ⟨w.heap.size, 1, none⟩ = some (.slice A1 n3 c1) := x1
        have cd2 : wr.drew.cell? ⟨w.heap.size, 2, none⟩ = some (.slice A2 n3 c2) := x2
        have cd3 : wr.drew.cell? ⟨w.heap.size, 3, none⟩ = some (.slice A3 n3 c3) := x3
        have cd4 : wr.drew.cell? ⟨w.heap.size, 4, none⟩ = some (.slice A4 n3 c4) := x4
        have Z0 : wr.cell? ⟨w.heap.size, 0, none⟩ = some (.int .i64 p) ∧ wr.cell? ⟨w.heap.size, 1, none⟩ = some (.slice A1 n3 c1) ∧ wr.cell? ⟨w.heap.size, 2, none⟩ = some (.slice A2 n3 c2) ∧ wr.cell? ⟨w.heap.size, 3, none⟩ = some (.slice A3 n3 c3) ∧ wr.cell? ⟨w.heap.size, 4, none⟩ = some (.slice A4 n3 c4) := ⟨x0, x1, x2, x3, x4⟩
        have Z1 : wr.drew.cell? ⟨w.heap.size, 0, none⟩ = some (.int .i64 p) ∧ wr.drew.cell? ⟨w.heap.size, 1, none⟩ = some (.slice A1 n3 c1) ∧ wr.drew.cell? ⟨w.heap.size, 2, none⟩ = some (.slice A2 n3 c2) ∧ wr.drew.cell? ⟨w.heap.size, 3, none⟩ = some (.slice A3 n3 c3) ∧ wr.drew.cell? ⟨w.heap.size, 4, none⟩ = some (.slice A4 n3 c4) := ⟨cd0, cd1, cd2, cd3, cd4⟩
        have hdr : Below wr.heap.size wr wr.drew := below_drawn (Below.refl _ _) ⟨1, rfl⟩
        have Hrd := Lib.hid (HI.out.below hdr)
        have Hmd := Lib.hid ((H3.out.below HBR.out).below hdr)
        have HDR := Lib.hid hdr
        clear hdr
        go_region_held3 (fun w' => w'.cell? ⟨w.heap.size, 0, none⟩ = some (.int .i64 p) ∧ w'.cell? ⟨w.heap.size, 1, none⟩ = some (.slice A1 n3 c1) ∧ w'.cell? ⟨w.heap.size, 2, none⟩ = some (.slice A2 n3 c2) ∧ w'.cell? ⟨w.heap.size, 3, none⟩ = some (.slice A3 n3 c3) ∧ w'.cell? ⟨w.heap.size, 4, none⟩ = some (.slice A4 n3 c4)) (first | assumption | exact Z3 | exact Z2 | exact Z1 | exact Z0 | go_keep) (first | (go_at_call 60; refine (matrixOf_b _ A1 n3 c1 A2 n3 c2 A3 n3 c3 _ x _ hz).mono ?_; rintro e w2 ⟨rfl, hN0⟩; have hN := hN0; have ce0 := (keep_of_below hN).cell cd0 (fun h => h); have ce1 := (keep_of_below hN).cell cd1 (fun h => h); have ce2 := (keep_of_below hN).cell cd2 (fun h => h); have ce3 := (keep_of_below hN).cell cd3 (fun h => h); have ce4 := (keep_of_below hN).cell cd4 (fun h => h); have Z2 := And.intro ce0 (And.intro ce1 (And.intro ce2 (And.intro ce3 ce4))); have HN0 := Lib.hid hN; have Hre := Lib.hid (Hrd.out.below hN); have Hme := Lib.hid (Hmd.out.below hN); clear hN0; clear hN) | (go_at_call 59; refine (implRowT p A' n3 c' b' o' _ A3 c3 b3 o3 MB _ Hre.out Hme.out (by omega) HP.out HVR.out HBB.out).mono ?_; rintro e w3 ⟨A5, c5, rfl, hO, hN0⟩; have hN := hN0; have cf0 := (keep_of_below hN).cell ce0 (fun h => h); have cf1 := (keep_of_below hN).cell ce1 (fun h => h); have cf2 := (keep_of_below hN).cell ce2 (fun h => h); have cf3 := (keep_of_below hN).cell ce3 (fun h => h); have cf4 := (keep_of_below hN).cell ce4 (fun h => h); have Z3 := And.intro cf0 (And.intro cf1 (And.intro cf2 (And.intro cf3 cf4))); have HN1 := Lib.hid hN; obtain ⟨b5, hI5⟩ := hO.ia; have HI5 := Lib.hid hI5; clear hO hI5 hN0; clear hN))
        have HNN := Lib.hid (below_more (below_more HDR.out HN0.out) HN1.out)
        have x_ := Z3
        obtain ⟨x0, x1, x2, x3, x4⟩ := x_
        clear Z0 Z1 Z2 Z3 HDR HN0 HN1 cd0 cd1 cd2 cd3 cd4 ce0 ce1 ce2 ce3 ce4 cf0 cf1 cf2 cf3 cf4
        go_wp2_with (fail)
        go_roundw
        case rel => exact ⟨k + 1, _, _, _, _, by omega, by go_num, rfl, by rw [HXW.out, if_neg hz]; exact HI5.out, HBR.out.trans (HNN.out.mono HBR.out.size)⟩
        case measure => simp [intOf]; omega
    · obtain rfl : k = m := by omega
      have HE2 := Lib.hid (show word.take k = word from List.take_of_length_le (by have := H.out.len; omega))
      clear hbel
      go_wp2_with (fail)
      refine (sumOfProducts_any p A' n3 c' b' o' _ A4 c4 b4 o4 E _ HI.out (H4.out.below HBR.out) (by omega) HP.out HVR.out HE.out).mono ?_
      rintro e w3 ⟨rfl, hw3⟩
      have HB3 := Lib.hid (below_drawn HBR.out hw3)
      clear hw3
      go_wp2_with (fail)
      go_ret
      exact ⟨ret_int (by rw [HR.out, HE2.out]), HB1.out.trans (HB3.out.mono HB1.out.size)⟩
end Go.Proofs.Ytegkmolffemkpaa

/-
  The walk of the exact law of WaTimes.
-/
import Derived.Deep.RegionHeld3
import Derived.Test.YtegkmolffemkpaaWtd
namespace Go.Proofs.Ytegkmolffemkpaa
open Go.RowKit
set_option maxRecDepth 100000 in
set_option maxHeartbeats 16000000 in
set_option linter.unusedVariables false in
theorem walkFnExactWaTimes (p0 : Int) (Aa0 : Option Addr) (na0 ca0 : Nat) (Ab0 : Option Addr) (nb0 cb0 : Nat) (Ac0 : Option Addr) (nc0 cc0 : Nat) (Ad0 : Option Addr) (nd0 cd0 : Nat) (S0 : List Int) (MA0 MB0 : List (List Int)) (E0 : List Int) (p1 : Int) (Aa1 : Option Addr) (na1 ca1 : Nat) (Ab1 : Option Addr) (nb1 cb1 : Nat) (Ac1 : Option Addr) (nc1 cc1 : Nat) (Ad1 : Option Addr) (nd1 cd1 : Nat) (S1 : List Int) (MA1 MB1 : List (List Int)) (E1 : List Int) (w : World) (w0 : WV w (.agg #[.int .i64 p0, .slice Aa0 na0 ca0, .slice Ab0 nb0 cb0, .slice Ac0 nc0 cc0, .slice Ad0 nd0 cd0]) p0 S0 MA0 MB0 E0) (w1 : WV w (.agg #[.int .i64 p1, .slice Aa1 na1 ca1, .slice Ab1 nb1 cb1, .slice Ac1 nc1 cc1, .slice Ad1 nd1 cd1]) p1 S1 MA1 MB1 E1) :
    Calls Try.prog 14 #[.agg #[.int .i64 p0, .slice Aa0 na0 ca0, .slice Ab0 nb0 cb0, .slice Ac0 nc0 cc0, .slice Ad0 nd0 cd0], .agg #[.int .i64 p1, .slice Aa1 na1 ca1, .slice Ab1 nb1 cb1, .slice Ac1 nc1 cc1, .slice Ad1 nd1 cd1]] w fun e w' => e = .returned (.bool true) ∧ Below w.heap.size w w' := by
  have H0 := Lib.hid w0
  have H1 := Lib.hid w1
  clear w0 w1
  go_enter Try.func14, Try.ntmps14
  have hBw0 := Below.refl w.heap.size w
  go_wp2_with (fail)
  obtain ⟨wqa0, hQ⟩ : ∃ W, w.alloc (.cells #[.int .i64 p0, .slice Aa0 na0 ca0, .slice Ab0 nb0 cb0, .slice Ac0 nc0 cc0, .slice Ad0 nd0 cd0] 32) = W := ⟨_, rfl⟩
  rw [hQ]
  have hN : Below w.heap.size w wqa0 := by rw [← hQ]; exact (Below.refl _ _).alloc (Nat.le_refl _) _
  obtain ⟨hn0, hn1, hn2, hn3, hn4⟩ := box5 w (.int .i64 p0) (.slice Aa0 na0 ca0) (.slice Ab0 nb0 cb0) (.slice Ac0 nc0 cc0) (.slice Ad0 nd0 cd0) 32
  rw [hQ] at hn0 hn1 hn2 hn3 hn4
  have hse' : wqa0.heap.size = w.heap.size + 1 := by rw [← hQ]; simp
  have hnl : w.heap.size < wqa0.heap.size := cell_lt hn0
  have lca0 := hnl
  clear hQ
  have hse := hse'
  clear hse'
  have hBw_1 := below_more hBw0 hN
  clear hBw0
  have hzwqa0 := hN.size
  clear hN
  have bxa00 := hn0
  clear hn0
  have bxa01 := hn1
  clear hn1
  have bxa02 := hn2
  clear hn2
  have bxa03 := hn3
  clear hn3
  have bxa04 := hn4
  clear hn4
  have lba0 := hnl
  clear hnl
  obtain ⟨wqa1, hQ⟩ : ∃ W, wqa0.alloc (.cells #[.int .i64 p1, .slice Aa1 na1 ca1, .slice Ab1 nb1 cb1, .slice Ac1 nc1 cc1, .slice Ad1 nd1 cd1] 32) = W := ⟨_, rfl⟩
  rw [hQ]
  have hN : Below wqa0.heap.size wqa0 wqa1 := by rw [← hQ]; exact (Below.refl _ _).alloc (Nat.le_refl _) _
  obtain ⟨hn0, hn1, hn2, hn3, hn4⟩ := box5 wqa0 (.int .i64 p1) (.slice Aa1 na1 ca1) (.slice Ab1 nb1 cb1) (.slice Ac1 nc1 cc1) (.slice Ad1 nd1 cd1) 32
  rw [hQ] at hn0 hn1 hn2 hn3 hn4
  have hnl : wqa0.heap.size < wqa1.heap.size := cell_lt hn0
  rw [hse] at hn0 hn1 hn2 hn3 hn4 hnl
  clear hse
  have lca1 := hnl
  clear hQ
  have hBw_2 := below_more hBw_1 hN
  clear hBw_1
  have hkN := keep_of_below hN
  have bxa00' := hkN.cell bxa00 (fun h => h)
  clear bxa00
  have bxa00 := bxa00'
  clear bxa00'
  have bxa01' := hkN.cell bxa01 (fun h => h)
  clear bxa01
  have bxa01 := bxa01'
  clear bxa01'
  have bxa02' := hkN.cell bxa02 (fun h => h)
  clear bxa02
  have bxa02 := bxa02'
  clear bxa02'
  have bxa03' := hkN.cell bxa03 (fun h => h)
  clear bxa03
  have bxa03 := bxa03'
  clear bxa03'
  have bxa04' := hkN.cell bxa04 (fun h => h)
  clear bxa04
  have bxa04 := bxa04'
  clear bxa04'
  have lba0' := Nat.lt_of_lt_of_le lba0 hN.size
  clear lba0
  have lba0 := lba0'
  clear lba0'
  clear hkN
  have hzwqa1 := hN.size
  clear hN
  have bxa10 := hn0
  clear hn0
  have bxa11 := hn1
  clear hn1
  have bxa12 := hn2
  clear hn2
  have bxa13 := hn3
  clear hn3
  have bxa14 := hn4
  clear hn4
  have lba1 := hnl
  clear hnl
  refine (szWa _ p0 S0 MA0 MB0 E0 1048576 _ (H0.out.below hBw_2) (by decide) (by decide)).mono ?_
  rintro e wz0 ⟨r0, rfl, hr0, hN⟩
  have hBw_3 := below_more hBw_2 hN
  clear hBw_2
  have hkN := keep_of_below hN
  have bxa00' := hkN.cell bxa00 (fun h => h)
  clear bxa00
  have bxa00 := bxa00'
  clear bxa00'
  have bxa01' := hkN.cell bxa01 (fun h => h)
  clear bxa01
  have bxa01 := bxa01'
  clear bxa01'
  have bxa02' := hkN.cell bxa02 (fun h => h)
  clear bxa02
  have bxa02 := bxa02'
  clear bxa02'
  have bxa03' := hkN.cell bxa03 (fun h => h)
  clear bxa03
  have bxa03 := bxa03'
  clear bxa03'
  have bxa04' := hkN.cell bxa04 (fun h => h)
  clear bxa04
  have bxa04 := bxa04'
  clear bxa04'
  have lba0' := Nat.lt_of_lt_of_le lba0 hN.size
  clear lba0
  have lba0 := lba0'
  clear lba0'
  have bxa10' := hkN.cell bxa10 (fun h => h)
  clear bxa10
  have bxa10 := bxa10'
  clear bxa10'
  have bxa11' := hkN.cell bxa11 (fun h => h)
  clear bxa11
  have bxa11 := bxa11'
  clear bxa11'
  have bxa12' := hkN.cell bxa12 (fun h => h)
  clear bxa12
  have bxa12 := bxa12'
  clear bxa12'
  have bxa13' := hkN.cell bxa13 (fun h => h)
  clear bxa13
  have bxa13 := bxa13'
  clear bxa13'
  have bxa14' := hkN.cell bxa14 (fun h => h)
  clear bxa14
  have bxa14 := bxa14'
  clear bxa14'
  have lba1' := Nat.lt_of_lt_of_le lba1 hN.size
  clear lba1
  have lba1 := lba1'
  clear lba1'
  clear hkN
  have hzwz0 := hN.size
  clear hN
  rcases hr0 with hr0 | ⟨hr00, hrx0, hs0, ⟨hma0, hra0⟩, ⟨hmb0, hrb0⟩, hen0⟩
  · go_wp2_with (fail)
    go_ret
    exact ⟨rfl, hBw_3⟩
  have hS0 : S0.length ≤ 1048576 := by omega
  have hE0 : E0.length ≤ 1048576 := by omega
  have hMA0 : MA0.length ≤ 1048576 ∧ ∀ row ∈ MA0, row.length ≤ 1048576 := ⟨by omega, fun row hr => by have := hra0 row hr; omega⟩
  have htA0 := tot_rows MA0 1048576 hMA0.2
  have hlA0 := hMA0.1
  have hMB0 : MB0.length ≤ 1048576 ∧ ∀ row ∈ MB0, row.length ≤ 1048576 := ⟨by omega, fun row hr => by have := hrb0 row hr; omega⟩
  have htB0 := tot_rows MB0 1048576 hMB0.2
  have hlB0 := hMB0.1
  clear hra0 hrb0
  go_wp2_with (fail)
  refine (szWa _ p1 S1 MA1 MB1 E1 r0 _ (H1.out.below hBw_3) (by omega) (by omega)).mono ?_
  rintro e wz1 ⟨r1, rfl, hr1, hN⟩
  have hBw_4 := below_more hBw_3 hN
  clear hBw_3
  have hkN := keep_of_below hN
  have bxa00' := hkN.cell bxa00 (fun h => h)
  clear bxa00
  have bxa00 := bxa00'
  clear bxa00'
  have bxa01' := hkN.cell bxa01 (fun h => h)
  clear bxa01
  have bxa01 := bxa01'
  clear bxa01'
  have bxa02' := hkN.cell bxa02 (fun h => h)
  clear bxa02
  have bxa02 := bxa02'
  clear bxa02'
  have bxa03' := hkN.cell bxa03 (fun h => h)
  clear bxa03
  have bxa03 := bxa03'
  clear bxa03'
  have bxa04' := hkN.cell bxa04 (fun h => h)
  clear bxa04
  have bxa04 := bxa04'
  clear bxa04'
  have lba0' := Nat.lt_of_lt_of_le lba0 hN.size
  clear lba0
  have lba0 := lba0'
  clear lba0'
  have bxa10' := hkN.cell bxa10 (fun h => h)
  clear bxa10
  have bxa10 := bxa10'
  clear bxa10'
  have bxa11' := hkN.cell bxa11 (fun h => h)
  clear bxa11
  have bxa11 := bxa11'
  clear bxa11'
  have bxa12' := hkN.cell bxa12 (fun h => h)
  clear bxa12
  have bxa12 := bxa12'
  clear bxa12'
  have bxa13' := hkN.cell bxa13 (fun h => h)
  clear bxa13
  have bxa13 := bxa13'
  clear bxa13'
  have bxa14' := hkN.cell bxa14 (fun h => h)
  clear bxa14
  have bxa14 := bxa14'
  clear bxa14'
  have lba1' := Nat.lt_of_lt_of_le lba1 hN.size
  clear lba1
  have lba1 := lba1'
  clear lba1'
  clear hkN
  have hzwz1 := hN.size
  clear hN
  rcases hr1 with hr1 | ⟨hr01, hrx1, hs1, ⟨hma1, hra1⟩, ⟨hmb1, hrb1⟩, hen1⟩
  · go_wp2_with (fail)
    go_ret
    exact ⟨rfl, hBw_4⟩
  have hS1 : S1.length ≤ 1048576 := by omega
  have hE1 : E1.length ≤ 1048576 := by omega
  have hMA1 : MA1.length ≤ 1048576 ∧ ∀ row ∈ MA1, row.length ≤ 1048576 := ⟨by omega, fun row hr => by have := hra1 row hr; omega⟩
  have htA1 := tot_rows MA1 1048576 hMA1.2
  have hlA1 := hMA1.1
  have hMB1 : MB1.length ≤ 1048576 ∧ ∀ row ∈ MB1, row.length ≤ 1048576 := ⟨by omega, fun row hr => by have := hrb1 row hr; omega⟩
  have htB1 := tot_rows MB1 1048576 hMB1.2
  have hlB1 := hMB1.1
  clear hra1 hrb1
  obtain ⟨RV0, hRV⟩ : ∃ RV, prodR p0 S0 MA0 MB0 E0 p1 S1 MA1 MB1 E1 = RV := ⟨_, rfl⟩
  have hbd := prod_bd p0 S0 MA0 MB0 E0 p1 S1 MA1 MB1 E1
  rw [hRV] at hbd
  obtain ⟨RP, hRP⟩ : ∃ RX, (RV0.getD (0, [], [], [], [])).1 = RX := ⟨_, rfl⟩
  obtain ⟨RS, hRS⟩ : ∃ RX, (RV0.getD (0, [], [], [], [])).2.1 = RX := ⟨_, rfl⟩
  obtain ⟨RA, hRA⟩ : ∃ RX, (RV0.getD (0, [], [], [], [])).2.2.1 = RX := ⟨_, rfl⟩
  obtain ⟨RB, hRB⟩ : ∃ RX, (RV0.getD (0, [], [], [], [])).2.2.2.1 = RX := ⟨_, rfl⟩
  obtain ⟨RE, hRE⟩ : ∃ RX, (RV0.getD (0, [], [], [], [])).2.2.2.2 = RX := ⟨_, rfl⟩
  rw [hRS, hRA, hRB, hRE] at hbd
  obtain ⟨hb1, hb2, hb3, hb4⟩ := hbd
  have HRP := Lib.hid hRP
  clear hRP
  have HRS := Lib.hid hRS
  clear hRS
  have HRA := Lib.hid hRA
  clear hRA
  have HRB := Lib.hid hRB
  clear hRB
  have HRE := Lib.hid hRE
  clear hRE
  obtain ⟨RO, hRO⟩ : ∃ RX, RV0.isSome = RX := ⟨_, rfl⟩
  have hqb : (RO != RO) = false := by cases RO <;> rfl
  have HRO := Lib.hid hRO
  clear hRO
  have HRV := Lib.hid hRV
  clear hRV
  go_upto_region 8 with (fail)
  have HAN := Lib.hid (hBw_4)
  go_cut [6, 7] (fun v6 v7 wx => ∃ (gB : Nat) (Aas : Option Addr) (cas : Nat) (Abs : Option Addr) (cbs : Nat) (Acs : Option Addr) (ccs : Nat) (Ads : Option Addr) (cds : Nat), v6 = .pointer (some ⟨gB, 0, none⟩) ∧ v7 = .bool RO ∧ wz1.heap.size ≤ gB ∧ Bx5 wx gB (.int .i64 RP) (.slice Aas RS.length cas) (.slice Abs RA.length cbs) (.slice Acs RB.length ccs) (.slice Ads RE.length cds) ∧ WO wx wz1.heap.size wx.heap.size (.agg #[.int .i64 RP, .slice Aas RS.length cas, .slice Abs RA.length cbs, .slice Acs RB.length ccs, .slice Ads RE.length cds]) RP RS RA RB RE ∧ Below wz1.heap.size wz1 wx)
  case first =>
    have cda00 : wz1.drew.cell? ⟨w.heap.size, 0, none⟩ = some (.int .i64 p0) := bxa00
    have cda01 : wz1.drew.cell? ⟨w.heap.size, 1, none⟩ = some (.slice Aa0 na0 ca0) := bxa01
    have cda02 : wz1.drew.cell? ⟨w.heap.size, 2, none⟩ = some (.slice Ab0 nb0 cb0) := bxa02
    have cda03 : wz1.drew.cell? ⟨w.heap.size, 3, none⟩ = some (.slice Ac0 nc0 cc0) := bxa03
    have cda04 : wz1.drew.cell? ⟨w.heap.size, 4, none⟩ = some (.slice Ad0 nd0 cd0) := bxa04
    have cda10 : wz1.drew.cell? ⟨w.heap.size + 1, 0, none⟩ = some (.int .i64 p1) := bxa10
    have cda11 : wz1.drew.cell? ⟨w.heap.size + 1, 1, none⟩ = some (.slice Aa1 na1 ca1) := bxa11
    have cda12 : wz1.drew.cell? ⟨w.heap.size + 1, 2, none⟩ = some (.slice Ab1 nb1 cb1) := bxa12
    have cda13 : wz1.drew.cell? ⟨w.heap.size + 1, 3, none⟩ = some (.slice Ac1 nc1 cc1) := bxa13
    have cda14 : wz1.drew.cell? ⟨w.heap.size + 1, 4, none⟩ = some (.slice Ad1 nd1 cd1) := bxa14
    have ZA : wz1.cell? ⟨w.heap.size, 0, none⟩ = some (.int .i64 p0) ∧ wz1.cell? ⟨w.heap.size, 1, none⟩ = some (.slice Aa0 na0 ca0) ∧ wz1.cell? ⟨w.heap.size, 2, none⟩ = some (.slice Ab0 nb0 cb0) ∧ wz1.cell? ⟨w.heap.size, 3, none⟩ = some (.slice Ac0 nc0 cc0) ∧ wz1.cell? ⟨w.heap.size, 4, none⟩ = some (.slice Ad0 nd0 cd0) ∧ wz1.cell? ⟨w.heap.size + 1, 0, none⟩ = some (.int .i64 p1) ∧ wz1.cell? ⟨w.heap.size + 1, 1, none⟩ = some (.slice Aa1 na1 ca1) ∧ wz1.cell? ⟨w.heap.size + 1, 2, none⟩ = some (.slice Ab1 nb1 cb1) ∧ wz1.cell? ⟨w.heap.size + 1, 3, none⟩ = some (.slice Ac1 nc1 cc1) ∧ wz1.cell? ⟨w.heap.size + 1, 4, none⟩ = some (.slice Ad1 nd1 cd1) := (And.intro bxa00 (And.intro bxa01 (And.intro bxa02 (And.intro bxa03 (And.intro bxa04 (And.intro bxa10 (And.intro bxa11 (And.intro bxa12 (And.intro bxa13 (bxa14))))))))))
    have ZB : wz1.drew.cell? ⟨w.heap.size, 0, none⟩ = some (.int .i64 p0) ∧ wz1.drew.cell? ⟨w.heap.size, 1, none⟩ = some (.slice Aa0 na0 ca0) ∧ wz1.drew.cell? ⟨w.heap.size, 2, none⟩ = some (.slice Ab0 nb0 cb0) ∧ wz1.drew.cell? ⟨w.heap.size, 3, none⟩ = some (.slice Ac0 nc0 cc0) ∧ wz1.drew.cell? ⟨w.heap.size, 4, none⟩ = some (.slice Ad0 nd0 cd0) ∧ wz1.drew.cell? ⟨w.heap.size + 1, 0, none⟩ = some (.int .i64 p1) ∧ wz1.drew.cell? ⟨w.heap.size + 1, 1, none⟩ = some (.slice Aa1 na1 ca1) ∧ wz1.drew.cell? ⟨w.heap.size + 1, 2, none⟩ = some (.slice Ab1 nb1 cb1) ∧ wz1.drew.cell? ⟨w.heap.size + 1, 3, none⟩ = some (.slice Ac1 nc1 cc1) ∧ wz1.drew.cell? ⟨w.heap.size + 1, 4, none⟩ = some (.slice Ad1 nd1 cd1) := (And.intro cda00 (And.intro cda01 (And.intro cda02 (And.intro cda03 (And.intro cda04 (And.intro cda10 (And.intro cda11 (And.intro cda12 (And.intro cda13 (cda14))))))))))
    have hdr : Below wz1.heap.size wz1 wz1.drew := below_drawn (Below.refl _ _) ⟨1, rfl⟩
    have HAd0 := Lib.hid ((H0.out.below HAN.out).below hdr)
    have HAd1 := Lib.hid ((H1.out.below HAN.out).below hdr)
    have HDR := Lib.hid hdr
    have hsa := HAN.out.size
    clear hdr
    have Q1 : True := trivial
    have Q2 : True := trivial
    have hfara0 : ∀ (W : World) (g o o' : Nat) (v : Value), w.heap.size < g → (W.setCell ⟨g, o, none⟩ v).cell? ⟨w.heap.size, o', none⟩ = W.cell? ⟨w.heap.size, o', none⟩ := fun W g o o' v hg => World.cell?_setCell_far _ _ _ _ (by show g ≠ w.heap.size; omega)
    have hfara1 : ∀ (W : World) (g o o' : Nat) (v : Value), w.heap.size + 1 < g → (W.setCell ⟨g, o, none⟩ v).cell? ⟨w.heap.size + 1, o', none⟩ = W.cell? ⟨w.heap.size + 1, o', none⟩ := fun W g o o' v hg => World.cell?_setCell_far _ _ _ _ (by show g ≠ w.heap.size + 1; omega)
    go_region_held3 (fun w' => w'.cell? ⟨w.heap.size, 0, none⟩ = some (.int .i64 p0) ∧ w'.cell? ⟨w.heap.size, 1, none⟩ = some (.slice Aa0 na0 ca0) ∧ w'.cell? ⟨w.heap.size, 2, none⟩ = some (.slice Ab0 nb0 cb0) ∧ w'.cell? ⟨w.heap.size, 3, none⟩ = some (.slice Ac0 nc0 cc0) ∧ w'.cell? ⟨w.heap.size, 4, none⟩ = some (.slice Ad0 nd0 cd0) ∧ w'.cell? ⟨w.heap.size + 1, 0, none⟩ = some (.int .i64 p1) ∧ w'.cell? ⟨w.heap.size + 1, 1, none⟩ = some (.slice Aa1 na1 ca1) ∧ w'.cell? ⟨w.heap.size + 1, 2, none⟩ = some (.slice Ab1 nb1 cb1) ∧ w'.cell? ⟨w.heap.size + 1, 3, none⟩ = some (.slice Ac1 nc1 cc1) ∧ w'.cell? ⟨w.heap.size + 1, 4, none⟩ = some (.slice Ad1 nd1 cd1)) (first | (refine ⟨?_, ?_, ?_, ?_, ?_, ?_, ?_, ?_, ?_, ?_⟩ <;> (simp (disch := omega) only [hfara0, hfara1]; (with_reducible assumption))) | (with_reducible exact ZE) | (with_reducible exact ZD) | (with_reducible exact ZC) | (with_reducible exact ZB) | (with_reducible exact ZA) | go_keep) (first | (clear Q1; go_at_call 21; (with_reducible refine (toWa _ p0 S0 MA0 MB0 E0 _ (by first | exact HAd0.out | exact HAd0.out.below (bel_newT _ _)) hS0 hMA0 hMB0 hE0).mono ?_); rintro e wpwb ⟨u0, rfl, hO, hN⟩; have hN' : Below wz1.drew.heap.size wz1.drew wpwb := (by first | exact hN | exact below_more (bel_newT _ (.cells #[.int .i64 0, .slice none 0 0, .slice none 0 0, .slice none 0 0, .slice none 0 0] 26)) hN); have hzwpwb' : wz1.heap.size ≤ wpwb.heap.size := hN'.size; (first | have HLB := Lib.hid (show BxW5 wpwb wz1.heap.size (.int .i64 0) (.slice none 0 0) (.slice none 0 0) (.slice none 0 0) (.slice none 0 0) from (BxW5.new wz1.drew (.int .i64 0) (.slice none 0 0) (.slice none 0 0) (.slice none 0 0) (.slice none 0 0) 26).below hN) | skip); have HRu0 := Lib.hid hO.wv; have HAe1 := Lib.hid (HAd1.out.below hN'); have hkN := keep_of_below hN'; have cea00 := hkN.cell cda00 (fun h => h); have cea01 := hkN.cell cda01 (fun h => h); have cea02 := hkN.cell cda02 (fun h => h); have cea03 := hkN.cell cda03 (fun h => h); have cea04 := hkN.cell cda04 (fun h => h); have cea10 := hkN.cell cda10 (fun h => h); have cea11 := hkN.cell cda11 (fun h => h); have cea12 := hkN.cell cda12 (fun h => h); have cea13 := hkN.cell cda13 (fun h => h); have cea14 := hkN.cell cda14 (fun h => h); have ZC := (And.intro cea00 (And.intro cea01 (And.intro cea02 (And.intro cea03 (And.intro cea04 (And.intro cea10 (And.intro cea11 (And.intro cea12 (And.intro cea13 (cea14)))))))))); have HNa := Lib.hid hN'; (first | have hla := HLB.out.c.lt | skip); clear hO hN hN' hkN) | (clear Q2; go_at_call 21; (with_reducible refine (toWa _ p1 S1 MA1 MB1 E1 _ (by first | exact HAe1.out | exact HAe1.out.below (bel_newT _ _)) hS1 hMA1 hMB1 hE1).mono ?_); rintro e wvwb ⟨u1, rfl, hO, hN⟩; have hN' : Below wpwb.heap.size wpwb wvwb := (by first | exact hN | exact below_more (bel_newT _ (.cells #[.int .i64 0, .slice none 0 0, .slice none 0 0, .slice none 0 0, .slice none 0 0] 26)) hN); have hzwvwb' : wpwb.heap.size ≤ wvwb.heap.size := hN'.size; (first | have HLB := Lib.hid (HLB.out.below hN') | have HLB := Lib.hid ((BxW5.new wpwb (.int .i64 0) (.slice none 0 0) (.slice none 0 0) (.slice none 0 0) (.slice none 0 0) 26).below hN) | skip); have HRu1 := Lib.hid hO.wv; have HRu0 := Lib.hid (HRu0.out.below hN'); have hkN := keep_of_below hN'; have cga00 := hkN.cell cea00 (fun h => h); have cga01 := hkN.cell cea01 (fun h => h); have cga02 := hkN.cell cea02 (fun h => h); have cga03 := hkN.cell cea03 (fun h => h); have cga04 := hkN.cell cea04 (fun h => h); have cga10 := hkN.cell cea10 (fun h => h); have cga11 := hkN.cell cea11 (fun h => h); have cga12 := hkN.cell cea12 (fun h => h); have cga13 := hkN.cell cea13 (fun h => h); have cga14 := hkN.cell cea14 (fun h => h); have ZD := (And.intro cga00 (And.intro cga01 (And.intro cga02 (And.intro cga03 (And.intro cga04 (And.intro cga10 (And.intro cga11 (And.intro cga12 (And.intro cga13 (cga14)))))))))); have HNb := Lib.hid hN'; (first | have hlb := HLB.out.c.lt | skip); clear hO hN hN' hkN) | (go_at_call 45; refine (specWaTimesM _ p0 S0 MA0 MB0 E0 _ p1 S1 MA1 MB1 E1 _ (by first | exact HRu0.out | exact HRu0.out.below (bel_newT _ _)) (by first | exact HRu1.out | exact HRu1.out.below (bel_newT _ _))).mono ?_; rw [HRV.out]; unfold MadeWB; rw [HRO.out]; rintro e wb ⟨_, rfl, hO, hN⟩; rw [show waZ = (0, [], [], [], []) from rfl, HRP.out, HRS.out, HRA.out, HRB.out, HRE.out] at hO; obtain ⟨Aas, cas, Abs, cbs, Acs, ccs, Ads, cds, rfl⟩ := hO.shape; have hN' : Below wvwb.heap.size wvwb wb := (by first | exact hN | exact below_more (bel_newT _ (.cells #[.int .i64 0, .slice none 0 0, .slice none 0 0, .slice none 0 0, .slice none 0 0] 26)) hN); have hzwb' : wvwb.heap.size ≤ wb.heap.size := hN'.size; (first | have HLB := Lib.hid (HLB.out.below hN') | have HLB := Lib.hid ((BxW5.new wvwb (.int .i64 0) (.slice none 0 0) (.slice none 0 0) (.slice none 0 0) (.slice none 0 0) 26).below hN) | skip); have HOx := Lib.hid hO; clear hO; have hkN := keep_of_below hN'; have cha00 := hkN.cell cga00 (fun h => h); have cha01 := hkN.cell cga01 (fun h => h); have cha02 := hkN.cell cga02 (fun h => h); have cha03 := hkN.cell cga03 (fun h => h); have cha04 := hkN.cell cga04 (fun h => h); have cha10 := hkN.cell cga10 (fun h => h); have cha11 := hkN.cell cga11 (fun h => h); have cha12 := hkN.cell cga12 (fun h => h); have cha13 := hkN.cell cga13 (fun h => h); have cha14 := hkN.cell cga14 (fun h => h); have ZE := (And.intro cha00 (And.intro cha01 (And.intro cha02 (And.intro cha03 (And.intro cha04 (And.intro cha10 (And.intro cha11 (And.intro cha12 (And.intro cha13 (cha14)))))))))); have HNc := Lib.hid hN'; (first | (obtain ⟨z0, z1, z2, z3, z4⟩ := HLB.out.c; have zf := HLB.out.fz; have hlc := HLB.out.c.lt) | skip); clear hN hN' hkN))
    all_goals
      have hTot := Lib.hid (below_more (below_more (below_more HDR.out HNa.out) HNb.out) HNc.out)
      go_wp2_with (fail)
      go_meet
      first
        | exact ⟨_, Aas, cas, Abs, cbs, Acs, ccs, Ads, cds, rfl, rfl, cutw_put HLB.out HOx.out hTot.out (by first | omega | (simp <;> omega)) (by first | omega | (simp <;> omega)) (by first | omega | (simp <;> omega)) (Nat.le_refl _) _ _ _ _ _⟩
        | exact ⟨_, Aas, cas, Abs, cbs, Acs, ccs, Ads, cds, rfl, rfl, cutw_new HOx.out hTot.out (by first | omega | (simp <;> omega)) (Nat.le_refl _) _⟩
  case rest =>
  obtain ⟨gBs, Aas, cas, Abs, cbs, Acs, ccs, Ads, cds, rfl, rfl, hgl, hbx, hO, hN⟩ := hcut
  obtain ⟨wb, rfl⟩ : ∃ wb : World, wb = wc := ⟨_, rfl⟩
  have lcs := hbx.lt
  obtain ⟨hn0, hn1, hn2, hn3, hn4⟩ := hbx
  have hnl := lcs
  clear HAN
  have HOy := Lib.hid hO
  clear hO
  have hBw_5 := below_more hBw_4 hN
  clear hBw_4
  have hkN := keep_of_below hN
  have bxa00' := hkN.cell bxa00 (fun h => h)
  clear bxa00
  have bxa00 := bxa00'
  clear bxa00'
  have bxa01' := hkN.cell bxa01 (fun h => h)
  clear bxa01
  have bxa01 := bxa01'
  clear bxa01'
  have bxa02' := hkN.cell bxa02 (fun h => h)
  clear bxa02
  have bxa02 := bxa02'
  clear bxa02'
  have bxa03' := hkN.cell bxa03 (fun h => h)
  clear bxa03
  have bxa03 := bxa03'
  clear bxa03'
  have bxa04' := hkN.cell bxa04 (fun h => h)
  clear bxa04
  have bxa04 := bxa04'
  clear bxa04'
  have lba0' := Nat.lt_of_lt_of_le lba0 hN.size
  clear lba0
  have lba0 := lba0'
  clear lba0'
  have bxa10' := hkN.cell bxa10 (fun h => h)
  clear bxa10
  have bxa10 := bxa10'
  clear bxa10'
  have bxa11' := hkN.cell bxa11 (fun h => h)
  clear bxa11
  have bxa11 := bxa11'
  clear bxa11'
  have bxa12' := hkN.cell bxa12 (fun h => h)
  clear bxa12
  have bxa12 := bxa12'
  clear bxa12'
  have bxa13' := hkN.cell bxa13 (fun h => h)
  clear bxa13
  have bxa13 := bxa13'
  clear bxa13'
  have bxa14' := hkN.cell bxa14 (fun h => h)
  clear bxa14
  have bxa14 := bxa14'
  clear bxa14'
  have lba1' := Nat.lt_of_lt_of_le lba1 hN.size
  clear lba1
  have lba1 := lba1'
  clear lba1'
  clear hkN
  have hzwb := hN.size
  clear hN
  have bxs0 := hn0
  clear hn0
  have bxs1 := hn1
  clear hn1
  have bxs2 := hn2
  clear hn2
  have bxs3 := hn3
  clear hn3
  have bxs4 := hn4
  clear hn4
  have lbs := hnl
  clear hnl
  have hO := HOy.out
  clear HOy
  have HRs := Lib.hid hO.wv
  have HOs := Lib.hid hO
  clear hO
  have hBwb_6 := Below.refl wb.heap.size wb
  go_wp2_with (fail)
  refine (toWa _ p0 S0 MA0 MB0 E0 _ (H0.out.below hBw_5) hS0 hMA0 hMB0 hE0).mono ?_
  rintro e wx0 ⟨_, rfl, hO, hN⟩
  obtain ⟨Aax0, cax0, Abx0, cbx0, Acx0, ccx0, Adx0, cdx0, rfl⟩ := hO.shape
  have hBw_7 := below_more hBw_5 hN
  clear hBw_5
  have hBwb_7 := below_more hBwb_6 hN
  clear hBwb_6
  have hkN := keep_of_below hN
  have bxa00' := hkN.cell bxa00 (fun h => h)
  clear bxa00
  have bxa00 := bxa00'
  clear bxa00'
  have bxa01' := hkN.cell bxa01 (fun h => h)
  clear bxa01
  have bxa01 := bxa01'
  clear bxa01'
  have bxa02' := hkN.cell bxa02 (fun h => h)
  clear bxa02
  have bxa02 := bxa02'
  clear bxa02'
  have bxa03' := hkN.cell bxa03 (fun h => h)
  clear bxa03
  have bxa03 := bxa03'
  clear bxa03'
  have bxa04' := hkN.cell bxa04 (fun h => h)
  clear bxa04
  have bxa04 := bxa04'
  clear bxa04'
  have lba0' := Nat.lt_of_lt_of_le lba0 hN.size
  clear lba0
  have lba0 := lba0'
  clear lba0'
  have bxa10' := hkN.cell bxa10 (fun h => h)
  clear bxa10
  have bxa10 := bxa10'
  clear bxa10'
  have bxa11' := hkN.cell bxa11 (fun h => h)
  clear bxa11
  have bxa11 := bxa11'
  clear bxa11'
  have bxa12' := hkN.cell bxa12 (fun h => h)
  clear bxa12
  have bxa12 := bxa12'
  clear bxa12'
  have bxa13' := hkN.cell bxa13 (fun h => h)
  clear bxa13
  have bxa13 := bxa13'
  clear bxa13'
  have bxa14' := hkN.cell bxa14 (fun h => h)
  clear bxa14
  have bxa14 := bxa14'
  clear bxa14'
  have lba1' := Nat.lt_of_lt_of_le lba1 hN.size
  clear lba1
  have lba1 := lba1'
  clear lba1'
  have bxs0' := hkN.cell bxs0 (fun h => h)
  clear bxs0
  have bxs0 := bxs0'
  clear bxs0'
  have bxs1' := hkN.cell bxs1 (fun h => h)
  clear bxs1
  have bxs1 := bxs1'
  clear bxs1'
  have bxs2' := hkN.cell bxs2 (fun h => h)
  clear bxs2
  have bxs2 := bxs2'
  clear bxs2'
  have bxs3' := hkN.cell bxs3 (fun h => h)
  clear bxs3
  have bxs3 := bxs3'
  clear bxs3'
  have bxs4' := hkN.cell bxs4 (fun h => h)
  clear bxs4
  have bxs4 := bxs4'
  clear bxs4'
  have lbs' := Nat.lt_of_lt_of_le lbs hN.size
  clear lbs
  have lbs := lbs'
  clear lbs'
  clear hkN
  have hzwx0 := hN.size
  clear hN
  have HRx0 := Lib.hid hO.wv
  have HOx0 := Lib.hid hO
  clear hO
  have hBwx0_8 := Below.refl wx0.heap.size wx0
  go_wp2_with (fail)
  obtain ⟨wqx0, hQ⟩ : ∃ W, wx0.alloc (.cells #[.int .i64 p0, .slice Aax0 S0.length cax0, .slice Abx0 MA0.length cbx0, .slice Acx0 MB0.length ccx0, .slice Adx0 E0.length cdx0] 26) = W := ⟨_, rfl⟩
  rw [hQ]
  have hN : Below wx0.heap.size wx0 wqx0 := by rw [← hQ]; exact (Below.refl _ _).alloc (Nat.le_refl _) _
  obtain ⟨hn0, hn1, hn2, hn3, hn4⟩ := box5 wx0 (.int .i64 p0) (.slice Aax0 S0.length cax0) (.slice Abx0 MA0.length cbx0) (.slice Acx0 MB0.length ccx0) (.slice Adx0 E0.length cdx0) 26
  rw [hQ] at hn0 hn1 hn2 hn3 hn4
  have hnl : wx0.heap.size < wqx0.heap.size := cell_lt hn0
  have lcx0 := hnl
  clear hQ
  have hBw_9 := below_more hBw_7 hN
  clear hBw_7
  have hBwb_9 := below_more hBwb_7 hN
  clear hBwb_7
  have hBwx0_9 := below_more hBwx0_8 hN
  clear hBwx0_8
  have hkN := keep_of_below hN
  have bxa00' := hkN.cell bxa00 (fun h => h)
  clear bxa00
  have bxa00 := bxa00'
  clear bxa00'
  have bxa01' := hkN.cell bxa01 (fun h => h)
  clear bxa01
  have bxa01 := bxa01'
  clear bxa01'
  have bxa02' := hkN.cell bxa02 (fun h => h)
  clear bxa02
  have bxa02 := bxa02'
  clear bxa02'
  have bxa03' := hkN.cell bxa03 (fun h => h)
  clear bxa03
  have bxa03 := bxa03'
  clear bxa03'
  have bxa04' := hkN.cell bxa04 (fun h => h)
  clear bxa04
  have bxa04 := bxa04'
  clear bxa04'
  have lba0' := Nat.lt_of_lt_of_le lba0 hN.size
  clear lba0
  have lba0 := lba0'
  clear lba0'
  have bxa10' := hkN.cell bxa10 (fun h => h)
  clear bxa10
  have bxa10 := bxa10'
  clear bxa10'
  have bxa11' := hkN.cell bxa11 (fun h => h)
  clear bxa11
  have bxa11 := bxa11'
  clear bxa11'
  have bxa12' := hkN.cell bxa12 (fun h => h)
  clear bxa12
  have bxa12 := bxa12'
  clear bxa12'
  have bxa13' := hkN.cell bxa13 (fun h => h)
  clear bxa13
  have bxa13 := bxa13'
  clear bxa13'
  have bxa14' := hkN.cell bxa14 (fun h => h)
  clear bxa14
  have bxa14 := bxa14'
  clear bxa14'
  have lba1' := Nat.lt_of_lt_of_le lba1 hN.size
  clear lba1
  have lba1 := lba1'
  clear lba1'
  have bxs0' := hkN.cell bxs0 (fun h => h)
  clear bxs0
  have bxs0 := bxs0'
  clear bxs0'
  have bxs1' := hkN.cell bxs1 (fun h => h)
  clear bxs1
  have bxs1 := bxs1'
  clear bxs1'
  have bxs2' := hkN.cell bxs2 (fun h => h)
  clear bxs2
  have bxs2 := bxs2'
  clear bxs2'
  have bxs3' := hkN.cell bxs3 (fun h => h)
  clear bxs3
  have bxs3 := bxs3'
  clear bxs3'
  have bxs4' := hkN.cell bxs4 (fun h => h)
  clear bxs4
  have bxs4 := bxs4'
  clear bxs4'
  have lbs' := Nat.lt_of_lt_of_le lbs hN.size
  clear lbs
  have lbs := lbs'
  clear lbs'
  clear hkN
  have hzwqx0 := hN.size
  clear hN
  have bxx00 := hn0
  clear hn0
  have bxx01 := hn1
  clear hn1
  have bxx02 := hn2
  clear hn2
  have bxx03 := hn3
  clear hn3
  have bxx04 := hn4
  clear hn4
  have lbx0 := hnl
  clear hnl
  refine (toWa _ p1 S1 MA1 MB1 E1 _ (H1.out.below hBw_9) hS1 hMA1 hMB1 hE1).mono ?_
  rintro e wx1 ⟨_, rfl, hO, hN⟩
  obtain ⟨Aax1, cax1, Abx1, cbx1, Acx1, ccx1, Adx1, cdx1, rfl⟩ := hO.shape
  have hBw_10 := below_more hBw_9 hN
  clear hBw_9
  have hBwb_10 := below_more hBwb_9 hN
  clear hBwb_9
  have hBwx0_10 := below_more hBwx0_9 hN
  clear hBwx0_9
  have hkN := keep_of_below hN
  have bxa00' := hkN.cell bxa00 (fun h => h)
  clear bxa00
  have bxa00 := bxa00'
  clear bxa00'
  have bxa01' := hkN.cell bxa01 (fun h => h)
  clear bxa01
  have bxa01 := bxa01'
  clear bxa01'
  have bxa02' := hkN.cell bxa02 (fun h => h)
  clear bxa02
  have bxa02 := bxa02'
  clear bxa02'
  have bxa03' := hkN.cell bxa03 (fun h => h)
  clear bxa03
  have bxa03 := bxa03'
  clear bxa03'
  have bxa04' := hkN.cell bxa04 (fun h => h)
  clear bxa04
  have bxa04 := bxa04'
  clear bxa04'
  have lba0' := Nat.lt_of_lt_of_le lba0 hN.size
  clear lba0
  have lba0 := lba0'
  clear lba0'
  have bxa10' := hkN.cell bxa10 (fun h => h)
  clear bxa10
  have bxa10 := bxa10'
  clear bxa10'
  have bxa11' := hkN.cell bxa11 (fun h => h)
  clear bxa11
  have bxa11 := bxa11'
  clear bxa11'
  have bxa12' := hkN.cell bxa12 (fun h => h)
  clear bxa12
  have bxa12 := bxa12'
  clear bxa12'
  have bxa13' := hkN.cell bxa13 (fun h => h)
  clear bxa13
  have bxa13 := bxa13'
  clear bxa13'
  have bxa14' := hkN.cell bxa14 (fun h => h)
  clear bxa14
  have bxa14 := bxa14'
  clear bxa14'
  have lba1' := Nat.lt_of_lt_of_le lba1 hN.size
  clear lba1
  have lba1 := lba1'
  clear lba1'
  have bxs0' := hkN.cell bxs0 (fun h => h)
  clear bxs0
  have bxs0 := bxs0'
  clear bxs0'
  have bxs1' := hkN.cell bxs1 (fun h => h)
  clear bxs1
  have bxs1 := bxs1'
  clear bxs1'
  have bxs2' := hkN.cell bxs2 (fun h => h)
  clear bxs2
  have bxs2 := bxs2'
  clear bxs2'
  have bxs3' := hkN.cell bxs3 (fun h => h)
  clear bxs3
  have bxs3 := bxs3'
  clear bxs3'
  have bxs4' := hkN.cell bxs4 (fun h => h)
  clear bxs4
  have bxs4 := bxs4'
  clear bxs4'
  have lbs' := Nat.lt_of_lt_of_le lbs hN.size
  clear lbs
  have lbs := lbs'
  clear lbs'
  have bxx00' := hkN.cell bxx00 (fun h => h)
  clear bxx00
  have bxx00 := bxx00'
  clear bxx00'
  have bxx01' := hkN.cell bxx01 (fun h => h)
  clear bxx01
  have bxx01 := bxx01'
  clear bxx01'
  have bxx02' := hkN.cell bxx02 (fun h => h)
  clear bxx02
  have bxx02 := bxx02'
  clear bxx02'
  have bxx03' := hkN.cell bxx03 (fun h => h)
  clear bxx03
  have bxx03 := bxx03'
  clear bxx03'
  have bxx04' := hkN.cell bxx04 (fun h => h)
  clear bxx04
  have bxx04 := bxx04'
  clear bxx04'
  have lbx0' := Nat.lt_of_lt_of_le lbx0 hN.size
  clear lbx0
  have lbx0 := lbx0'
  clear lbx0'
  clear hkN
  have hzwx1 := hN.size
  clear hN
  have HRx1 := Lib.hid hO.wv
  have HOx1 := Lib.hid hO
  clear hO
  have hBwx1_11 := Below.refl wx1.heap.size wx1
  go_wp2_with (fail)
  obtain ⟨wqx1, hQ⟩ : ∃ W, wx1.alloc (.cells #[.int .i64 p1, .slice Aax1 S1.length cax1, .slice Abx1 MA1.length cbx1, .slice Acx1 MB1.length ccx1, .slice Adx1 E1.length cdx1] 26) = W := ⟨_, rfl⟩
  rw [hQ]
  have hN : Below wx1.heap.size wx1 wqx1 := by rw [← hQ]; exact (Below.refl _ _).alloc (Nat.le_refl _) _
  obtain ⟨hn0, hn1, hn2, hn3, hn4⟩ := box5 wx1 (.int .i64 p1) (.slice Aax1 S1.length cax1) (.slice Abx1 MA1.length cbx1) (.slice Acx1 MB1.length ccx1) (.slice Adx1 E1.length cdx1) 26
  rw [hQ] at hn0 hn1 hn2 hn3 hn4
  have hnl : wx1.heap.size < wqx1.heap.size := cell_lt hn0
  have lcx1 := hnl
  clear hQ
  have hBw_12 := below_more hBw_10 hN
  clear hBw_10
  have hBwb_12 := below_more hBwb_10 hN
  clear hBwb_10
  have hBwx0_12 := below_more hBwx0_10 hN
  clear hBwx0_10
  have hBwx1_12 := below_more hBwx1_11 hN
  clear hBwx1_11
  have hkN := keep_of_below hN
  have bxa00' := hkN.cell bxa00 (fun h => h)
  clear bxa00
  have bxa00 := bxa00'
  clear bxa00'
  have bxa01' := hkN.cell bxa01 (fun h => h)
  clear bxa01
  have bxa01 := bxa01'
  clear bxa01'
  have bxa02' := hkN.cell bxa02 (fun h => h)
  clear bxa02
  have bxa02 := bxa02'
  clear bxa02'
  have bxa03' := hkN.cell bxa03 (fun h => h)
  clear bxa03
  have bxa03 := bxa03'
  clear bxa03'
  have bxa04' := hkN.cell bxa04 (fun h => h)
  clear bxa04
  have bxa04 := bxa04'
  clear bxa04'
  have lba0' := Nat.lt_of_lt_of_le lba0 hN.size
  clear lba0
  have lba0 := lba0'
  clear lba0'
  have bxa10' := hkN.cell bxa10 (fun h => h)
  clear bxa10
  have bxa10 := bxa10'
  clear bxa10'
  have bxa11' := hkN.cell bxa11 (fun h => h)
  clear bxa11
  have bxa11 := bxa11'
  clear bxa11'
  have bxa12' := hkN.cell bxa12 (fun h => h)
  clear bxa12
  have bxa12 := bxa12'
  clear bxa12'
  have bxa13' := hkN.cell bxa13 (fun h => h)
  clear bxa13
  have bxa13 := bxa13'
  clear bxa13'
  have bxa14' := hkN.cell bxa14 (fun h => h)
  clear bxa14
  have bxa14 := bxa14'
  clear bxa14'
  have lba1' := Nat.lt_of_lt_of_le lba1 hN.size
  clear lba1
  have lba1 := lba1'
  clear lba1'
  have bxs0' := hkN.cell bxs0 (fun h => h)
  clear bxs0
  have bxs0 := bxs0'
  clear bxs0'
  have bxs1' := hkN.cell bxs1 (fun h => h)
  clear bxs1
  have bxs1 := bxs1'
  clear bxs1'
  have bxs2' := hkN.cell bxs2 (fun h => h)
  clear bxs2
  have bxs2 := bxs2'
  clear bxs2'
  have bxs3' := hkN.cell bxs3 (fun h => h)
  clear bxs3
  have bxs3 := bxs3'
  clear bxs3'
  have bxs4' := hkN.cell bxs4 (fun h => h)
  clear bxs4
  have bxs4 := bxs4'
  clear bxs4'
  have lbs' := Nat.lt_of_lt_of_le lbs hN.size
  clear lbs
  have lbs := lbs'
  clear lbs'
  have bxx00' := hkN.cell bxx00 (fun h => h)
  clear bxx00
  have bxx00 := bxx00'
  clear bxx00'
  have bxx01' := hkN.cell bxx01 (fun h => h)
  clear bxx01
  have bxx01 := bxx01'
  clear bxx01'
  have bxx02' := hkN.cell bxx02 (fun h => h)
  clear bxx02
  have bxx02 := bxx02'
  clear bxx02'
  have bxx03' := hkN.cell bxx03 (fun h => h)
  clear bxx03
  have bxx03 := bxx03'
  clear bxx03'
  have bxx04' := hkN.cell bxx04 (fun h => h)
  clear bxx04
  have bxx04 := bxx04'
  clear bxx04'
  have lbx0' := Nat.lt_of_lt_of_le lbx0 hN.size
  clear lbx0
  have lbx0 := lbx0'
  clear lbx0'
  clear hkN
  have hzwqx1 := hN.size
  clear hN
  have bxx10 := hn0
  clear hn0
  have bxx11 := hn1
  clear hn1
  have bxx12 := hn2
  clear hn2
  have bxx13 := hn3
  clear hn3
  have bxx14 := hn4
  clear hn4
  have lbx1 := hnl
  clear hnl
  refine (implWaTimes _ p0 S0 MA0 MB0 E0 _ p1 S1 MA1 MB1 E1 _ (HRx0.out.below hBwx0_12) (HRx1.out.below hBwx1_12)).mono ?_
  rw [HRV.out]
  unfold MadeWB
  rw [HRO.out]
  rintro e wd ⟨_, rfl, hO, hN⟩
  rw [show waZ = (0, [], [], [], []) from rfl] at hO
  rw [HRP.out, HRS.out, HRA.out, HRB.out, HRE.out] at hO
  obtain ⟨Aag, cag, Abg, cbg, Acg, ccg, Adg, cdg, rfl⟩ := hO.shape
  have hBw_13 := below_more hBw_12 hN
  clear hBw_12
  have hBwb_13 := below_more hBwb_12 hN
  clear hBwb_12
  have hBwx0_13 := below_more hBwx0_12 hN
  clear hBwx0_12
  have hBwx1_13 := below_more hBwx1_12 hN
  clear hBwx1_12
  have hkN := keep_of_below hN
  have bxa00' := hkN.cell bxa00 (fun h => h)
  clear bxa00
  have bxa00 := bxa00'
  clear bxa00'
  have bxa01' := hkN.cell bxa01 (fun h => h)
  clear bxa01
  have bxa01 := bxa01'
  clear bxa01'
  have bxa02' := hkN.cell bxa02 (fun h => h)
  clear bxa02
  have bxa02 := bxa02'
  clear bxa02'
  have bxa03' := hkN.cell bxa03 (fun h => h)
  clear bxa03
  have bxa03 := bxa03'
  clear bxa03'
  have bxa04' := hkN.cell bxa04 (fun h => h)
  clear bxa04
  have bxa04 := bxa04'
  clear bxa04'
  have lba0' := Nat.lt_of_lt_of_le lba0 hN.size
  clear lba0
  have lba0 := lba0'
  clear lba0'
  have bxa10' := hkN.cell bxa10 (fun h => h)
  clear bxa10
  have bxa10 := bxa10'
  clear bxa10'
  have bxa11' := hkN.cell bxa11 (fun h => h)
  clear bxa11
  have bxa11 := bxa11'
  clear bxa11'
  have bxa12' := hkN.cell bxa12 (fun h => h)
  clear bxa12
  have bxa12 := bxa12'
  clear bxa12'
  have bxa13' := hkN.cell bxa13 (fun h => h)
  clear bxa13
  have bxa13 := bxa13'
  clear bxa13'
  have bxa14' := hkN.cell bxa14 (fun h => h)
  clear bxa14
  have bxa14 := bxa14'
  clear bxa14'
  have lba1' := Nat.lt_of_lt_of_le lba1 hN.size
  clear lba1
  have lba1 := lba1'
  clear lba1'
  have bxs0' := hkN.cell bxs0 (fun h => h)
  clear bxs0
  have bxs0 := bxs0'
  clear bxs0'
  have bxs1' := hkN.cell bxs1 (fun h => h)
  clear bxs1
  have bxs1 := bxs1'
  clear bxs1'
  have bxs2' := hkN.cell bxs2 (fun h => h)
  clear bxs2
  have bxs2 := bxs2'
  clear bxs2'
  have bxs3' := hkN.cell bxs3 (fun h => h)
  clear bxs3
  have bxs3 := bxs3'
  clear bxs3'
  have bxs4' := hkN.cell bxs4 (fun h => h)
  clear bxs4
  have bxs4 := bxs4'
  clear bxs4'
  have lbs' := Nat.lt_of_lt_of_le lbs hN.size
  clear lbs
  have lbs := lbs'
  clear lbs'
  have bxx00' := hkN.cell bxx00 (fun h => h)
  clear bxx00
  have bxx00 := bxx00'
  clear bxx00'
  have bxx01' := hkN.cell bxx01 (fun h => h)
  clear bxx01
  have bxx01 := bxx01'
  clear bxx01'
  have bxx02' := hkN.cell bxx02 (fun h => h)
  clear bxx02
  have bxx02 := bxx02'
  clear bxx02'
  have bxx03' := hkN.cell bxx03 (fun h => h)
  clear bxx03
  have bxx03 := bxx03'
  clear bxx03'
  have bxx04' := hkN.cell bxx04 (fun h => h)
  clear bxx04
  have bxx04 := bxx04'
  clear bxx04'
  have lbx0' := Nat.lt_of_lt_of_le lbx0 hN.size
  clear lbx0
  have lbx0 := lbx0'
  clear lbx0'
  have bxx10' := hkN.cell bxx10 (fun h => h)
  clear bxx10
  have bxx10 := bxx10'
  clear bxx10'
  have bxx11' := hkN.cell bxx11 (fun h => h)
  clear bxx11
  have bxx11 := bxx11'
  clear bxx11'
  have bxx12' := hkN.cell bxx12 (fun h => h)
  clear bxx12
  have bxx12 := bxx12'
  clear bxx12'
  have bxx13' := hkN.cell bxx13 (fun h => h)
  clear bxx13
  have bxx13 := bxx13'
  clear bxx13'
  have bxx14' := hkN.cell bxx14 (fun h => h)
  clear bxx14
  have bxx14 := bxx14'
  clear bxx14'
  have lbx1' := Nat.lt_of_lt_of_le lbx1 hN.size
  clear lbx1
  have lbx1 := lbx1'
  clear lbx1'
  clear hkN
  have hzwd := hN.size
  clear hN
  have HRg := Lib.hid hO.wv
  have HOg := Lib.hid hO
  clear hO
  have hBwd_14 := Below.refl wd.heap.size wd
  go_wp2_with (fail)
  obtain ⟨wqg, hQ⟩ : ∃ W, wd.alloc (.cells #[.int .i64 RP, .slice Aag RS.length cag, .slice Abg RA.length cbg, .slice Acg RB.length ccg, .slice Adg RE.length cdg] 26) = W := ⟨_, rfl⟩
  rw [hQ]
  have hN : Below wd.heap.size wd wqg := by rw [← hQ]; exact (Below.refl _ _).alloc (Nat.le_refl _) _
  obtain ⟨hn0, hn1, hn2, hn3, hn4⟩ := box5 wd (.int .i64 RP) (.slice Aag RS.length cag) (.slice Abg RA.length cbg) (.slice Acg RB.length ccg) (.slice Adg RE.length cdg) 26
  rw [hQ] at hn0 hn1 hn2 hn3 hn4
  have hnl : wd.heap.size < wqg.heap.size := cell_lt hn0
  have lcg := hnl
  clear hQ
  have hBw_15 := below_more hBw_13 hN
  clear hBw_13
  have hBwb_15 := below_more hBwb_13 hN
  clear hBwb_13
  have hBwx0_15 := below_more hBwx0_13 hN
  clear hBwx0_13
  have hBwx1_15 := below_more hBwx1_13 hN
  clear hBwx1_13
  have hBwd_15 := below_more hBwd_14 hN
  clear hBwd_14
  have hkN := keep_of_below hN
  have bxa00' := hkN.cell bxa00 (fun h => h)
  clear bxa00
  have bxa00 := bxa00'
  clear bxa00'
  have bxa01' := hkN.cell bxa01 (fun h => h)
  clear bxa01
  have bxa01 := bxa01'
  clear bxa01'
  have bxa02' := hkN.cell bxa02 (fun h => h)
  clear bxa02
  have bxa02 := bxa02'
  clear bxa02'
  have bxa03' := hkN.cell bxa03 (fun h => h)
  clear bxa03
  have bxa03 := bxa03'
  clear bxa03'
  have bxa04' := hkN.cell bxa04 (fun h => h)
  clear bxa04
  have bxa04 := bxa04'
  clear bxa04'
  have lba0' := Nat.lt_of_lt_of_le lba0 hN.size
  clear lba0
  have lba0 := lba0'
  clear lba0'
  have bxa10' := hkN.cell bxa10 (fun h => h)
  clear bxa10
  have bxa10 := bxa10'
  clear bxa10'
  have bxa11' := hkN.cell bxa11 (fun h => h)
  clear bxa11
  have bxa11 := bxa11'
  clear bxa11'
  have bxa12' := hkN.cell bxa12 (fun h => h)
  clear bxa12
  have bxa12 := bxa12'
  clear bxa12'
  have bxa13' := hkN.cell bxa13 (fun h => h)
  clear bxa13
  have bxa13 := bxa13'
  clear bxa13'
  have bxa14' := hkN.cell bxa14 (fun h => h)
  clear bxa14
  have bxa14 := bxa14'
  clear bxa14'
  have lba1' := Nat.lt_of_lt_of_le lba1 hN.size
  clear lba1
  have lba1 := lba1'
  clear lba1'
  have bxs0' := hkN.cell bxs0 (fun h => h)
  clear bxs0
  have bxs0 := bxs0'
  clear bxs0'
  have bxs1' := hkN.cell bxs1 (fun h => h)
  clear bxs1
  have bxs1 := bxs1'
  clear bxs1'
  have bxs2' := hkN.cell bxs2 (fun h => h)
  clear bxs2
  have bxs2 := bxs2'
  clear bxs2'
  have bxs3' := hkN.cell bxs3 (fun h => h)
  clear bxs3
  have bxs3 := bxs3'
  clear bxs3'
  have bxs4' := hkN.cell bxs4 (fun h => h)
  clear bxs4
  have bxs4 := bxs4'
  clear bxs4'
  have lbs' := Nat.lt_of_lt_of_le lbs hN.size
  clear lbs
  have lbs := lbs'
  clear lbs'
  have bxx00' := hkN.cell bxx00 (fun h => h)
  clear bxx00
  have bxx00 := bxx00'
  clear bxx00'
  have bxx01' := hkN.cell bxx01 (fun h => h)
  clear bxx01
  have bxx01 := bxx01'
  clear bxx01'
  have bxx02' := hkN.cell bxx02 (fun h => h)
  clear bxx02
  have bxx02 := bxx02'
  clear bxx02'
  have bxx03' := hkN.cell bxx03 (fun h => h)
  clear bxx03
  have bxx03 := bxx03'
  clear bxx03'
  have bxx04' := hkN.cell bxx04 (fun h => h)
  clear bxx04
  have bxx04 := bxx04'
  clear bxx04'
  have lbx0' := Nat.lt_of_lt_of_le lbx0 hN.size
  clear lbx0
  have lbx0 := lbx0'
  clear lbx0'
  have bxx10' := hkN.cell bxx10 (fun h => h)
  clear bxx10
  have bxx10 := bxx10'
  clear bxx10'
  have bxx11' := hkN.cell bxx11 (fun h => h)
  clear bxx11
  have bxx11 := bxx11'
  clear bxx11'
  have bxx12' := hkN.cell bxx12 (fun h => h)
  clear bxx12
  have bxx12 := bxx12'
  clear bxx12'
  have bxx13' := hkN.cell bxx13 (fun h => h)
  clear bxx13
  have bxx13 := bxx13'
  clear bxx13'
  have bxx14' := hkN.cell bxx14 (fun h => h)
  clear bxx14
  have bxx14 := bxx14'
  clear bxx14'
  have lbx1' := Nat.lt_of_lt_of_le lbx1 hN.size
  clear lbx1
  have lbx1 := lbx1'
  clear lbx1'
  clear hkN
  have hzwqg := hN.size
  clear hN
  have bxg0 := hn0
  clear hn0
  have bxg1 := hn1
  clear hn1
  have bxg2 := hn2
  clear hn2
  have bxg3 := hn3
  clear hn3
  have bxg4 := hn4
  clear hn4
  have lbg := hnl
  clear hnl
  go_wp2_with (fail)
  refine (eqWa _ RP RS RA RB RE _ RP RS RA RB RE _ (HRg.out.below hBwd_15) (HRs.out.below hBwb_15)).mono ?_
  rintro e we16 ⟨rfl, hN⟩
  rw [decide_eq_true (show RP = RP ∧ RS = RS ∧ RA = RA ∧ RB = RB ∧ RE = RE from ⟨rfl, rfl, rfl, rfl, rfl⟩)]
  have hBw_17 := below_more hBw_15 hN
  clear hBw_15
  have hBwb_17 := below_more hBwb_15 hN
  clear hBwb_15
  have hBwx0_17 := below_more hBwx0_15 hN
  clear hBwx0_15
  have hBwx1_17 := below_more hBwx1_15 hN
  clear hBwx1_15
  have hBwd_17 := below_more hBwd_15 hN
  clear hBwd_15
  have hkN := keep_of_below hN
  have bxa00' := hkN.cell bxa00 (fun h => h)
  clear bxa00
  have bxa00 := bxa00'
  clear bxa00'
  have bxa01' := hkN.cell bxa01 (fun h => h)
  clear bxa01
  have bxa01 := bxa01'
  clear bxa01'
  have bxa02' := hkN.cell bxa02 (fun h => h)
  clear bxa02
  have bxa02 := bxa02'
  clear bxa02'
  have bxa03' := hkN.cell bxa03 (fun h => h)
  clear bxa03
  have bxa03 := bxa03'
  clear bxa03'
  have bxa04' := hkN.cell bxa04 (fun h => h)
  clear bxa04
  have bxa04 := bxa04'
  clear bxa04'
  have lba0' := Nat.lt_of_lt_of_le lba0 hN.size
  clear lba0
  have lba0 := lba0'
  clear lba0'
  have bxa10' := hkN.cell bxa10 (fun h => h)
  clear bxa10
  have bxa10 := bxa10'
  clear bxa10'
  have bxa11' := hkN.cell bxa11 (fun h => h)
  clear bxa11
  have bxa11 := bxa11'
  clear bxa11'
  have bxa12' := hkN.cell bxa12 (fun h => h)
  clear bxa12
  have bxa12 := bxa12'
  clear bxa12'
  have bxa13' := hkN.cell bxa13 (fun h => h)
  clear bxa13
  have bxa13 := bxa13'
  clear bxa13'
  have bxa14' := hkN.cell bxa14 (fun h => h)
  clear bxa14
  have bxa14 := bxa14'
  clear bxa14'
  have lba1' := Nat.lt_of_lt_of_le lba1 hN.size
  clear lba1
  have lba1 := lba1'
  clear lba1'
  have bxs0' := hkN.cell bxs0 (fun h => h)
  clear bxs0
  have bxs0 := bxs0'
  clear bxs0'
  have bxs1' := hkN.cell bxs1 (fun h => h)
  clear bxs1
  have bxs1 := bxs1'
  clear bxs1'
  have bxs2' := hkN.cell bxs2 (fun h => h)
  clear bxs2
  have bxs2 := bxs2'
  clear bxs2'
  have bxs3' := hkN.cell bxs3 (fun h => h)
  clear bxs3
  have bxs3 := bxs3'
  clear bxs3'
  have bxs4' := hkN.cell bxs4 (fun h => h)
  clear bxs4
  have bxs4 := bxs4'
  clear bxs4'
  have lbs' := Nat.lt_of_lt_of_le lbs hN.size
  clear lbs
  have lbs := lbs'
  clear lbs'
  have bxx00' := hkN.cell bxx00 (fun h => h)
  clear bxx00
  have bxx00 := bxx00'
  clear bxx00'
  have bxx01' := hkN.cell bxx01 (fun h => h)
  clear bxx01
  have bxx01 := bxx01'
  clear bxx01'
  have bxx02' := hkN.cell bxx02 (fun h => h)
  clear bxx02
  have bxx02 := bxx02'
  clear bxx02'
  have bxx03' := hkN.cell bxx03 (fun h => h)
  clear bxx03
  have bxx03 := bxx03'
  clear bxx03'
  have bxx04' := hkN.cell bxx04 (fun h => h)
  clear bxx04
  have bxx04 := bxx04'
  clear bxx04'
  have lbx0' := Nat.lt_of_lt_of_le lbx0 hN.size
  clear lbx0
  have lbx0 := lbx0'
  clear lbx0'
  have bxx10' := hkN.cell bxx10 (fun h => h)
  clear bxx10
  have bxx10 := bxx10'
  clear bxx10'
  have bxx11' := hkN.cell bxx11 (fun h => h)
  clear bxx11
  have bxx11 := bxx11'
  clear bxx11'
  have bxx12' := hkN.cell bxx12 (fun h => h)
  clear bxx12
  have bxx12 := bxx12'
  clear bxx12'
  have bxx13' := hkN.cell bxx13 (fun h => h)
  clear bxx13
  have bxx13 := bxx13'
  clear bxx13'
  have bxx14' := hkN.cell bxx14 (fun h => h)
  clear bxx14
  have bxx14 := bxx14'
  clear bxx14'
  have lbx1' := Nat.lt_of_lt_of_le lbx1 hN.size
  clear lbx1
  have lbx1 := lbx1'
  clear lbx1'
  have bxg0' := hkN.cell bxg0 (fun h => h)
  clear bxg0
  have bxg0 := bxg0'
  clear bxg0'
  have bxg1' := hkN.cell bxg1 (fun h => h)
  clear bxg1
  have bxg1 := bxg1'
  clear bxg1'
  have bxg2' := hkN.cell bxg2 (fun h => h)
  clear bxg2
  have bxg2 := bxg2'
  clear bxg2'
  have bxg3' := hkN.cell bxg3 (fun h => h)
  clear bxg3
  have bxg3 := bxg3'
  clear bxg3'
  have bxg4' := hkN.cell bxg4 (fun h => h)
  clear bxg4
  have bxg4 := bxg4'
  clear bxg4'
  have lbg' := Nat.lt_of_lt_of_le lbg hN.size
  clear lbg
  have lbg := lbg'
  clear lbg'
  clear hkN
  have hzwe16 := hN.size
  clear hN
  go_wp2_with (fail)
  have cdx00 : we16.drew.cell? ⟨wx0.heap.size, 0, none⟩ = some (.int .i64 p0) := bxx00
  have cdx01 : we16.drew.cell? ⟨wx0.heap.size, 1, none⟩ = some (.slice Aax0 S0.length cax0) := bxx01
  have cdx02 : we16.drew.cell? ⟨wx0.heap.size, 2, none⟩ = some (.slice Abx0 MA0.length cbx0) := bxx02
  have cdx03 : we16.drew.cell? ⟨wx0.heap.size, 3, none⟩ = some (.slice Acx0 MB0.length ccx0) := bxx03
  have cdx04 : we16.drew.cell? ⟨wx0.heap.size, 4, none⟩ = some (.slice Adx0 E0.length cdx0) := bxx04
  have cda00 : we16.drew.cell? ⟨w.heap.size, 0, none⟩ = some (.int .i64 p0) := bxa00
  have cda01 : we16.drew.cell? ⟨w.heap.size, 1, none⟩ = some (.slice Aa0 na0 ca0) := bxa01
  have cda02 : we16.drew.cell? ⟨w.heap.size, 2, none⟩ = some (.slice Ab0 nb0 cb0) := bxa02
  have cda03 : we16.drew.cell? ⟨w.heap.size, 3, none⟩ = some (.slice Ac0 nc0 cc0) := bxa03
  have cda04 : we16.drew.cell? ⟨w.heap.size, 4, none⟩ = some (.slice Ad0 nd0 cd0) := bxa04
  have ZA : we16.cell? ⟨wx0.heap.size, 0, none⟩ = some (.int .i64 p0) ∧ we16.cell? ⟨wx0.heap.size, 1, none⟩ = some (.slice Aax0 S0.length cax0) ∧ we16.cell? ⟨wx0.heap.size, 2, none⟩ = some (.slice Abx0 MA0.length cbx0) ∧ we16.cell? ⟨wx0.heap.size, 3, none⟩ = some (.slice Acx0 MB0.length ccx0) ∧ we16.cell? ⟨wx0.heap.size, 4, none⟩ = some (.slice Adx0 E0.length cdx0) ∧ we16.cell? ⟨w.heap.size, 0, none⟩ = some (.int .i64 p0) ∧ we16.cell? ⟨w.heap.size, 1, none⟩ = some (.slice Aa0 na0 ca0) ∧ we16.cell? ⟨w.heap.size, 2, none⟩ = some (.slice Ab0 nb0 cb0) ∧ we16.cell? ⟨w.heap.size, 3, none⟩ = some (.slice Ac0 nc0 cc0) ∧ we16.cell? ⟨w.heap.size, 4, none⟩ = some (.slice Ad0 nd0 cd0) := ⟨bxx00, bxx01, bxx02, bxx03, bxx04, bxa00, bxa01, bxa02, bxa03, bxa04⟩
  have ZB : we16.drew.cell? ⟨wx0.heap.size, 0, none⟩ = some (.int .i64 p0) ∧ we16.drew.cell? ⟨wx0.heap.size, 1, none⟩ = some (.slice Aax0 S0.length cax0) ∧ we16.drew.cell? ⟨wx0.heap.size, 2, none⟩ = some (.slice Abx0 MA0.length cbx0) ∧ we16.drew.cell? ⟨wx0.heap.size, 3, none⟩ = some (.slice Acx0 MB0.length ccx0) ∧ we16.drew.cell? ⟨wx0.heap.size, 4, none⟩ = some (.slice Adx0 E0.length cdx0) ∧ we16.drew.cell? ⟨w.heap.size, 0, none⟩ = some (.int .i64 p0) ∧ we16.drew.cell? ⟨w.heap.size, 1, none⟩ = some (.slice Aa0 na0 ca0) ∧ we16.drew.cell? ⟨w.heap.size, 2, none⟩ = some (.slice Ab0 nb0 cb0) ∧ we16.drew.cell? ⟨w.heap.size, 3, none⟩ = some (.slice Ac0 nc0 cc0) ∧ we16.drew.cell? ⟨w.heap.size, 4, none⟩ = some (.slice Ad0 nd0 cd0) := ⟨cdx00, cdx01, cdx02, cdx03, cdx04, cda00, cda01, cda02, cda03, cda04⟩
  have hdr : Below we16.heap.size we16 we16.drew := below_drawn (Below.refl _ _) ⟨1, rfl⟩
  have HBd := Lib.hid (below_more hBw_17 hdr)
  have HRxd := Lib.hid ((HRx0.out.below hBwx0_17).below hdr)
  have HDR := Lib.hid hdr
  clear hdr
  go_region_held3 (fun w' => w'.cell? ⟨wx0.heap.size, 0, none⟩ = some (.int .i64 p0) ∧ w'.cell? ⟨wx0.heap.size, 1, none⟩ = some (.slice Aax0 S0.length cax0) ∧ w'.cell? ⟨wx0.heap.size, 2, none⟩ = some (.slice Abx0 MA0.length cbx0) ∧ w'.cell? ⟨wx0.heap.size, 3, none⟩ = some (.slice Acx0 MB0.length ccx0) ∧ w'.cell? ⟨wx0.heap.size, 4, none⟩ = some (.slice Adx0 E0.length cdx0) ∧ w'.cell? ⟨w.heap.size, 0, none⟩ = some (.int .i64 p0) ∧ w'.cell? ⟨w.heap.size, 1, none⟩ = some (.slice Aa0 na0 ca0) ∧ w'.cell? ⟨w.heap.size, 2, none⟩ = some (.slice Ab0 nb0 cb0) ∧ w'.cell? ⟨w.heap.size, 3, none⟩ = some (.slice Ac0 nc0 cc0) ∧ w'.cell? ⟨w.heap.size, 4, none⟩ = some (.slice Ad0 nd0 cd0)) (first | assumption | exact ZD | exact ZC | exact ZB | exact ZA | go_keep) (first | (go_at_call 21; refine (toWa _ p0 S0 MA0 MB0 E0 _ (H0.out.below HBd.out) hS0 hMA0 hMB0 hE0).mono ?_; rintro e wf0 ⟨_, rfl, hO, hN⟩; obtain ⟨Aaf0, caf0, Abf0, cbf0, Acf0, ccf0, Adf0, cdf0, rfl⟩ := hO.shape; have HRf0 := Lib.hid hO.wv; have HRxe := Lib.hid (HRxd.out.below hN); have cex00 := (keep_of_below hN).cell cdx00 (fun h => h); have cex01 := (keep_of_below hN).cell cdx01 (fun h => h); have cex02 := (keep_of_below hN).cell cdx02 (fun h => h); have cex03 := (keep_of_below hN).cell cdx03 (fun h => h); have cex04 := (keep_of_below hN).cell cdx04 (fun h => h); have cea00 := (keep_of_below hN).cell cda00 (fun h => h); have cea01 := (keep_of_below hN).cell cda01 (fun h => h); have cea02 := (keep_of_below hN).cell cda02 (fun h => h); have cea03 := (keep_of_below hN).cell cda03 (fun h => h); have cea04 := (keep_of_below hN).cell cda04 (fun h => h); have ZC := And.intro cex00 (And.intro cex01 (And.intro cex02 (And.intro cex03 (And.intro cex04 (And.intro cea00 (And.intro cea01 (And.intro cea02 (And.intro cea03 cea04)))))))); have HNf := Lib.hid hN; clear hO hN) | (go_at_call 22; refine (eqWa _ p0 S0 MA0 MB0 E0 _ p0 S0 MA0 MB0 E0 _ HRxe.out HRf0.out).mono ?_; rintro e we18 ⟨rfl, hN⟩; rw [decide_eq_true (show p0 = p0 ∧ S0 = S0 ∧ MA0 = MA0 ∧ MB0 = MB0 ∧ E0 = E0 from ⟨rfl, rfl, rfl, rfl, rfl⟩)]; have cgx00 := (keep_of_below hN).cell cex00 (fun h => h); have cgx01 := (keep_of_below hN).cell cex01 (fun h => h); have cgx02 := (keep_of_below hN).cell cex02 (fun h => h); have cgx03 := (keep_of_below hN).cell cex03 (fun h => h); have cgx04 := (keep_of_below hN).cell cex04 (fun h => h); have cga00 := (keep_of_below hN).cell cea00 (fun h => h); have cga01 := (keep_of_below hN).cell cea01 (fun h => h); have cga02 := (keep_of_below hN).cell cea02 (fun h => h); have cga03 := (keep_of_below hN).cell cea03 (fun h => h); have cga04 := (keep_of_below hN).cell cea04 (fun h => h); have ZD := And.intro cgx00 (And.intro cgx01 (And.intro cgx02 (And.intro cgx03 (And.intro cgx04 (And.intro cga00 (And.intro cga01 (And.intro cga02 (And.intro cga03 cga04)))))))); have HNe := Lib.hid hN; clear hN))
  have hN : Below we16.heap.size we16 we18 := below_more (below_more HDR.out HNf.out) HNe.out
  clear ZA ZB ZC ZD HBd HRxd HRxe HDR HNf HNe HRf0
  clear cdx00 cdx01 cdx02 cdx03 cdx04 cda00 cda01 cda02 cda03 cda04 cex00 cex01 cex02 cex03 cex04 cea00 cea01 cea02 cea03 cea04 cgx00 cgx01 cgx02 cgx03 cgx04 cga00 cga01 cga02 cga03 cga04
  have hBw_19 := below_more hBw_17 hN
  clear hBw_17
  have hBwb_19 := below_more hBwb_17 hN
  clear hBwb_17
  have hBwx0_19 := below_more hBwx0_17 hN
  clear hBwx0_17
  have hBwx1_19 := below_more hBwx1_17 hN
  clear hBwx1_17
  have hBwd_19 := below_more hBwd_17 hN
  clear hBwd_17
  have hkN := keep_of_below hN
  have bxa00' := hkN.cell bxa00 (fun h => h)
  clear bxa00
  have bxa00 := bxa00'
  clear bxa00'
  have bxa01' := hkN.cell bxa01 (fun h => h)
  clear bxa01
  have bxa01 := bxa01'
  clear bxa01'
  have bxa02' := hkN.cell bxa02 (fun h => h)
  clear bxa02
  have bxa02 := bxa02'
  clear bxa02'
  have bxa03' := hkN.cell bxa03 (fun h => h)
  clear bxa03
  have bxa03 := bxa03'
  clear bxa03'
  have bxa04' := hkN.cell bxa04 (fun h => h)
  clear bxa04
  have bxa04 := bxa04'
  clear bxa04'
  have lba0' := Nat.lt_of_lt_of_le lba0 hN.size
  clear lba0
  have lba0 := lba0'
  clear lba0'
  have bxa10' := hkN.cell bxa10 (fun h => h)
  clear bxa10
  have bxa10 := bxa10'
  clear bxa10'
  have bxa11' := hkN.cell bxa11 (fun h => h)
  clear bxa11
  have bxa11 := bxa11'
  clear bxa11'
  have bxa12' := hkN.cell bxa12 (fun h => h)
  clear bxa12
  have bxa12 := bxa12'
  clear bxa12'
  have bxa13' := hkN.cell bxa13 (fun h => h)
  clear bxa13
  have bxa13 := bxa13'
  clear bxa13'
  have bxa14' := hkN.cell bxa14 (fun h => h)
  clear bxa14
  have bxa14 := bxa14'
  clear bxa14'
  have lba1' := Nat.lt_of_lt_of_le lba1 hN.size
  clear lba1
  have lba1 := lba1'
  clear lba1'
  have bxs0' := hkN.cell bxs0 (fun h => h)
  clear bxs0
  have bxs0 := bxs0'
  clear bxs0'
  have bxs1' := hkN.cell bxs1 (fun h => h)
  clear bxs1
  have bxs1 := bxs1'
  clear bxs1'
  have bxs2' := hkN.cell bxs2 (fun h => h)
  clear bxs2
  have bxs2 := bxs2'
  clear bxs2'
  have bxs3' := hkN.cell bxs3 (fun h => h)
  clear bxs3
  have bxs3 := bxs3'
  clear bxs3'
  have bxs4' := hkN.cell bxs4 (fun h => h)
  clear bxs4
  have bxs4 := bxs4'
  clear bxs4'
  have lbs' := Nat.lt_of_lt_of_le lbs hN.size
  clear lbs
  have lbs := lbs'
  clear lbs'
  have bxx00' := hkN.cell bxx00 (fun h => h)
  clear bxx00
  have bxx00 := bxx00'
  clear bxx00'
  have bxx01' := hkN.cell bxx01 (fun h => h)
  clear bxx01
  have bxx01 := bxx01'
  clear bxx01'
  have bxx02' := hkN.cell bxx02 (fun h => h)
  clear bxx02
  have bxx02 := bxx02'
  clear bxx02'
  have bxx03' := hkN.cell bxx03 (fun h => h)
  clear bxx03
  have bxx03 := bxx03'
  clear bxx03'
  have bxx04' := hkN.cell bxx04 (fun h => h)
  clear bxx04
  have bxx04 := bxx04'
  clear bxx04'
  have lbx0' := Nat.lt_of_lt_of_le lbx0 hN.size
  clear lbx0
  have lbx0 := lbx0'
  clear lbx0'
  have bxx10' := hkN.cell bxx10 (fun h => h)
  clear bxx10
  have bxx10 := bxx10'
  clear bxx10'
  have bxx11' := hkN.cell bxx11 (fun h => h)
  clear bxx11
  have bxx11 := bxx11'
  clear bxx11'
  have bxx12' := hkN.cell bxx12 (fun h => h)
  clear bxx12
  have bxx12 := bxx12'
  clear bxx12'
  have bxx13' := hkN.cell bxx13 (fun h => h)
  clear bxx13
  have bxx13 := bxx13'
  clear bxx13'
  have bxx14' := hkN.cell bxx14 (fun h => h)
  clear bxx14
  have bxx14 := bxx14'
  clear bxx14'
  have lbx1' := Nat.lt_of_lt_of_le lbx1 hN.size
  clear lbx1
  have lbx1 := lbx1'
  clear lbx1'
  have bxg0' := hkN.cell bxg0 (fun h => h)
  clear bxg0
  have bxg0 := bxg0'
  clear bxg0'
  have bxg1' := hkN.cell bxg1 (fun h => h)
  clear bxg1
  have bxg1 := bxg1'
  clear bxg1'
  have bxg2' := hkN.cell bxg2 (fun h => h)
  clear bxg2
  have bxg2 := bxg2'
  clear bxg2'
  have bxg3' := hkN.cell bxg3 (fun h => h)
  clear bxg3
  have bxg3 := bxg3'
  clear bxg3'
  have bxg4' := hkN.cell bxg4 (fun h => h)
  clear bxg4
  have bxg4 := bxg4'
  clear bxg4'
  have lbg' := Nat.lt_of_lt_of_le lbg hN.size
  clear lbg
  have lbg := lbg'
  clear lbg'
  clear hkN
  have hzwe18 := hN.size
  clear hN
  go_wp2_with (fail)
  have cdx10 : we18.drew.cell? ⟨wx1.heap.size, 0, none⟩ = some (.int .i64 p1) := bxx10
  have cdx11 : we18.drew.cell? ⟨wx1.heap.size, 1, none⟩ = some (.slice Aax1 S1.length cax1) := bxx11
  have cdx12 : we18.drew.cell? ⟨wx1.heap.size, 2, none⟩ = some (.slice Abx1 MA1.length cbx1) := bxx12
  have cdx13 : we18.drew.cell? ⟨wx1.heap.size, 3, none⟩ = some (.slice Acx1 MB1.length ccx1) := bxx13
  have cdx14 : we18.drew.cell? ⟨wx1.heap.size, 4, none⟩ = some (.slice Adx1 E1.length cdx1) := bxx14
  have cda10 : we18.drew.cell? ⟨w.heap.size + 1, 0, none⟩ = some (.int .i64 p1) := bxa10
  have cda11 : we18.drew.cell? ⟨w.heap.size + 1, 1, none⟩ = some (.slice Aa1 na1 ca1) := bxa11
  have cda12 : we18.drew.cell? ⟨w.heap.size + 1, 2, none⟩ = some (.slice Ab1 nb1 cb1) := bxa12
  have cda13 : we18.drew.cell? ⟨w.heap.size + 1, 3, none⟩ = some (.slice Ac1 nc1 cc1) := bxa13
  have cda14 : we18.drew.cell? ⟨w.heap.size + 1, 4, none⟩ = some (.slice Ad1 nd1 cd1) := bxa14
  have ZA : we18.cell? ⟨wx1.heap.size, 0, none⟩ = some (.int .i64 p1) ∧ we18.cell? ⟨wx1.heap.size, 1, none⟩ = some (.slice Aax1 S1.length cax1) ∧ we18.cell? ⟨wx1.heap.size, 2, none⟩ = some (.slice Abx1 MA1.length cbx1) ∧ we18.cell? ⟨wx1.heap.size, 3, none⟩ = some (.slice Acx1 MB1.length ccx1) ∧ we18.cell? ⟨wx1.heap.size, 4, none⟩ = some (.slice Adx1 E1.length cdx1) ∧ we18.cell? ⟨w.heap.size + 1, 0, none⟩ = some (.int .i64 p1) ∧ we18.cell? ⟨w.heap.size + 1, 1, none⟩ = some (.slice Aa1 na1 ca1) ∧ we18.cell? ⟨w.heap.size + 1, 2, none⟩ = some (.slice Ab1 nb1 cb1) ∧ we18.cell? ⟨w.heap.size + 1, 3, none⟩ = some (.slice Ac1 nc1 cc1) ∧ we18.cell? ⟨w.heap.size + 1, 4, none⟩ = some (.slice Ad1 nd1 cd1) := ⟨bxx10, bxx11, bxx12, bxx13, bxx14, bxa10, bxa11, bxa12, bxa13, bxa14⟩
  have ZB : we18.drew.cell? ⟨wx1.heap.size, 0, none⟩ = some (.int .i64 p1) ∧ we18.drew.cell? ⟨wx1.heap.size, 1, none⟩ = some (.slice Aax1 S1.length cax1) ∧ we18.drew.cell? ⟨wx1.heap.size, 2, none⟩ = some (.slice Abx1 MA1.length cbx1) ∧ we18.drew.cell? ⟨wx1.heap.size, 3, none⟩ = some (.slice Acx1 MB1.length ccx1) ∧ we18.drew.cell? ⟨wx1.heap.size, 4, none⟩ = some (.slice Adx1 E1.length cdx1) ∧ we18.drew.cell? ⟨w.heap.size + 1, 0, none⟩ = some (.int .i64 p1) ∧ we18.drew.cell? ⟨w.heap.size + 1, 1, none⟩ = some (.slice Aa1 na1 ca1) ∧ we18.drew.cell? ⟨w.heap.size + 1, 2, none⟩ = some (.slice Ab1 nb1 cb1) ∧ we18.drew.cell? ⟨w.heap.size + 1, 3, none⟩ = some (.slice Ac1 nc1 cc1) ∧ we18.drew.cell? ⟨w.heap.size + 1, 4, none⟩ = some (.slice Ad1 nd1 cd1) := ⟨cdx10, cdx11, cdx12, cdx13, cdx14, cda10, cda11, cda12, cda13, cda14⟩
  have hdr : Below we18.heap.size we18 we18.drew := below_drawn (Below.refl _ _) ⟨1, rfl⟩
  have HBd := Lib.hid (below_more hBw_19 hdr)
  have HRxd := Lib.hid ((HRx1.out.below hBwx1_19).below hdr)
  have HDR := Lib.hid hdr
  clear hdr
  go_region_held3 (fun w' => w'.cell? ⟨wx1.heap.size, 0, none⟩ = some (.int .i64 p1) ∧ w'.cell? ⟨wx1.heap.size, 1, none⟩ = some (.slice Aax1 S1.length cax1) ∧ w'.cell? ⟨wx1.heap.size, 2, none⟩ = some (.slice Abx1 MA1.length cbx1) ∧ w'.cell? ⟨wx1.heap.size, 3, none⟩ = some (.slice Acx1 MB1.length ccx1) ∧ w'.cell? ⟨wx1.heap.size, 4, none⟩ = some (.slice Adx1 E1.length cdx1) ∧ w'.cell? ⟨w.heap.size + 1, 0, none⟩ = some (.int .i64 p1) ∧ w'.cell? ⟨w.heap.size + 1, 1, none⟩ = some (.slice Aa1 na1 ca1) ∧ w'.cell? ⟨w.heap.size + 1, 2, none⟩ = some (.slice Ab1 nb1 cb1) ∧ w'.cell? ⟨w.heap.size + 1, 3, none⟩ = some (.slice Ac1 nc1 cc1) ∧ w'.cell? ⟨w.heap.size + 1, 4, none⟩ = some (.slice Ad1 nd1 cd1)) (first | assumption | exact ZD | exact ZC | exact ZB | exact ZA | go_keep) (first | (go_at_call 21; refine (toWa _ p1 S1 MA1 MB1 E1 _ (H1.out.below HBd.out) hS1 hMA1 hMB1 hE1).mono ?_; rintro e wf1 ⟨_, rfl, hO, hN⟩; obtain ⟨Aaf1, caf1, Abf1, cbf1, Acf1, ccf1, Adf1, cdf1, rfl⟩ := hO.shape; have HRf1 := Lib.hid hO.wv; have HRxe := Lib.hid (HRxd.out.below hN); have cex10 := (keep_of_below hN).cell cdx10 (fun h => h); have cex11 := (keep_of_below hN).cell cdx11 (fun h => h); have cex12 := (keep_of_below hN).cell cdx12 (fun h => h); have cex13 := (keep_of_below hN).cell cdx13 (fun h => h); have cex14 := (keep_of_below hN).cell cdx14 (fun h => h); have cea10 := (keep_of_below hN).cell cda10 (fun h => h); have cea11 := (keep_of_below hN).cell cda11 (fun h => h); have cea12 := (keep_of_below hN).cell cda12 (fun h => h); have cea13 := (keep_of_below hN).cell cda13 (fun h => h); have cea14 := (keep_of_below hN).cell cda14 (fun h => h); have ZC := And.intro cex10 (And.intro cex11 (And.intro cex12 (And.intro cex13 (And.intro cex14 (And.intro cea10 (And.intro cea11 (And.intro cea12 (And.intro cea13 cea14)))))))); have HNf := Lib.hid hN; clear hO hN) | (go_at_call 22; refine (eqWa _ p1 S1 MA1 MB1 E1 _ p1 S1 MA1 MB1 E1 _ HRxe.out HRf1.out).mono ?_; rintro e we20 ⟨rfl, hN⟩; rw [decide_eq_true (show p1 = p1 ∧ S1 = S1 ∧ MA1 = MA1 ∧ MB1 = MB1 ∧ E1 = E1 from ⟨rfl, rfl, rfl, rfl, rfl⟩)]; have cgx10 := (keep_of_below hN).cell cex10 (fun h => h); have cgx11 := (keep_of_below hN).cell cex11 (fun h => h); have cgx12 := (keep_of_below hN).cell cex12 (fun h => h); have cgx13 := (keep_of_below hN).cell cex13 (fun h => h); have cgx14 := (keep_of_below hN).cell cex14 (fun h => h); have cga10 := (keep_of_below hN).cell cea10 (fun h => h); have cga11 := (keep_of_below hN).cell cea11 (fun h => h); have cga12 := (keep_of_below hN).cell cea12 (fun h => h); have cga13 := (keep_of_below hN).cell cea13 (fun h => h); have cga14 := (keep_of_below hN).cell cea14 (fun h => h); have ZD := And.intro cgx10 (And.intro cgx11 (And.intro cgx12 (And.intro cgx13 (And.intro cgx14 (And.intro cga10 (And.intro cga11 (And.intro cga12 (And.intro cga13 cga14)))))))); have HNe := Lib.hid hN; clear hN))
  have hN : Below we18.heap.size we18 we20 := below_more (below_more HDR.out HNf.out) HNe.out
  clear ZA ZB ZC ZD HBd HRxd HRxe HDR HNf HNe HRf1
  clear cdx10 cdx11 cdx12 cdx13 cdx14 cda10 cda11 cda12 cda13 cda14 cex10 cex11 cex12 cex13 cex14 cea10 cea11 cea12 cea13 cea14 cgx10 cgx11 cgx12 cgx13 cgx14 cga10 cga11 cga12 cga13 cga14
  have hBw_21 := below_more hBw_19 hN
  clear hBw_19
  have hBwb_21 := below_more hBwb_19 hN
  clear hBwb_19
  have hBwx0_21 := below_more hBwx0_19 hN
  clear hBwx0_19
  have hBwx1_21 := below_more hBwx1_19 hN
  clear hBwx1_19
  have hBwd_21 := below_more hBwd_19 hN
  clear hBwd_19
  have hkN := keep_of_below hN
  have bxa00' := hkN.cell bxa00 (fun h => h)
  clear bxa00
  have bxa00 := bxa00'
  clear bxa00'
  have bxa01' := hkN.cell bxa01 (fun h => h)
  clear bxa01
  have bxa01 := bxa01'
  clear bxa01'
  have bxa02' := hkN.cell bxa02 (fun h => h)
  clear bxa02
  have bxa02 := bxa02'
  clear bxa02'
  have bxa03' := hkN.cell bxa03 (fun h => h)
  clear bxa03
  have bxa03 := bxa03'
  clear bxa03'
  have bxa04' := hkN.cell bxa04 (fun h => h)
  clear bxa04
  have bxa04 := bxa04'
  clear bxa04'
  have lba0' := Nat.lt_of_lt_of_le lba0 hN.size
  clear lba0
  have lba0 := lba0'
  clear lba0'
  have bxa10' := hkN.cell bxa10 (fun h => h)
  clear bxa10
  have bxa10 := bxa10'
  clear bxa10'
  have bxa11' := hkN.cell bxa11 (fun h => h)
  clear bxa11
  have bxa11 := bxa11'
  clear bxa11'
  have bxa12' := hkN.cell bxa12 (fun h => h)
  clear bxa12
  have bxa12 := bxa12'
  clear bxa12'
  have bxa13' := hkN.cell bxa13 (fun h => h)
  clear bxa13
  have bxa13 := bxa13'
  clear bxa13'
  have bxa14' := hkN.cell bxa14 (fun h => h)
  clear bxa14
  have bxa14 := bxa14'
  clear bxa14'
  have lba1' := Nat.lt_of_lt_of_le lba1 hN.size
  clear lba1
  have lba1 := lba1'
  clear lba1'
  have bxs0' := hkN.cell bxs0 (fun h => h)
  clear bxs0
  have bxs0 := bxs0'
  clear bxs0'
  have bxs1' := hkN.cell bxs1 (fun h => h)
  clear bxs1
  have bxs1 := bxs1'
  clear bxs1'
  have bxs2' := hkN.cell bxs2 (fun h => h)
  clear bxs2
  have bxs2 := bxs2'
  clear bxs2'
  have bxs3' := hkN.cell bxs3 (fun h => h)
  clear bxs3
  have bxs3 := bxs3'
  clear bxs3'
  have bxs4' := hkN.cell bxs4 (fun h => h)
  clear bxs4
  have bxs4 := bxs4'
  clear bxs4'
  have lbs' := Nat.lt_of_lt_of_le lbs hN.size
  clear lbs
  have lbs := lbs'
  clear lbs'
  have bxx00' := hkN.cell bxx00 (fun h => h)
  clear bxx00
  have bxx00 := bxx00'
  clear bxx00'
  have bxx01' := hkN.cell bxx01 (fun h => h)
  clear bxx01
  have bxx01 := bxx01'
  clear bxx01'
  have bxx02' := hkN.cell bxx02 (fun h => h)
  clear bxx02
  have bxx02 := bxx02'
  clear bxx02'
  have bxx03' := hkN.cell bxx03 (fun h => h)
  clear bxx03
  have bxx03 := bxx03'
  clear bxx03'
  have bxx04' := hkN.cell bxx04 (fun h => h)
  clear bxx04
  have bxx04 := bxx04'
  clear bxx04'
  have lbx0' := Nat.lt_of_lt_of_le lbx0 hN.size
  clear lbx0
  have lbx0 := lbx0'
  clear lbx0'
  have bxx10' := hkN.cell bxx10 (fun h => h)
  clear bxx10
  have bxx10 := bxx10'
  clear bxx10'
  have bxx11' := hkN.cell bxx11 (fun h => h)
  clear bxx11
  have bxx11 := bxx11'
  clear bxx11'
  have bxx12' := hkN.cell bxx12 (fun h => h)
  clear bxx12
  have bxx12 := bxx12'
  clear bxx12'
  have bxx13' := hkN.cell bxx13 (fun h => h)
  clear bxx13
  have bxx13 := bxx13'
  clear bxx13'
  have bxx14' := hkN.cell bxx14 (fun h => h)
  clear bxx14
  have bxx14 := bxx14'
  clear bxx14'
  have lbx1' := Nat.lt_of_lt_of_le lbx1 hN.size
  clear lbx1
  have lbx1 := lbx1'
  clear lbx1'
  have bxg0' := hkN.cell bxg0 (fun h => h)
  clear bxg0
  have bxg0 := bxg0'
  clear bxg0'
  have bxg1' := hkN.cell bxg1 (fun h => h)
  clear bxg1
  have bxg1 := bxg1'
  clear bxg1'
  have bxg2' := hkN.cell bxg2 (fun h => h)
  clear bxg2
  have bxg2 := bxg2'
  clear bxg2'
  have bxg3' := hkN.cell bxg3 (fun h => h)
  clear bxg3
  have bxg3 := bxg3'
  clear bxg3'
  have bxg4' := hkN.cell bxg4 (fun h => h)
  clear bxg4
  have bxg4 := bxg4'
  clear bxg4'
  have lbg' := Nat.lt_of_lt_of_le lbg hN.size
  clear lbg
  have lbg := lbg'
  clear lbg'
  clear hkN
  have hzwe20 := hN.size
  clear hN
  go_wp2_with (fail)
  have hown := HOx0.out.below hBwx0_21
  refine (markWa _ _ _ p0 S0 MA0 MB0 E0 (1) _ hown (by omega) (by omega)).mono ?_
  rintro e wm0 ⟨rfl, _, hK⟩
  clear hown
  have hzzwm0 := hK.size
  have hX := hK.below (B := wb.heap.size) (by have h1 := (hBwb_21).size; omega) (fun k hk => by have h1 := hk.1; omega)
  have hBwb_22 := (hBwb_21).trans hX
  have hBw_22 := (hBw_21).trans (hX.mono (by omega))
  have bxa00' := hK.cell bxa00 (fun h => by have h1 := h.1; have h2 := h.2; simp only at h1 h2; omega)
  clear bxa00
  have bxa00 := bxa00'
  clear bxa00'
  have bxa01' := hK.cell bxa01 (fun h => by have h1 := h.1; have h2 := h.2; simp only at h1 h2; omega)
  clear bxa01
  have bxa01 := bxa01'
  clear bxa01'
  have bxa02' := hK.cell bxa02 (fun h => by have h1 := h.1; have h2 := h.2; simp only at h1 h2; omega)
  clear bxa02
  have bxa02 := bxa02'
  clear bxa02'
  have bxa03' := hK.cell bxa03 (fun h => by have h1 := h.1; have h2 := h.2; simp only at h1 h2; omega)
  clear bxa03
  have bxa03 := bxa03'
  clear bxa03'
  have bxa04' := hK.cell bxa04 (fun h => by have h1 := h.1; have h2 := h.2; simp only at h1 h2; omega)
  clear bxa04
  have bxa04 := bxa04'
  clear bxa04'
  have lba0' := Nat.lt_of_lt_of_le lba0 hK.size
  clear lba0
  have lba0 := lba0'
  clear lba0'
  have bxa10' := hK.cell bxa10 (fun h => by have h1 := h.1; have h2 := h.2; simp only at h1 h2; omega)
  clear bxa10
  have bxa10 := bxa10'
  clear bxa10'
  have bxa11' := hK.cell bxa11 (fun h => by have h1 := h.1; have h2 := h.2; simp only at h1 h2; omega)
  clear bxa11
  have bxa11 := bxa11'
  clear bxa11'
  have bxa12' := hK.cell bxa12 (fun h => by have h1 := h.1; have h2 := h.2; simp only at h1 h2; omega)
  clear bxa12
  have bxa12 := bxa12'
  clear bxa12'
  have bxa13' := hK.cell bxa13 (fun h => by have h1 := h.1; have h2 := h.2; simp only at h1 h2; omega)
  clear bxa13
  have bxa13 := bxa13'
  clear bxa13'
  have bxa14' := hK.cell bxa14 (fun h => by have h1 := h.1; have h2 := h.2; simp only at h1 h2; omega)
  clear bxa14
  have bxa14 := bxa14'
  clear bxa14'
  have lba1' := Nat.lt_of_lt_of_le lba1 hK.size
  clear lba1
  have lba1 := lba1'
  clear lba1'
  have bxs0' := hK.cell bxs0 (fun h => by have h1 := h.1; have h2 := h.2; simp only at h1 h2; omega)
  clear bxs0
  have bxs0 := bxs0'
  clear bxs0'
  have bxs1' := hK.cell bxs1 (fun h => by have h1 := h.1; have h2 := h.2; simp only at h1 h2; omega)
  clear bxs1
  have bxs1 := bxs1'
  clear bxs1'
  have bxs2' := hK.cell bxs2 (fun h => by have h1 := h.1; have h2 := h.2; simp only at h1 h2; omega)
  clear bxs2
  have bxs2 := bxs2'
  clear bxs2'
  have bxs3' := hK.cell bxs3 (fun h => by have h1 := h.1; have h2 := h.2; simp only at h1 h2; omega)
  clear bxs3
  have bxs3 := bxs3'
  clear bxs3'
  have bxs4' := hK.cell bxs4 (fun h => by have h1 := h.1; have h2 := h.2; simp only at h1 h2; omega)
  clear bxs4
  have bxs4 := bxs4'
  clear bxs4'
  have lbs' := Nat.lt_of_lt_of_le lbs hK.size
  clear lbs
  have lbs := lbs'
  clear lbs'
  have bxx00' := hK.cell bxx00 (fun h => by have h1 := h.1; have h2 := h.2; simp only at h1 h2; omega)
  clear bxx00
  have bxx00 := bxx00'
  clear bxx00'
  have bxx01' := hK.cell bxx01 (fun h => by have h1 := h.1; have h2 := h.2; simp only at h1 h2; omega)
  clear bxx01
  have bxx01 := bxx01'
  clear bxx01'
  have bxx02' := hK.cell bxx02 (fun h => by have h1 := h.1; have h2 := h.2; simp only at h1 h2; omega)
  clear bxx02
  have bxx02 := bxx02'
  clear bxx02'
  have bxx03' := hK.cell bxx03 (fun h => by have h1 := h.1; have h2 := h.2; simp only at h1 h2; omega)
  clear bxx03
  have bxx03 := bxx03'
  clear bxx03'
  have bxx04' := hK.cell bxx04 (fun h => by have h1 := h.1; have h2 := h.2; simp only at h1 h2; omega)
  clear bxx04
  have bxx04 := bxx04'
  clear bxx04'
  have lbx0' := Nat.lt_of_lt_of_le lbx0 hK.size
  clear lbx0
  have lbx0 := lbx0'
  clear lbx0'
  have bxx10' := hK.cell bxx10 (fun h => by have h1 := h.1; have h2 := h.2; simp only at h1 h2; omega)
  clear bxx10
  have bxx10 := bxx10'
  clear bxx10'
  have bxx11' := hK.cell bxx11 (fun h => by have h1 := h.1; have h2 := h.2; simp only at h1 h2; omega)
  clear bxx11
  have bxx11 := bxx11'
  clear bxx11'
  have bxx12' := hK.cell bxx12 (fun h => by have h1 := h.1; have h2 := h.2; simp only at h1 h2; omega)
  clear bxx12
  have bxx12 := bxx12'
  clear bxx12'
  have bxx13' := hK.cell bxx13 (fun h => by have h1 := h.1; have h2 := h.2; simp only at h1 h2; omega)
  clear bxx13
  have bxx13 := bxx13'
  clear bxx13'
  have bxx14' := hK.cell bxx14 (fun h => by have h1 := h.1; have h2 := h.2; simp only at h1 h2; omega)
  clear bxx14
  have bxx14 := bxx14'
  clear bxx14'
  have lbx1' := Nat.lt_of_lt_of_le lbx1 hK.size
  clear lbx1
  have lbx1 := lbx1'
  clear lbx1'
  have bxg0' := hK.cell bxg0 (fun h => by have h1 := h.1; have h2 := h.2; simp only at h1 h2; omega)
  clear bxg0
  have bxg0 := bxg0'
  clear bxg0'
  have bxg1' := hK.cell bxg1 (fun h => by have h1 := h.1; have h2 := h.2; simp only at h1 h2; omega)
  clear bxg1
  have bxg1 := bxg1'
  clear bxg1'
  have bxg2' := hK.cell bxg2 (fun h => by have h1 := h.1; have h2 := h.2; simp only at h1 h2; omega)
  clear bxg2
  have bxg2 := bxg2'
  clear bxg2'
  have bxg3' := hK.cell bxg3 (fun h => by have h1 := h.1; have h2 := h.2; simp only at h1 h2; omega)
  clear bxg3
  have bxg3 := bxg3'
  clear bxg3'
  have bxg4' := hK.cell bxg4 (fun h => by have h1 := h.1; have h2 := h.2; simp only at h1 h2; omega)
  clear bxg4
  have bxg4 := bxg4'
  clear bxg4'
  have lbg' := Nat.lt_of_lt_of_le lbg hK.size
  clear lbg
  have lbg := lbg'
  clear lbg'
  have hO := (HOx1.out.below hBwx1_21).keep hK (fun g hg1 hg2 hs => by have h1 := hs.1; have h2 := hs.2; omega)
  clear HOx1
  have HOx1 := Lib.hid hO
  clear hO
  have hOg := (HOg.out.below hBwd_21).keep hK (fun g hg1 hg2 hs => by have h1 := hs.1; have h2 := hs.2; omega)
  clear HOg HRg
  have HOg := Lib.hid hOg
  have HRg := Lib.hid hOg.wv
  clear hOg
  clear hK hX
  have hBx1_23 := Below.refl wm0.heap.size wm0
  have hBwd_24 := Below.refl wm0.heap.size wm0
  go_wp2_with (fail)
  have hown := HOx1.out.below hBx1_23
  refine (markWa _ _ _ p1 S1 MA1 MB1 E1 (1 + (S0.length : Int) + (tot MA0 : Int) + (tot MB0 : Int) + (E0.length : Int)) _ hown (by omega) (by omega)).mono ?_
  rintro e wm1 ⟨rfl, _, hK⟩
  clear hown
  have hzzwm1 := hK.size
  have hX := hK.below (B := wb.heap.size) (by have h1 := (hBwb_22).size; omega) (fun k hk => by have h1 := hk.1; omega)
  have hBwb_25 := (hBwb_22).trans hX
  have hBw_25 := (hBw_22).trans (hX.mono (by omega))
  have bxa00' := hK.cell bxa00 (fun h => by have h1 := h.1; have h2 := h.2; simp only at h1 h2; omega)
  clear bxa00
  have bxa00 := bxa00'
  clear bxa00'
  have bxa01' := hK.cell bxa01 (fun h => by have h1 := h.1; have h2 := h.2; simp only at h1 h2; omega)
  clear bxa01
  have bxa01 := bxa01'
  clear bxa01'
  have bxa02' := hK.cell bxa02 (fun h => by have h1 := h.1; have h2 := h.2; simp only at h1 h2; omega)
  clear bxa02
  have bxa02 := bxa02'
  clear bxa02'
  have bxa03' := hK.cell bxa03 (fun h => by have h1 := h.1; have h2 := h.2; simp only at h1 h2; omega)
  clear bxa03
  have bxa03 := bxa03'
  clear bxa03'
  have bxa04' := hK.cell bxa04 (fun h => by have h1 := h.1; have h2 := h.2; simp only at h1 h2; omega)
  clear bxa04
  have bxa04 := bxa04'
  clear bxa04'
  have lba0' := Nat.lt_of_lt_of_le lba0 hK.size
  clear lba0
  have lba0 := lba0'
  clear lba0'
  have bxa10' := hK.cell bxa10 (fun h => by have h1 := h.1; have h2 := h.2; simp only at h1 h2; omega)
  clear bxa10
  have bxa10 := bxa10'
  clear bxa10'
  have bxa11' := hK.cell bxa11 (fun h => by have h1 := h.1; have h2 := h.2; simp only at h1 h2; omega)
  clear bxa11
  have bxa11 := bxa11'
  clear bxa11'
  have bxa12' := hK.cell bxa12 (fun h => by have h1 := h.1; have h2 := h.2; simp only at h1 h2; omega)
  clear bxa12
  have bxa12 := bxa12'
  clear bxa12'
  have bxa13' := hK.cell bxa13 (fun h => by have h1 := h.1; have h2 := h.2; simp only at h1 h2; omega)
  clear bxa13
  have bxa13 := bxa13'
  clear bxa13'
  have bxa14' := hK.cell bxa14 (fun h => by have h1 := h.1; have h2 := h.2; simp only at h1 h2; omega)
  clear bxa14
  have bxa14 := bxa14'
  clear bxa14'
  have lba1' := Nat.lt_of_lt_of_le lba1 hK.size
  clear lba1
  have lba1 := lba1'
  clear lba1'
  have bxs0' := hK.cell bxs0 (fun h => by have h1 := h.1; have h2 := h.2; simp only at h1 h2; omega)
  clear bxs0
  have bxs0 := bxs0'
  clear bxs0'
  have bxs1' := hK.cell bxs1 (fun h => by have h1 := h.1; have h2 := h.2; simp only at h1 h2; omega)
  clear bxs1
  have bxs1 := bxs1'
  clear bxs1'
  have bxs2' := hK.cell bxs2 (fun h => by have h1 := h.1; have h2 := h.2; simp only at h1 h2; omega)
  clear bxs2
  have bxs2 := bxs2'
  clear bxs2'
  have bxs3' := hK.cell bxs3 (fun h => by have h1 := h.1; have h2 := h.2; simp only at h1 h2; omega)
  clear bxs3
  have bxs3 := bxs3'
  clear bxs3'
  have bxs4' := hK.cell bxs4 (fun h => by have h1 := h.1; have h2 := h.2; simp only at h1 h2; omega)
  clear bxs4
  have bxs4 := bxs4'
  clear bxs4'
  have lbs' := Nat.lt_of_lt_of_le lbs hK.size
  clear lbs
  have lbs := lbs'
  clear lbs'
  have bxx00' := hK.cell bxx00 (fun h => by have h1 := h.1; have h2 := h.2; simp only at h1 h2; omega)
  clear bxx00
  have bxx00 := bxx00'
  clear bxx00'
  have bxx01' := hK.cell bxx01 (fun h => by have h1 := h.1; have h2 := h.2; simp only at h1 h2; omega)
  clear bxx01
  have bxx01 := bxx01'
  clear bxx01'
  have bxx02' := hK.cell bxx02 (fun h => by have h1 := h.1; have h2 := h.2; simp only at h1 h2; omega)
  clear bxx02
  have bxx02 := bxx02'
  clear bxx02'
  have bxx03' := hK.cell bxx03 (fun h => by have h1 := h.1; have h2 := h.2; simp only at h1 h2; omega)
  clear bxx03
  have bxx03 := bxx03'
  clear bxx03'
  have bxx04' := hK.cell bxx04 (fun h => by have h1 := h.1; have h2 := h.2; simp only at h1 h2; omega)
  clear bxx04
  have bxx04 := bxx04'
  clear bxx04'
  have lbx0' := Nat.lt_of_lt_of_le lbx0 hK.size
  clear lbx0
  have lbx0 := lbx0'
  clear lbx0'
  have bxx10' := hK.cell bxx10 (fun h => by have h1 := h.1; have h2 := h.2; simp only at h1 h2; omega)
  clear bxx10
  have bxx10 := bxx10'
  clear bxx10'
  have bxx11' := hK.cell bxx11 (fun h => by have h1 := h.1; have h2 := h.2; simp only at h1 h2; omega)
  clear bxx11
  have bxx11 := bxx11'
  clear bxx11'
  have bxx12' := hK.cell bxx12 (fun h => by have h1 := h.1; have h2 := h.2; simp only at h1 h2; omega)
  clear bxx12
  have bxx12 := bxx12'
  clear bxx12'
  have bxx13' := hK.cell bxx13 (fun h => by have h1 := h.1; have h2 := h.2; simp only at h1 h2; omega)
  clear bxx13
  have bxx13 := bxx13'
  clear bxx13'
  have bxx14' := hK.cell bxx14 (fun h => by have h1 := h.1; have h2 := h.2; simp only at h1 h2; omega)
  clear bxx14
  have bxx14 := bxx14'
  clear bxx14'
  have lbx1' := Nat.lt_of_lt_of_le lbx1 hK.size
  clear lbx1
  have lbx1 := lbx1'
  clear lbx1'
  have bxg0' := hK.cell bxg0 (fun h => by have h1 := h.1; have h2 := h.2; simp only at h1 h2; omega)
  clear bxg0
  have bxg0 := bxg0'
  clear bxg0'
  have bxg1' := hK.cell bxg1 (fun h => by have h1 := h.1; have h2 := h.2; simp only at h1 h2; omega)
  clear bxg1
  have bxg1 := bxg1'
  clear bxg1'
  have bxg2' := hK.cell bxg2 (fun h => by have h1 := h.1; have h2 := h.2; simp only at h1 h2; omega)
  clear bxg2
  have bxg2 := bxg2'
  clear bxg2'
  have bxg3' := hK.cell bxg3 (fun h => by have h1 := h.1; have h2 := h.2; simp only at h1 h2; omega)
  clear bxg3
  have bxg3 := bxg3'
  clear bxg3'
  have bxg4' := hK.cell bxg4 (fun h => by have h1 := h.1; have h2 := h.2; simp only at h1 h2; omega)
  clear bxg4
  have bxg4 := bxg4'
  clear bxg4'
  have lbg' := Nat.lt_of_lt_of_le lbg hK.size
  clear lbg
  have lbg := lbg'
  clear lbg'
  have hOg := (HOg.out.below hBwd_24).keep hK (fun g hg1 hg2 hs => by have h1 := hs.1; have h2 := hs.2; omega)
  clear HOg HRg
  have HOg := Lib.hid hOg
  have HRg := Lib.hid hOg.wv
  clear hOg
  clear hK hX
  have hBwd_26 := Below.refl wm1.heap.size wm1
  have hpos : 0 ≤ 1 + (S0.length : Int) + (tot MA0 : Int) + (tot MB0 : Int) + (E0.length : Int) + (S1.length : Int) + (tot MA1 : Int) + (tot MB1 : Int) + (E1.length : Int) := by omega
  go_wp2_with (fail)
  go_wp2_with (fail)
  refine (eqWa _ RP RS RA RB RE _ RP RS RA RB RE _ (HRg.out.below hBwd_26) (HRs.out.below hBwb_25)).mono ?_
  rintro e we27 ⟨rfl, hN⟩
  rw [decide_eq_true (show RP = RP ∧ RS = RS ∧ RA = RA ∧ RB = RB ∧ RE = RE from ⟨rfl, rfl, rfl, rfl, rfl⟩)]
  have hBw_28 := below_more hBw_25 hN
  clear hBw_25
  have hBwb_28 := below_more hBwb_25 hN
  clear hBwb_25
  have hBwd_28 := below_more hBwd_26 hN
  clear hBwd_26
  have hkN := keep_of_below hN
  have bxa00' := hkN.cell bxa00 (fun h => h)
  clear bxa00
  have bxa00 := bxa00'
  clear bxa00'
  have bxa01' := hkN.cell bxa01 (fun h => h)
  clear bxa01
  have bxa01 := bxa01'
  clear bxa01'
  have bxa02' := hkN.cell bxa02 (fun h => h)
  clear bxa02
  have bxa02 := bxa02'
  clear bxa02'
  have bxa03' := hkN.cell bxa03 (fun h => h)
  clear bxa03
  have bxa03 := bxa03'
  clear bxa03'
  have bxa04' := hkN.cell bxa04 (fun h => h)
  clear bxa04
  have bxa04 := bxa04'
  clear bxa04'
  have lba0' := Nat.lt_of_lt_of_le lba0 hN.size
  clear lba0
  have lba0 := lba0'
  clear lba0'
  have bxa10' := hkN.cell bxa10 (fun h => h)
  clear bxa10
  have bxa10 := bxa10'
  clear bxa10'
  have bxa11' := hkN.cell bxa11 (fun h => h)
  clear bxa11
  have bxa11 := bxa11'
  clear bxa11'
  have bxa12' := hkN.cell bxa12 (fun h => h)
  clear bxa12
  have bxa12 := bxa12'
  clear bxa12'
  have bxa13' := hkN.cell bxa13 (fun h => h)
  clear bxa13
  have bxa13 := bxa13'
  clear bxa13'
  have bxa14' := hkN.cell bxa14 (fun h => h)
  clear bxa14
  have bxa14 := bxa14'
  clear bxa14'
  have lba1' := Nat.lt_of_lt_of_le lba1 hN.size
  clear lba1
  have lba1 := lba1'
  clear lba1'
  have bxs0' := hkN.cell bxs0 (fun h => h)
  clear bxs0
  have bxs0 := bxs0'
  clear bxs0'
  have bxs1' := hkN.cell bxs1 (fun h => h)
  clear bxs1
  have bxs1 := bxs1'
  clear bxs1'
  have bxs2' := hkN.cell bxs2 (fun h => h)
  clear bxs2
  have bxs2 := bxs2'
  clear bxs2'
  have bxs3' := hkN.cell bxs3 (fun h => h)
  clear bxs3
  have bxs3 := bxs3'
  clear bxs3'
  have bxs4' := hkN.cell bxs4 (fun h => h)
  clear bxs4
  have bxs4 := bxs4'
  clear bxs4'
  have lbs' := Nat.lt_of_lt_of_le lbs hN.size
  clear lbs
  have lbs := lbs'
  clear lbs'
  have bxx00' := hkN.cell bxx00 (fun h => h)
  clear bxx00
  have bxx00 := bxx00'
  clear bxx00'
  have bxx01' := hkN.cell bxx01 (fun h => h)
  clear bxx01
  have bxx01 := bxx01'
  clear bxx01'
  have bxx02' := hkN.cell bxx02 (fun h => h)
  clear bxx02
  have bxx02 := bxx02'
  clear bxx02'
  have bxx03' := hkN.cell bxx03 (fun h => h)
  clear bxx03
  have bxx03 := bxx03'
  clear bxx03'
  have bxx04' := hkN.cell bxx04 (fun h => h)
  clear bxx04
  have bxx04 := bxx04'
  clear bxx04'
  have lbx0' := Nat.lt_of_lt_of_le lbx0 hN.size
  clear lbx0
  have lbx0 := lbx0'
  clear lbx0'
  have bxx10' := hkN.cell bxx10 (fun h => h)
  clear bxx10
  have bxx10 := bxx10'
  clear bxx10'
  have bxx11' := hkN.cell bxx11 (fun h => h)
  clear bxx11
  have bxx11 := bxx11'
  clear bxx11'
  have bxx12' := hkN.cell bxx12 (fun h => h)
  clear bxx12
  have bxx12 := bxx12'
  clear bxx12'
  have bxx13' := hkN.cell bxx13 (fun h => h)
  clear bxx13
  have bxx13 := bxx13'
  clear bxx13'
  have bxx14' := hkN.cell bxx14 (fun h => h)
  clear bxx14
  have bxx14 := bxx14'
  clear bxx14'
  have lbx1' := Nat.lt_of_lt_of_le lbx1 hN.size
  clear lbx1
  have lbx1 := lbx1'
  clear lbx1'
  have bxg0' := hkN.cell bxg0 (fun h => h)
  clear bxg0
  have bxg0 := bxg0'
  clear bxg0'
  have bxg1' := hkN.cell bxg1 (fun h => h)
  clear bxg1
  have bxg1 := bxg1'
  clear bxg1'
  have bxg2' := hkN.cell bxg2 (fun h => h)
  clear bxg2
  have bxg2 := bxg2'
  clear bxg2'
  have bxg3' := hkN.cell bxg3 (fun h => h)
  clear bxg3
  have bxg3 := bxg3'
  clear bxg3'
  have bxg4' := hkN.cell bxg4 (fun h => h)
  clear bxg4
  have bxg4 := bxg4'
  clear bxg4'
  have lbg' := Nat.lt_of_lt_of_le lbg hN.size
  clear lbg
  have lbg := lbg'
  clear lbg'
  clear hkN
  have hzwe27 := hN.size
  clear hN
  go_wp2_with (fail)
  refine (markWa _ _ _ RP RS RA RB RE 1 _ (HOg.out.below hBwd_28) (by omega) (by omega)).mono ?_
  rintro e wj ⟨rfl, hO, hK⟩
  have hzzwj := hK.size
  have hX := hK.below (B := wb.heap.size) (by have h1 := (hBwb_28).size; omega) (fun k hk => by have h1 := hk.1; omega)
  have hBwb_29 := (hBwb_28).trans hX
  have hBw_29 := (hBw_28).trans (hX.mono (by omega))
  have bxa00' := hK.cell bxa00 (fun h => by have h1 := h.1; have h2 := h.2; simp only at h1 h2; omega)
  clear bxa00
  have bxa00 := bxa00'
  clear bxa00'
  have bxa01' := hK.cell bxa01 (fun h => by have h1 := h.1; have h2 := h.2; simp only at h1 h2; omega)
  clear bxa01
  have bxa01 := bxa01'
  clear bxa01'
  have bxa02' := hK.cell bxa02 (fun h => by have h1 := h.1; have h2 := h.2; simp only at h1 h2; omega)
  clear bxa02
  have bxa02 := bxa02'
  clear bxa02'
  have bxa03' := hK.cell bxa03 (fun h => by have h1 := h.1; have h2 := h.2; simp only at h1 h2; omega)
  clear bxa03
  have bxa03 := bxa03'
  clear bxa03'
  have bxa04' := hK.cell bxa04 (fun h => by have h1 := h.1; have h2 := h.2; simp only at h1 h2; omega)
  clear bxa04
  have bxa04 := bxa04'
  clear bxa04'
  have lba0' := Nat.lt_of_lt_of_le lba0 hK.size
  clear lba0
  have lba0 := lba0'
  clear lba0'
  have bxa10' := hK.cell bxa10 (fun h => by have h1 := h.1; have h2 := h.2; simp only at h1 h2; omega)
  clear bxa10
  have bxa10 := bxa10'
  clear bxa10'
  have bxa11' := hK.cell bxa11 (fun h => by have h1 := h.1; have h2 := h.2; simp only at h1 h2; omega)
  clear bxa11
  have bxa11 := bxa11'
  clear bxa11'
  have bxa12' := hK.cell bxa12 (fun h => by have h1 := h.1; have h2 := h.2; simp only at h1 h2; omega)
  clear bxa12
  have bxa12 := bxa12'
  clear bxa12'
  have bxa13' := hK.cell bxa13 (fun h => by have h1 := h.1; have h2 := h.2; simp only at h1 h2; omega)
  clear bxa13
  have bxa13 := bxa13'
  clear bxa13'
  have bxa14' := hK.cell bxa14 (fun h => by have h1 := h.1; have h2 := h.2; simp only at h1 h2; omega)
  clear bxa14
  have bxa14 := bxa14'
  clear bxa14'
  have lba1' := Nat.lt_of_lt_of_le lba1 hK.size
  clear lba1
  have lba1 := lba1'
  clear lba1'
  have bxs0' := hK.cell bxs0 (fun h => by have h1 := h.1; have h2 := h.2; simp only at h1 h2; omega)
  clear bxs0
  have bxs0 := bxs0'
  clear bxs0'
  have bxs1' := hK.cell bxs1 (fun h => by have h1 := h.1; have h2 := h.2; simp only at h1 h2; omega)
  clear bxs1
  have bxs1 := bxs1'
  clear bxs1'
  have bxs2' := hK.cell bxs2 (fun h => by have h1 := h.1; have h2 := h.2; simp only at h1 h2; omega)
  clear bxs2
  have bxs2 := bxs2'
  clear bxs2'
  have bxs3' := hK.cell bxs3 (fun h => by have h1 := h.1; have h2 := h.2; simp only at h1 h2; omega)
  clear bxs3
  have bxs3 := bxs3'
  clear bxs3'
  have bxs4' := hK.cell bxs4 (fun h => by have h1 := h.1; have h2 := h.2; simp only at h1 h2; omega)
  clear bxs4
  have bxs4 := bxs4'
  clear bxs4'
  have lbs' := Nat.lt_of_lt_of_le lbs hK.size
  clear lbs
  have lbs := lbs'
  clear lbs'
  have bxx00' := hK.cell bxx00 (fun h => by have h1 := h.1; have h2 := h.2; simp only at h1 h2; omega)
  clear bxx00
  have bxx00 := bxx00'
  clear bxx00'
  have bxx01' := hK.cell bxx01 (fun h => by have h1 := h.1; have h2 := h.2; simp only at h1 h2; omega)
  clear bxx01
  have bxx01 := bxx01'
  clear bxx01'
  have bxx02' := hK.cell bxx02 (fun h => by have h1 := h.1; have h2 := h.2; simp only at h1 h2; omega)
  clear bxx02
  have bxx02 := bxx02'
  clear bxx02'
  have bxx03' := hK.cell bxx03 (fun h => by have h1 := h.1; have h2 := h.2; simp only at h1 h2; omega)
  clear bxx03
  have bxx03 := bxx03'
  clear bxx03'
  have bxx04' := hK.cell bxx04 (fun h => by have h1 := h.1; have h2 := h.2; simp only at h1 h2; omega)
  clear bxx04
  have bxx04 := bxx04'
  clear bxx04'
  have lbx0' := Nat.lt_of_lt_of_le lbx0 hK.size
  clear lbx0
  have lbx0 := lbx0'
  clear lbx0'
  have bxx10' := hK.cell bxx10 (fun h => by have h1 := h.1; have h2 := h.2; simp only at h1 h2; omega)
  clear bxx10
  have bxx10 := bxx10'
  clear bxx10'
  have bxx11' := hK.cell bxx11 (fun h => by have h1 := h.1; have h2 := h.2; simp only at h1 h2; omega)
  clear bxx11
  have bxx11 := bxx11'
  clear bxx11'
  have bxx12' := hK.cell bxx12 (fun h => by have h1 := h.1; have h2 := h.2; simp only at h1 h2; omega)
  clear bxx12
  have bxx12 := bxx12'
  clear bxx12'
  have bxx13' := hK.cell bxx13 (fun h => by have h1 := h.1; have h2 := h.2; simp only at h1 h2; omega)
  clear bxx13
  have bxx13 := bxx13'
  clear bxx13'
  have bxx14' := hK.cell bxx14 (fun h => by have h1 := h.1; have h2 := h.2; simp only at h1 h2; omega)
  clear bxx14
  have bxx14 := bxx14'
  clear bxx14'
  have lbx1' := Nat.lt_of_lt_of_le lbx1 hK.size
  clear lbx1
  have lbx1 := lbx1'
  clear lbx1'
  have bxg0' := hK.cell bxg0 (fun h => by have h1 := h.1; have h2 := h.2; simp only at h1 h2; omega)
  clear bxg0
  have bxg0 := bxg0'
  clear bxg0'
  have bxg1' := hK.cell bxg1 (fun h => by have h1 := h.1; have h2 := h.2; simp only at h1 h2; omega)
  clear bxg1
  have bxg1 := bxg1'
  clear bxg1'
  have bxg2' := hK.cell bxg2 (fun h => by have h1 := h.1; have h2 := h.2; simp only at h1 h2; omega)
  clear bxg2
  have bxg2 := bxg2'
  clear bxg2'
  have bxg3' := hK.cell bxg3 (fun h => by have h1 := h.1; have h2 := h.2; simp only at h1 h2; omega)
  clear bxg3
  have bxg3 := bxg3'
  clear bxg3'
  have bxg4' := hK.cell bxg4 (fun h => by have h1 := h.1; have h2 := h.2; simp only at h1 h2; omega)
  clear bxg4
  have bxg4 := bxg4'
  clear bxg4'
  have lbg' := Nat.lt_of_lt_of_le lbg hK.size
  clear lbg
  have lbg := lbg'
  clear lbg'
  have HRj := Lib.hid hO.wv
  clear hO hK hX
  have hBwj_30 := Below.refl wj.heap.size wj
  go_wp2_with (fail)
  refine (heldWa _ RP 1 RS RA RB RE _ (HRj.out.below hBwj_30) (by omega) (by omega)).mono ?_
  rintro e wh1 ⟨rfl, hN⟩
  have hBw_31 := below_more hBw_29 hN
  clear hBw_29
  have hBwb_31 := below_more hBwb_29 hN
  clear hBwb_29
  have hBwj_31 := below_more hBwj_30 hN
  clear hBwj_30
  have hkN := keep_of_below hN
  have bxa00' := hkN.cell bxa00 (fun h => h)
  clear bxa00
  have bxa00 := bxa00'
  clear bxa00'
  have bxa01' := hkN.cell bxa01 (fun h => h)
  clear bxa01
  have bxa01 := bxa01'
  clear bxa01'
  have bxa02' := hkN.cell bxa02 (fun h => h)
  clear bxa02
  have bxa02 := bxa02'
  clear bxa02'
  have bxa03' := hkN.cell bxa03 (fun h => h)
  clear bxa03
  have bxa03 := bxa03'
  clear bxa03'
  have bxa04' := hkN.cell bxa04 (fun h => h)
  clear bxa04
  have bxa04 := bxa04'
  clear bxa04'
  have lba0' := Nat.lt_of_lt_of_le lba0 hN.size
  clear lba0
  have lba0 := lba0'
  clear lba0'
  have bxa10' := hkN.cell bxa10 (fun h => h)
  clear bxa10
  have bxa10 := bxa10'
  clear bxa10'
  have bxa11' := hkN.cell bxa11 (fun h => h)
  clear bxa11
  have bxa11 := bxa11'
  clear bxa11'
  have bxa12' := hkN.cell bxa12 (fun h => h)
  clear bxa12
  have bxa12 := bxa12'
  clear bxa12'
  have bxa13' := hkN.cell bxa13 (fun h => h)
  clear bxa13
  have bxa13 := bxa13'
  clear bxa13'
  have bxa14' := hkN.cell bxa14 (fun h => h)
  clear bxa14
  have bxa14 := bxa14'
  clear bxa14'
  have lba1' := Nat.lt_of_lt_of_le lba1 hN.size
  clear lba1
  have lba1 := lba1'
  clear lba1'
  have bxs0' := hkN.cell bxs0 (fun h => h)
  clear bxs0
  have bxs0 := bxs0'
  clear bxs0'
  have bxs1' := hkN.cell bxs1 (fun h => h)
  clear bxs1
  have bxs1 := bxs1'
  clear bxs1'
  have bxs2' := hkN.cell bxs2 (fun h => h)
  clear bxs2
  have bxs2 := bxs2'
  clear bxs2'
  have bxs3' := hkN.cell bxs3 (fun h => h)
  clear bxs3
  have bxs3 := bxs3'
  clear bxs3'
  have bxs4' := hkN.cell bxs4 (fun h => h)
  clear bxs4
  have bxs4 := bxs4'
  clear bxs4'
  have lbs' := Nat.lt_of_lt_of_le lbs hN.size
  clear lbs
  have lbs := lbs'
  clear lbs'
  have bxx00' := hkN.cell bxx00 (fun h => h)
  clear bxx00
  have bxx00 := bxx00'
  clear bxx00'
  have bxx01' := hkN.cell bxx01 (fun h => h)
  clear bxx01
  have bxx01 := bxx01'
  clear bxx01'
  have bxx02' := hkN.cell bxx02 (fun h => h)
  clear bxx02
  have bxx02 := bxx02'
  clear bxx02'
  have bxx03' := hkN.cell bxx03 (fun h => h)
  clear bxx03
  have bxx03 := bxx03'
  clear bxx03'
  have bxx04' := hkN.cell bxx04 (fun h => h)
  clear bxx04
  have bxx04 := bxx04'
  clear bxx04'
  have lbx0' := Nat.lt_of_lt_of_le lbx0 hN.size
  clear lbx0
  have lbx0 := lbx0'
  clear lbx0'
  have bxx10' := hkN.cell bxx10 (fun h => h)
  clear bxx10
  have bxx10 := bxx10'
  clear bxx10'
  have bxx11' := hkN.cell bxx11 (fun h => h)
  clear bxx11
  have bxx11 := bxx11'
  clear bxx11'
  have bxx12' := hkN.cell bxx12 (fun h => h)
  clear bxx12
  have bxx12 := bxx12'
  clear bxx12'
  have bxx13' := hkN.cell bxx13 (fun h => h)
  clear bxx13
  have bxx13 := bxx13'
  clear bxx13'
  have bxx14' := hkN.cell bxx14 (fun h => h)
  clear bxx14
  have bxx14 := bxx14'
  clear bxx14'
  have lbx1' := Nat.lt_of_lt_of_le lbx1 hN.size
  clear lbx1
  have lbx1 := lbx1'
  clear lbx1'
  have bxg0' := hkN.cell bxg0 (fun h => h)
  clear bxg0
  have bxg0 := bxg0'
  clear bxg0'
  have bxg1' := hkN.cell bxg1 (fun h => h)
  clear bxg1
  have bxg1 := bxg1'
  clear bxg1'
  have bxg2' := hkN.cell bxg2 (fun h => h)
  clear bxg2
  have bxg2 := bxg2'
  clear bxg2'
  have bxg3' := hkN.cell bxg3 (fun h => h)
  clear bxg3
  have bxg3 := bxg3'
  clear bxg3'
  have bxg4' := hkN.cell bxg4 (fun h => h)
  clear bxg4
  have bxg4 := bxg4'
  clear bxg4'
  have lbg' := Nat.lt_of_lt_of_le lbg hN.size
  clear lbg
  have lbg := lbg'
  clear lbg'
  clear hkN
  have hzwh1 := hN.size
  clear hN
  have hpq1 : 0 ≤ 1 + (RS.length : Int) + (tot RA : Int) + (tot RB : Int) + (RE.length : Int) := by omega
  have hqg : ((1 + (RS.length : Int) + (tot RA : Int) + (tot RB : Int) + (RE.length : Int)) != (1 + (RS.length : Int) + (tot RA : Int) + (tot RB : Int) + (RE.length : Int))) = false := by simp
  go_upto_region 45 with (fail)
  have HAN := Lib.hid (hBw_31)
  go_cut [15, 16] (fun v6 v7 wx => ∃ (gB : Nat) (Aal : Option Addr) (cal : Nat) (Abl : Option Addr) (cbl : Nat) (Acl : Option Addr) (ccl : Nat) (Adl : Option Addr) (cdl : Nat), v6 = .pointer (some ⟨gB, 0, none⟩) ∧ v7 = .bool RO ∧ wh1.heap.size ≤ gB ∧ Bx5 wx gB (.int .i64 RP) (.slice Aal RS.length cal) (.slice Abl RA.length cbl) (.slice Acl RB.length ccl) (.slice Adl RE.length cdl) ∧ WO wx wh1.heap.size wx.heap.size (.agg #[.int .i64 RP, .slice Aal RS.length cal, .slice Abl RA.length cbl, .slice Acl RB.length ccl, .slice Adl RE.length cdl]) RP RS RA RB RE ∧ Below wh1.heap.size wh1 wx)
  case first =>
    have cda00 : wh1.drew.cell? ⟨w.heap.size, 0, none⟩ = some (.int .i64 p0) := bxa00
    have cda01 : wh1.drew.cell? ⟨w.heap.size, 1, none⟩ = some (.slice Aa0 na0 ca0) := bxa01
    have cda02 : wh1.drew.cell? ⟨w.heap.size, 2, none⟩ = some (.slice Ab0 nb0 cb0) := bxa02
    have cda03 : wh1.drew.cell? ⟨w.heap.size, 3, none⟩ = some (.slice Ac0 nc0 cc0) := bxa03
    have cda04 : wh1.drew.cell? ⟨w.heap.size, 4, none⟩ = some (.slice Ad0 nd0 cd0) := bxa04
    have cda10 : wh1.drew.cell? ⟨w.heap.size + 1, 0, none⟩ = some (.int .i64 p1) := bxa10
    have cda11 : wh1.drew.cell? ⟨w.heap.size + 1, 1, none⟩ = some (.slice Aa1 na1 ca1) := bxa11
    have cda12 : wh1.drew.cell? ⟨w.heap.size + 1, 2, none⟩ = some (.slice Ab1 nb1 cb1) := bxa12
    have cda13 : wh1.drew.cell? ⟨w.heap.size + 1, 3, none⟩ = some (.slice Ac1 nc1 cc1) := bxa13
    have cda14 : wh1.drew.cell? ⟨w.heap.size + 1, 4, none⟩ = some (.slice Ad1 nd1 cd1) := bxa14
    have ZA : wh1.cell? ⟨w.heap.size, 0, none⟩ = some (.int .i64 p0) ∧ wh1.cell? ⟨w.heap.size, 1, none⟩ = some (.slice Aa0 na0 ca0) ∧ wh1.cell? ⟨w.heap.size, 2, none⟩ = some (.slice Ab0 nb0 cb0) ∧ wh1.cell? ⟨w.heap.size, 3, none⟩ = some (.slice Ac0 nc0 cc0) ∧ wh1.cell? ⟨w.heap.size, 4, none⟩ = some (.slice Ad0 nd0 cd0) ∧ wh1.cell? ⟨w.heap.size + 1, 0, none⟩ = some (.int .i64 p1) ∧ wh1.cell? ⟨w.heap.size + 1, 1, none⟩ = some (.slice Aa1 na1 ca1) ∧ wh1.cell? ⟨w.heap.size + 1, 2, none⟩ = some (.slice Ab1 nb1 cb1) ∧ wh1.cell? ⟨w.heap.size + 1, 3, none⟩ = some (.slice Ac1 nc1 cc1) ∧ wh1.cell? ⟨w.heap.size + 1, 4, none⟩ = some (.slice Ad1 nd1 cd1) := (And.intro bxa00 (And.intro bxa01 (And.intro bxa02 (And.intro bxa03 (And.intro bxa04 (And.intro bxa10 (And.intro bxa11 (And.intro bxa12 (And.intro bxa13 (bxa14))))))))))
    have ZB : wh1.drew.cell? ⟨w.heap.size, 0, none⟩ = some (.int .i64 p0) ∧ wh1.drew.cell? ⟨w.heap.size, 1, none⟩ = some (.slice Aa0 na0 ca0) ∧ wh1.drew.cell? ⟨w.heap.size, 2, none⟩ = some (.slice Ab0 nb0 cb0) ∧ wh1.drew.cell? ⟨w.heap.size, 3, none⟩ = some (.slice Ac0 nc0 cc0) ∧ wh1.drew.cell? ⟨w.heap.size, 4, none⟩ = some (.slice Ad0 nd0 cd0) ∧ wh1.drew.cell? ⟨w.heap.size + 1, 0, none⟩ = some (.int .i64 p1) ∧ wh1.drew.cell? ⟨w.heap.size + 1, 1, none⟩ = some (.slice Aa1 na1 ca1) ∧ wh1.drew.cell? ⟨w.heap.size + 1, 2, none⟩ = some (.slice Ab1 nb1 cb1) ∧ wh1.drew.cell? ⟨w.heap.size + 1, 3, none⟩ = some (.slice Ac1 nc1 cc1) ∧ wh1.drew.cell? ⟨w.heap.size + 1, 4, none⟩ = some (.slice Ad1 nd1 cd1) := (And.intro cda00 (And.intro cda01 (And.intro cda02 (And.intro cda03 (And.intro cda04 (And.intro cda10 (And.intro cda11 (And.intro cda12 (And.intro cda13 (cda14))))))))))
    have hdr : Below wh1.heap.size wh1 wh1.drew := below_drawn (Below.refl _ _) ⟨1, rfl⟩
    have HAd0 := Lib.hid ((H0.out.below HAN.out).below hdr)
    have HAd1 := Lib.hid ((H1.out.below HAN.out).below hdr)
    have HDR := Lib.hid hdr
    have hsa := HAN.out.size
    clear hdr
    have Q1 : True := trivial
    have Q2 : True := trivial
    have hfara0 : ∀ (W : World) (g o o' : Nat) (v : Value), w.heap.size < g → (W.setCell ⟨g, o, none⟩ v).cell? ⟨w.heap.size, o', none⟩ = W.cell? ⟨w.heap.size, o', none⟩ := fun W g o o' v hg => World.cell?_setCell_far _ _ _ _ (by show g ≠ w.heap.size; omega)
    have hfara1 : ∀ (W : World) (g o o' : Nat) (v : Value), w.heap.size + 1 < g → (W.setCell ⟨g, o, none⟩ v).cell? ⟨w.heap.size + 1, o', none⟩ = W.cell? ⟨w.heap.size + 1, o', none⟩ := fun W g o o' v hg => World.cell?_setCell_far _ _ _ _ (by show g ≠ w.heap.size + 1; omega)
    go_region_held3 (fun w' => w'.cell? ⟨w.heap.size, 0, none⟩ = some (.int .i64 p0) ∧ w'.cell? ⟨w.heap.size, 1, none⟩ = some (.slice Aa0 na0 ca0) ∧ w'.cell? ⟨w.heap.size, 2, none⟩ = some (.slice Ab0 nb0 cb0) ∧ w'.cell? ⟨w.heap.size, 3, none⟩ = some (.slice Ac0 nc0 cc0) ∧ w'.cell? ⟨w.heap.size, 4, none⟩ = some (.slice Ad0 nd0 cd0) ∧ w'.cell? ⟨w.heap.size + 1, 0, none⟩ = some (.int .i64 p1) ∧ w'.cell? ⟨w.heap.size + 1, 1, none⟩ = some (.slice Aa1 na1 ca1) ∧ w'.cell? ⟨w.heap.size + 1, 2, none⟩ = some (.slice Ab1 nb1 cb1) ∧ w'.cell? ⟨w.heap.size + 1, 3, none⟩ = some (.slice Ac1 nc1 cc1) ∧ w'.cell? ⟨w.heap.size + 1, 4, none⟩ = some (.slice Ad1 nd1 cd1)) (first | (refine ⟨?_, ?_, ?_, ?_, ?_, ?_, ?_, ?_, ?_, ?_⟩ <;> (simp (disch := omega) only [hfara0, hfara1]; (with_reducible assumption))) | (with_reducible exact ZE) | (with_reducible exact ZD) | (with_reducible exact ZC) | (with_reducible exact ZB) | (with_reducible exact ZA) | go_keep) (first | (clear Q1; go_at_call 21; (with_reducible refine (toWa _ p0 S0 MA0 MB0 E0 _ (by first | exact HAd0.out | exact HAd0.out.below (bel_newT _ _)) hS0 hMA0 hMB0 hE0).mono ?_); rintro e wpwl ⟨u0, rfl, hO, hN⟩; have hN' : Below wh1.drew.heap.size wh1.drew wpwl := (by first | exact hN | exact below_more (bel_newT _ (.cells #[.int .i64 0, .slice none 0 0, .slice none 0 0, .slice none 0 0, .slice none 0 0] 26)) hN); have hzwpwl' : wh1.heap.size ≤ wpwl.heap.size := hN'.size; (first | have HLB := Lib.hid (show BxW5 wpwl wh1.heap.size (.int .i64 0) (.slice none 0 0) (.slice none 0 0) (.slice none 0 0) (.slice none 0 0) from (BxW5.new wh1.drew (.int .i64 0) (.slice none 0 0) (.slice none 0 0) (.slice none 0 0) (.slice none 0 0) 26).below hN) | skip); have HRu0 := Lib.hid hO.wv; have HAe1 := Lib.hid (HAd1.out.below hN'); have hkN := keep_of_below hN'; have cea00 := hkN.cell cda00 (fun h => h); have cea01 := hkN.cell cda01 (fun h => h); have cea02 := hkN.cell cda02 (fun h => h); have cea03 := hkN.cell cda03 (fun h => h); have cea04 := hkN.cell cda04 (fun h => h); have cea10 := hkN.cell cda10 (fun h => h); have cea11 := hkN.cell cda11 (fun h => h); have cea12 := hkN.cell cda12 (fun h => h); have cea13 := hkN.cell cda13 (fun h => h); have cea14 := hkN.cell cda14 (fun h => h); have ZC := (And.intro cea00 (And.intro cea01 (And.intro cea02 (And.intro cea03 (And.intro cea04 (And.intro cea10 (And.intro cea11 (And.intro cea12 (And.intro cea13 (cea14)))))))))); have HNa := Lib.hid hN'; (first | have hla := HLB.out.c.lt | skip); clear hO hN hN' hkN) | (clear Q2; go_at_call 21; (with_reducible refine (toWa _ p1 S1 MA1 MB1 E1 _ (by first | exact HAe1.out | exact HAe1.out.below (bel_newT _ _)) hS1 hMA1 hMB1 hE1).mono ?_); rintro e wvwl ⟨u1, rfl, hO, hN⟩; have hN' : Below wpwl.heap.size wpwl wvwl := (by first | exact hN | exact below_more (bel_newT _ (.cells #[.int .i64 0, .slice none 0 0, .slice none 0 0, .slice none 0 0, .slice none 0 0] 26)) hN); have hzwvwl' : wpwl.heap.size ≤ wvwl.heap.size := hN'.size; (first | have HLB := Lib.hid (HLB.out.below hN') | have HLB := Lib.hid ((BxW5.new wpwl (.int .i64 0) (.slice none 0 0) (.slice none 0 0) (.slice none 0 0) (.slice none 0 0) 26).below hN) | skip); have HRu1 := Lib.hid hO.wv; have HRu0 := Lib.hid (HRu0.out.below hN'); have hkN := keep_of_below hN'; have cga00 := hkN.cell cea00 (fun h => h); have cga01 := hkN.cell cea01 (fun h => h); have cga02 := hkN.cell cea02 (fun h => h); have cga03 := hkN.cell cea03 (fun h => h); have cga04 := hkN.cell cea04 (fun h => h); have cga10 := hkN.cell cea10 (fun h => h); have cga11 := hkN.cell cea11 (fun h => h); have cga12 := hkN.cell cea12 (fun h => h); have cga13 := hkN.cell cea13 (fun h => h); have cga14 := hkN.cell cea14 (fun h => h); have ZD := (And.intro cga00 (And.intro cga01 (And.intro cga02 (And.intro cga03 (And.intro cga04 (And.intro cga10 (And.intro cga11 (And.intro cga12 (And.intro cga13 (cga14)))))))))); have HNb := Lib.hid hN'; (first | have hlb := HLB.out.c.lt | skip); clear hO hN hN' hkN) | (go_at_call 44; refine (implWaTimes _ p0 S0 MA0 MB0 E0 _ p1 S1 MA1 MB1 E1 _ (by first | exact HRu0.out | exact HRu0.out.below (bel_newT _ _)) (by first | exact HRu1.out | exact HRu1.out.below (bel_newT _ _))).mono ?_; rw [HRV.out]; unfold MadeWB; rw [HRO.out]; rintro e wl ⟨_, rfl, hO, hN⟩; rw [show waZ = (0, [], [], [], []) from rfl, HRP.out, HRS.out, HRA.out, HRB.out, HRE.out] at hO; obtain ⟨Aal, cal, Abl, cbl, Acl, ccl, Adl, cdl, rfl⟩ := hO.shape; have hN' : Below wvwl.heap.size wvwl wl := (by first | exact hN | exact below_more (bel_newT _ (.cells #[.int .i64 0, .slice none 0 0, .slice none 0 0, .slice none 0 0, .slice none 0 0] 26)) hN); have hzwl' : wvwl.heap.size ≤ wl.heap.size := hN'.size; (first | have HLB := Lib.hid (HLB.out.below hN') | have HLB := Lib.hid ((BxW5.new wvwl (.int .i64 0) (.slice none 0 0) (.slice none 0 0) (.slice none 0 0) (.slice none 0 0) 26).below hN) | skip); have HOx := Lib.hid hO; clear hO; have hkN := keep_of_below hN'; have cha00 := hkN.cell cga00 (fun h => h); have cha01 := hkN.cell cga01 (fun h => h); have cha02 := hkN.cell cga02 (fun h => h); have cha03 := hkN.cell cga03 (fun h => h); have cha04 := hkN.cell cga04 (fun h => h); have cha10 := hkN.cell cga10 (fun h => h); have cha11 := hkN.cell cga11 (fun h => h); have cha12 := hkN.cell cga12 (fun h => h); have cha13 := hkN.cell cga13 (fun h => h); have cha14 := hkN.cell cga14 (fun h => h); have ZE := (And.intro cha00 (And.intro cha01 (And.intro cha02 (And.intro cha03 (And.intro cha04 (And.intro cha10 (And.intro cha11 (And.intro cha12 (And.intro cha13 (cha14)))))))))); have HNc := Lib.hid hN'; (first | (obtain ⟨z0, z1, z2, z3, z4⟩ := HLB.out.c; have zf := HLB.out.fz; have hlc := HLB.out.c.lt) | skip); clear hN hN' hkN))
    all_goals
      have hTot := Lib.hid (below_more (below_more (below_more HDR.out HNa.out) HNb.out) HNc.out)
      go_wp2_with (fail)
      go_meet
      first
        | exact ⟨_, Aal, cal, Abl, cbl, Acl, ccl, Adl, cdl, rfl, rfl, cutw_put HLB.out HOx.out hTot.out (by first | omega | (simp <;> omega)) (by first | omega | (simp <;> omega)) (by first | omega | (simp <;> omega)) (Nat.le_refl _) _ _ _ _ _⟩
        | exact ⟨_, Aal, cal, Abl, cbl, Acl, ccl, Adl, cdl, rfl, rfl, cutw_new HOx.out hTot.out (by first | omega | (simp <;> omega)) (Nat.le_refl _) _⟩
  case rest =>
  obtain ⟨gBl, Aal, cal, Abl, cbl, Acl, ccl, Adl, cdl, rfl, rfl, hgl, hbx, hO, hN⟩ := hcut
  obtain ⟨wl, rfl⟩ : ∃ wl : World, wl = wc := ⟨_, rfl⟩
  have lcl := hbx.lt
  obtain ⟨hn0, hn1, hn2, hn3, hn4⟩ := hbx
  have hnl := lcl
  clear HAN
  have HOy := Lib.hid hO
  clear hO
  have hBw_32 := below_more hBw_31 hN
  clear hBw_31
  have hBwb_32 := below_more hBwb_31 hN
  clear hBwb_31
  have hBwj_32 := below_more hBwj_31 hN
  clear hBwj_31
  have hkN := keep_of_below hN
  have bxa00' := hkN.cell bxa00 (fun h => h)
  clear bxa00
  have bxa00 := bxa00'
  clear bxa00'
  have bxa01' := hkN.cell bxa01 (fun h => h)
  clear bxa01
  have bxa01 := bxa01'
  clear bxa01'
  have bxa02' := hkN.cell bxa02 (fun h => h)
  clear bxa02
  have bxa02 := bxa02'
  clear bxa02'
  have bxa03' := hkN.cell bxa03 (fun h => h)
  clear bxa03
  have bxa03 := bxa03'
  clear bxa03'
  have bxa04' := hkN.cell bxa04 (fun h => h)
  clear bxa04
  have bxa04 := bxa04'
  clear bxa04'
  have lba0' := Nat.lt_of_lt_of_le lba0 hN.size
  clear lba0
  have lba0 := lba0'
  clear lba0'
  have bxa10' := hkN.cell bxa10 (fun h => h)
  clear bxa10
  have bxa10 := bxa10'
  clear bxa10'
  have bxa11' := hkN.cell bxa11 (fun h => h)
  clear bxa11
  have bxa11 := bxa11'
  clear bxa11'
  have bxa12' := hkN.cell bxa12 (fun h => h)
  clear bxa12
  have bxa12 := bxa12'
  clear bxa12'
  have bxa13' := hkN.cell bxa13 (fun h => h)
  clear bxa13
  have bxa13 := bxa13'
  clear bxa13'
  have bxa14' := hkN.cell bxa14 (fun h => h)
  clear bxa14
  have bxa14 := bxa14'
  clear bxa14'
  have lba1' := Nat.lt_of_lt_of_le lba1 hN.size
  clear lba1
  have lba1 := lba1'
  clear lba1'
  have bxs0' := hkN.cell bxs0 (fun h => h)
  clear bxs0
  have bxs0 := bxs0'
  clear bxs0'
  have bxs1' := hkN.cell bxs1 (fun h => h)
  clear bxs1
  have bxs1 := bxs1'
  clear bxs1'
  have bxs2' := hkN.cell bxs2 (fun h => h)
  clear bxs2
  have bxs2 := bxs2'
  clear bxs2'
  have bxs3' := hkN.cell bxs3 (fun h => h)
  clear bxs3
  have bxs3 := bxs3'
  clear bxs3'
  have bxs4' := hkN.cell bxs4 (fun h => h)
  clear bxs4
  have bxs4 := bxs4'
  clear bxs4'
  have lbs' := Nat.lt_of_lt_of_le lbs hN.size
  clear lbs
  have lbs := lbs'
  clear lbs'
  have bxx00' := hkN.cell bxx00 (fun h => h)
  clear bxx00
  have bxx00 := bxx00'
  clear bxx00'
  have bxx01' := hkN.cell bxx01 (fun h => h)
  clear bxx01
  have bxx01 := bxx01'
  clear bxx01'
  have bxx02' := hkN.cell bxx02 (fun h => h)
  clear bxx02
  have bxx02 := bxx02'
  clear bxx02'
  have bxx03' := hkN.cell bxx03 (fun h => h)
  clear bxx03
  have bxx03 := bxx03'
  clear bxx03'
  have bxx04' := hkN.cell bxx04 (fun h => h)
  clear bxx04
  have bxx04 := bxx04'
  clear bxx04'
  have lbx0' := Nat.lt_of_lt_of_le lbx0 hN.size
  clear lbx0
  have lbx0 := lbx0'
  clear lbx0'
  have bxx10' := hkN.cell bxx10 (fun h => h)
  clear bxx10
  have bxx10 := bxx10'
  clear bxx10'
  have bxx11' := hkN.cell bxx11 (fun h => h)
  clear bxx11
  have bxx11 := bxx11'
  clear bxx11'
  have bxx12' := hkN.cell bxx12 (fun h => h)
  clear bxx12
  have bxx12 := bxx12'
  clear bxx12'
  have bxx13' := hkN.cell bxx13 (fun h => h)
  clear bxx13
  have bxx13 := bxx13'
  clear bxx13'
  have bxx14' := hkN.cell bxx14 (fun h => h)
  clear bxx14
  have bxx14 := bxx14'
  clear bxx14'
  have lbx1' := Nat.lt_of_lt_of_le lbx1 hN.size
  clear lbx1
  have lbx1 := lbx1'
  clear lbx1'
  have bxg0' := hkN.cell bxg0 (fun h => h)
  clear bxg0
  have bxg0 := bxg0'
  clear bxg0'
  have bxg1' := hkN.cell bxg1 (fun h => h)
  clear bxg1
  have bxg1 := bxg1'
  clear bxg1'
  have bxg2' := hkN.cell bxg2 (fun h => h)
  clear bxg2
  have bxg2 := bxg2'
  clear bxg2'
  have bxg3' := hkN.cell bxg3 (fun h => h)
  clear bxg3
  have bxg3 := bxg3'
  clear bxg3'
  have bxg4' := hkN.cell bxg4 (fun h => h)
  clear bxg4
  have bxg4 := bxg4'
  clear bxg4'
  have lbg' := Nat.lt_of_lt_of_le lbg hN.size
  clear lbg
  have lbg := lbg'
  clear lbg'
  clear hkN
  have hzwl := hN.size
  clear hN
  have bxl0 := hn0
  clear hn0
  have bxl1 := hn1
  clear hn1
  have bxl2 := hn2
  clear hn2
  have bxl3 := hn3
  clear hn3
  have bxl4 := hn4
  clear hn4
  have lbl := hnl
  clear hnl
  have hO := HOy.out
  clear HOy
  have HRl := Lib.hid hO.wv
  have HOl := Lib.hid hO
  clear hO
  have hBwl_33 := Below.refl wl.heap.size wl
  go_wp2_with (fail)
  go_wp2_with (fail)
  refine (eqWa _ RP RS RA RB RE _ RP RS RA RB RE _ (HRl.out.below hBwl_33) (HRs.out.below hBwb_32)).mono ?_
  rintro e we34 ⟨rfl, hN⟩
  rw [decide_eq_true (show RP = RP ∧ RS = RS ∧ RA = RA ∧ RB = RB ∧ RE = RE from ⟨rfl, rfl, rfl, rfl, rfl⟩)]
  have hBw_35 := below_more hBw_32 hN
  clear hBw_32
  have hBwb_35 := below_more hBwb_32 hN
  clear hBwb_32
  have hBwj_35 := below_more hBwj_32 hN
  clear hBwj_32
  have hBwl_35 := below_more hBwl_33 hN
  clear hBwl_33
  have hkN := keep_of_below hN
  have bxa00' := hkN.cell bxa00 (fun h => h)
  clear bxa00
  have bxa00 := bxa00'
  clear bxa00'
  have bxa01' := hkN.cell bxa01 (fun h => h)
  clear bxa01
  have bxa01 := bxa01'
  clear bxa01'
  have bxa02' := hkN.cell bxa02 (fun h => h)
  clear bxa02
  have bxa02 := bxa02'
  clear bxa02'
  have bxa03' := hkN.cell bxa03 (fun h => h)
  clear bxa03
  have bxa03 := bxa03'
  clear bxa03'
  have bxa04' := hkN.cell bxa04 (fun h => h)
  clear bxa04
  have bxa04 := bxa04'
  clear bxa04'
  have lba0' := Nat.lt_of_lt_of_le lba0 hN.size
  clear lba0
  have lba0 := lba0'
  clear lba0'
  have bxa10' := hkN.cell bxa10 (fun h => h)
  clear bxa10
  have bxa10 := bxa10'
  clear bxa10'
  have bxa11' := hkN.cell bxa11 (fun h => h)
  clear bxa11
  have bxa11 := bxa11'
  clear bxa11'
  have bxa12' := hkN.cell bxa12 (fun h => h)
  clear bxa12
  have bxa12 := bxa12'
  clear bxa12'
  have bxa13' := hkN.cell bxa13 (fun h => h)
  clear bxa13
  have bxa13 := bxa13'
  clear bxa13'
  have bxa14' := hkN.cell bxa14 (fun h => h)
  clear bxa14
  have bxa14 := bxa14'
  clear bxa14'
  have lba1' := Nat.lt_of_lt_of_le lba1 hN.size
  clear lba1
  have lba1 := lba1'
  clear lba1'
  have bxs0' := hkN.cell bxs0 (fun h => h)
  clear bxs0
  have bxs0 := bxs0'
  clear bxs0'
  have bxs1' := hkN.cell bxs1 (fun h => h)
  clear bxs1
  have bxs1 := bxs1'
  clear bxs1'
  have bxs2' := hkN.cell bxs2 (fun h => h)
  clear bxs2
  have bxs2 := bxs2'
  clear bxs2'
  have bxs3' := hkN.cell bxs3 (fun h => h)
  clear bxs3
  have bxs3 := bxs3'
  clear bxs3'
  have bxs4' := hkN.cell bxs4 (fun h => h)
  clear bxs4
  have bxs4 := bxs4'
  clear bxs4'
  have lbs' := Nat.lt_of_lt_of_le lbs hN.size
  clear lbs
  have lbs := lbs'
  clear lbs'
  have bxx00' := hkN.cell bxx00 (fun h => h)
  clear bxx00
  have bxx00 := bxx00'
  clear bxx00'
  have bxx01' := hkN.cell bxx01 (fun h => h)
  clear bxx01
  have bxx01 := bxx01'
  clear bxx01'
  have bxx02' := hkN.cell bxx02 (fun h => h)
  clear bxx02
  have bxx02 := bxx02'
  clear bxx02'
  have bxx03' := hkN.cell bxx03 (fun h => h)
  clear bxx03
  have bxx03 := bxx03'
  clear bxx03'
  have bxx04' := hkN.cell bxx04 (fun h => h)
  clear bxx04
  have bxx04 := bxx04'
  clear bxx04'
  have lbx0' := Nat.lt_of_lt_of_le lbx0 hN.size
  clear lbx0
  have lbx0 := lbx0'
  clear lbx0'
  have bxx10' := hkN.cell bxx10 (fun h => h)
  clear bxx10
  have bxx10 := bxx10'
  clear bxx10'
  have bxx11' := hkN.cell bxx11 (fun h => h)
  clear bxx11
  have bxx11 := bxx11'
  clear bxx11'
  have bxx12' := hkN.cell bxx12 (fun h => h)
  clear bxx12
  have bxx12 := bxx12'
  clear bxx12'
  have bxx13' := hkN.cell bxx13 (fun h => h)
  clear bxx13
  have bxx13 := bxx13'
  clear bxx13'
  have bxx14' := hkN.cell bxx14 (fun h => h)
  clear bxx14
  have bxx14 := bxx14'
  clear bxx14'
  have lbx1' := Nat.lt_of_lt_of_le lbx1 hN.size
  clear lbx1
  have lbx1 := lbx1'
  clear lbx1'
  have bxg0' := hkN.cell bxg0 (fun h => h)
  clear bxg0
  have bxg0 := bxg0'
  clear bxg0'
  have bxg1' := hkN.cell bxg1 (fun h => h)
  clear bxg1
  have bxg1 := bxg1'
  clear bxg1'
  have bxg2' := hkN.cell bxg2 (fun h => h)
  clear bxg2
  have bxg2 := bxg2'
  clear bxg2'
  have bxg3' := hkN.cell bxg3 (fun h => h)
  clear bxg3
  have bxg3 := bxg3'
  clear bxg3'
  have bxg4' := hkN.cell bxg4 (fun h => h)
  clear bxg4
  have bxg4 := bxg4'
  clear bxg4'
  have lbg' := Nat.lt_of_lt_of_le lbg hN.size
  clear lbg
  have lbg := lbg'
  clear lbg'
  have bxl0' := hkN.cell bxl0 (fun h => h)
  clear bxl0
  have bxl0 := bxl0'
  clear bxl0'
  have bxl1' := hkN.cell bxl1 (fun h => h)
  clear bxl1
  have bxl1 := bxl1'
  clear bxl1'
  have bxl2' := hkN.cell bxl2 (fun h => h)
  clear bxl2
  have bxl2 := bxl2'
  clear bxl2'
  have bxl3' := hkN.cell bxl3 (fun h => h)
  clear bxl3
  have bxl3 := bxl3'
  clear bxl3'
  have bxl4' := hkN.cell bxl4 (fun h => h)
  clear bxl4
  have bxl4 := bxl4'
  clear bxl4'
  have lbl' := Nat.lt_of_lt_of_le lbl hN.size
  clear lbl
  have lbl := lbl'
  clear lbl'
  clear hkN
  have hzwe34 := hN.size
  clear hN
  go_wp2_with (fail)
  refine (heldWa _ RP 1 RS RA RB RE _ (HRj.out.below hBwj_35) (by omega) (by omega)).mono ?_
  rintro e wh2 ⟨rfl, hN⟩
  have hBw_36 := below_more hBw_35 hN
  clear hBw_35
  have hBwb_36 := below_more hBwb_35 hN
  clear hBwb_35
  have hBwj_36 := below_more hBwj_35 hN
  clear hBwj_35
  have hBwl_36 := below_more hBwl_35 hN
  clear hBwl_35
  have hkN := keep_of_below hN
  have bxa00' := hkN.cell bxa00 (fun h => h)
  clear bxa00
  have bxa00 := bxa00'
  clear bxa00'
  have bxa01' := hkN.cell bxa01 (fun h => h)
  clear bxa01
  have bxa01 := bxa01'
  clear bxa01'
  have bxa02' := hkN.cell bxa02 (fun h => h)
  clear bxa02
  have bxa02 := bxa02'
  clear bxa02'
  have bxa03' := hkN.cell bxa03 (fun h => h)
  clear bxa03
  have bxa03 := bxa03'
  clear bxa03'
  have bxa04' := hkN.cell bxa04 (fun h => h)
  clear bxa04
  have bxa04 := bxa04'
  clear bxa04'
  have lba0' := Nat.lt_of_lt_of_le lba0 hN.size
  clear lba0
  have lba0 := lba0'
  clear lba0'
  have bxa10' := hkN.cell bxa10 (fun h => h)
  clear bxa10
  have bxa10 := bxa10'
  clear bxa10'
  have bxa11' := hkN.cell bxa11 (fun h => h)
  clear bxa11
  have bxa11 := bxa11'
  clear bxa11'
  have bxa12' := hkN.cell bxa12 (fun h => h)
  clear bxa12
  have bxa12 := bxa12'
  clear bxa12'
  have bxa13' := hkN.cell bxa13 (fun h => h)
  clear bxa13
  have bxa13 := bxa13'
  clear bxa13'
  have bxa14' := hkN.cell bxa14 (fun h => h)
  clear bxa14
  have bxa14 := bxa14'
  clear bxa14'
  have lba1' := Nat.lt_of_lt_of_le lba1 hN.size
  clear lba1
  have lba1 := lba1'
  clear lba1'
  have bxs0' := hkN.cell bxs0 (fun h => h)
  clear bxs0
  have bxs0 := bxs0'
  clear bxs0'
  have bxs1' := hkN.cell bxs1 (fun h => h)
  clear bxs1
  have bxs1 := bxs1'
  clear bxs1'
  have bxs2' := hkN.cell bxs2 (fun h => h)
  clear bxs2
  have bxs2 := bxs2'
  clear bxs2'
  have bxs3' := hkN.cell bxs3 (fun h => h)
  clear bxs3
  have bxs3 := bxs3'
  clear bxs3'
  have bxs4' := hkN.cell bxs4 (fun h => h)
  clear bxs4
  have bxs4 := bxs4'
  clear bxs4'
  have lbs' := Nat.lt_of_lt_of_le lbs hN.size
  clear lbs
  have lbs := lbs'
  clear lbs'
  have bxx00' := hkN.cell bxx00 (fun h => h)
  clear bxx00
  have bxx00 := bxx00'
  clear bxx00'
  have bxx01' := hkN.cell bxx01 (fun h => h)
  clear bxx01
  have bxx01 := bxx01'
  clear bxx01'
  have bxx02' := hkN.cell bxx02 (fun h => h)
  clear bxx02
  have bxx02 := bxx02'
  clear bxx02'
  have bxx03' := hkN.cell bxx03 (fun h => h)
  clear bxx03
  have bxx03 := bxx03'
  clear bxx03'
  have bxx04' := hkN.cell bxx04 (fun h => h)
  clear bxx04
  have bxx04 := bxx04'
  clear bxx04'
  have lbx0' := Nat.lt_of_lt_of_le lbx0 hN.size
  clear lbx0
  have lbx0 := lbx0'
  clear lbx0'
  have bxx10' := hkN.cell bxx10 (fun h => h)
  clear bxx10
  have bxx10 := bxx10'
  clear bxx10'
  have bxx11' := hkN.cell bxx11 (fun h => h)
  clear bxx11
  have bxx11 := bxx11'
  clear bxx11'
  have bxx12' := hkN.cell bxx12 (fun h => h)
  clear bxx12
  have bxx12 := bxx12'
  clear bxx12'
  have bxx13' := hkN.cell bxx13 (fun h => h)
  clear bxx13
  have bxx13 := bxx13'
  clear bxx13'
  have bxx14' := hkN.cell bxx14 (fun h => h)
  clear bxx14
  have bxx14 := bxx14'
  clear bxx14'
  have lbx1' := Nat.lt_of_lt_of_le lbx1 hN.size
  clear lbx1
  have lbx1 := lbx1'
  clear lbx1'
  have bxg0' := hkN.cell bxg0 (fun h => h)
  clear bxg0
  have bxg0 := bxg0'
  clear bxg0'
  have bxg1' := hkN.cell bxg1 (fun h => h)
  clear bxg1
  have bxg1 := bxg1'
  clear bxg1'
  have bxg2' := hkN.cell bxg2 (fun h => h)
  clear bxg2
  have bxg2 := bxg2'
  clear bxg2'
  have bxg3' := hkN.cell bxg3 (fun h => h)
  clear bxg3
  have bxg3 := bxg3'
  clear bxg3'
  have bxg4' := hkN.cell bxg4 (fun h => h)
  clear bxg4
  have bxg4 := bxg4'
  clear bxg4'
  have lbg' := Nat.lt_of_lt_of_le lbg hN.size
  clear lbg
  have lbg := lbg'
  clear lbg'
  have bxl0' := hkN.cell bxl0 (fun h => h)
  clear bxl0
  have bxl0 := bxl0'
  clear bxl0'
  have bxl1' := hkN.cell bxl1 (fun h => h)
  clear bxl1
  have bxl1 := bxl1'
  clear bxl1'
  have bxl2' := hkN.cell bxl2 (fun h => h)
  clear bxl2
  have bxl2 := bxl2'
  clear bxl2'
  have bxl3' := hkN.cell bxl3 (fun h => h)
  clear bxl3
  have bxl3 := bxl3'
  clear bxl3'
  have bxl4' := hkN.cell bxl4 (fun h => h)
  clear bxl4
  have bxl4 := bxl4'
  clear bxl4'
  have lbl' := Nat.lt_of_lt_of_le lbl hN.size
  clear lbl
  have lbl := lbl'
  clear lbl'
  clear hkN
  have hzwh2 := hN.size
  clear hN
  have hpq2 : 0 ≤ 1 + (RS.length : Int) + (tot RA : Int) + (tot RB : Int) + (RE.length : Int) := by omega
  go_wp2_with (fail)
  go_ret
  exact ⟨rfl, hBw_36⟩
end Go.Proofs.Ytegkmolffemkpaa

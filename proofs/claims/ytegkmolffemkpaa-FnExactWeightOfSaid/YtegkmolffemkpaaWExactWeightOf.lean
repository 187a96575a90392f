/-
  The walk of the exact law of WeightOf.
-/
import Derived.Deep.RegionHeld3
import Derived.Test.YtegkmolffemkpaaWgi
import Derived.Test.YtegkmolffemkpaaEx
import Derived.Test.YtegkmolffemkpaaCopy
import Derived.Test.YtegkmolffemkpaaEq
namespace Go.Proofs.Ytegkmolffemkpaa
open Go.RowKit
set_option maxRecDepth 100000 in
set_option maxHeartbeats 16000000 in
set_option linter.unusedVariables false in
theorem walkFnExactWeightOf (p0 : Int) (Aa0 : Option Addr) (na0 ca0 : Nat) (Ab0 : Option Addr) (nb0 cb0 : Nat) (Ac0 : Option Addr) (nc0 cc0 : Nat) (Ad0 : Option Addr) (nd0 cd0 : Nat) (S0 : List Int) (MA0 MB0 : List (List Int)) (E0 : List Int) (a1 : Option Addr) (len1 cap1 : Nat) (z1 : List Int) (w : World) (w0 : WV w (.agg #[.int .i64 p0, .slice Aa0 na0 ca0, .slice Ab0 nb0 cb0, .slice Ac0 nc0 cc0, .slice Ad0 nd0 cd0]) p0 S0 MA0 MB0 E0) (w1 : IsRow .i64 w a1 len1 cap1 z1) :
    Calls Try.prog 8 #[.agg #[.int .i64 p0, .slice Aa0 na0 ca0, .slice Ab0 nb0 cb0, .slice Ac0 nc0 cc0, .slice Ad0 nd0 cd0], .slice a1 len1 cap1] w fun e w' => e = .returned (.bool true) ∧ Below w.heap.size w w' := by
  have H0 := Lib.hid w0
  obtain ⟨b1, o1, hR1⟩ := w1.ia
  obtain ⟨M1, hM1⟩ : ∃ M, z1.take len1 = M := ⟨_, rfl⟩
  rw [hM1] at hR1
  have hbg1 := hR1.big
  have H1 := Lib.hid hR1
  clear hR1 hM1
  clear w0 w1
  go_enter Try.func8, Try.ntmps8
  have hBw0 := Below.refl w.heap.size w
  by_cases hn1 : len1 ≤ 1048576
  case neg =>
    have hg1 : decide (1048576 < (len1 : Int)) = true := decide_eq_true (by omega)
    go_wp2_with (fail)
    go_ret
    exact ⟨rfl, by first | exact Below.refl _ _ | exact (Below.refl _ _).alloc (Nat.le_refl _) _⟩
  have hg1 : decide (1048576 < (len1 : Int)) = false := decide_eq_false (by omega)
  go_wp2_with (fail)
  obtain ⟨wqa0, hQ⟩ : ∃ W, w.alloc (.cells #[.int .i64 p0, .slice Aa0 na0 ca0, .slice Ab0 nb0 cb0, .slice Ac0 nc0 cc0, .slice Ad0 nd0 cd0] 32) = W := ⟨_, rfl⟩
  rw [hQ]
  have hN : Below w.heap.size w wqa0 := by rw [← hQ]; exact (Below.refl _ _).alloc (Nat.le_refl _) _
  obtain ⟨hn0, hn1, hn2, hn3, hn4⟩ := box5 w (.int .i64 p0) (.slice Aa0 na0 ca0) (.slice Ab0 nb0 cb0) (.slice Ac0 nc0 cc0) (.slice Ad0 nd0 cd0) 32
  rw [hQ] at hn0 hn1 hn2 hn3 hn4
  have hnl : w.heap.size < wqa0.heap.size := cell_lt hn0
  have lca0 := hnl
  clear hQ
  have hBw_1 := below_more hBw0 hN
  clear hBw0
  have hzwqa0 := hN.size
  clear hN
  have bxa00 := hn0
  clear hn0
  have bxa01 := hn1
  clear hn1
  have bxa02 := hn2
  clear hn2
  have bxa03 := hn3
  clear hn3
  have bxa04 := hn4
  clear hn4
  have lba0 := hnl
  clear hnl
  refine (szWa _ p0 S0 MA0 MB0 E0 1048576 _ (H0.out.below hBw_1) (by decide) (by decide)).mono ?_
  rintro e wz0 ⟨r0, rfl, hr0, hN⟩
  have hBw_2 := below_more hBw_1 hN
  clear hBw_1
  have hkN := keep_of_below hN
  have bxa00' := hkN.cell bxa00 (fun h => h)
  clear bxa00
  have bxa00 := bxa00'
  clear bxa00'
  have bxa01' := hkN.cell bxa01 (fun h => h)
  clear bxa01
  have bxa01 := bxa01'
  clear bxa01'
  have bxa02' := hkN.cell bxa02 (fun h => h)
  clear bxa02
  have bxa02 := bxa02'
  clear bxa02'
  have bxa03' := hkN.cell bxa03 (fun h => h)
  clear bxa03
  have bxa03 := bxa03'
  clear bxa03'
  have bxa04' := hkN.cell bxa04 (fun h => h)
  clear bxa04
  have bxa04 := bxa04'
  clear bxa04'
  have lba0' := Nat.lt_of_lt_of_le lba0 hN.size
  clear lba0
  have lba0 := lba0'
  clear lba0'
  clear hkN
  have hzwz0 := hN.size
  clear hN
  rcases hr0 with hr0 | ⟨hr00, hrx0, hs0, ⟨hma0, hra0⟩, ⟨hmb0, hrb0⟩, hen0⟩
  · go_wp2_with (fail)
    go_ret
    exact ⟨rfl, hBw_2⟩
  have hS0 : S0.length ≤ 1048576 := by omega
  have hE0 : E0.length ≤ 1048576 := by omega
  have hMA0 : MA0.length ≤ 1048576 ∧ ∀ row ∈ MA0, row.length ≤ 1048576 := ⟨by omega, fun row hr => by have := hra0 row hr; omega⟩
  have htA0 := tot_rows MA0 1048576 hMA0.2
  have hlA0 := hMA0.1
  have hMB0 : MB0.length ≤ 1048576 ∧ ∀ row ∈ MB0, row.length ≤ 1048576 := ⟨by omega, fun row hr => by have := hrb0 row hr; omega⟩
  have htB0 := tot_rows MB0 1048576 hMB0.2
  have hlB0 := hMB0.1
  clear hra0 hrb0
  obtain ⟨RV0, hRV⟩ : ∃ RV, weightR p0 S0 MA0 MB0 E0 M1 = RV := ⟨_, rfl⟩
  have hqb : (RV0 != RV0) = false := by simp
  have HRV := Lib.hid hRV
  clear hRV
  go_wp2_with (fail)
  refine (toWa _ p0 S0 MA0 MB0 E0 _ (H0.out.below hBw_2) hS0 hMA0 hMB0 hE0).mono ?_
  rintro e ws0 ⟨_, rfl, hO, hN⟩
  obtain ⟨Aas0, cas0, Abs0, cbs0, Acs0, ccs0, Ads0, cds0, rfl⟩ := hO.shape
  have hBw_3 := below_more hBw_2 hN
  clear hBw_2
  have hkN := keep_of_below hN
  have bxa00' := hkN.cell bxa00 (fun h => h)
  clear bxa00
  have bxa00 := bxa00'
  clear bxa00'
  have bxa01' := hkN.cell bxa01 (fun h => h)
  clear bxa01
  have bxa01 := bxa01'
  clear bxa01'
  have bxa02' := hkN.cell bxa02 (fun h => h)
  clear bxa02
  have bxa02 := bxa02'
  clear bxa02'
  have bxa03' := hkN.cell bxa03 (fun h => h)
  clear bxa03
  have bxa03 := bxa03'
  clear bxa03'
  have bxa04' := hkN.cell bxa04 (fun h => h)
  clear bxa04
  have bxa04 := bxa04'
  clear bxa04'
  have lba0' := Nat.lt_of_lt_of_le lba0 hN.size
  clear lba0
  have lba0 := lba0'
  clear lba0'
  clear hkN
  have hzws0 := hN.size
  clear hN
  have HRs0 := Lib.hid hO.wv
  have HOs0 := Lib.hid hO
  clear hO
  have hBws0_4 := Below.refl ws0.heap.size ws0
  go_wp2_with (fail)
  refine (toIntS a1 len1 cap1 b1 o1 M1 _ (H1.out.below hBw_3) hn1).mono ?_
  rintro e ws1 ⟨As1, cs1, rfl, hO, hN⟩
  have hBw_5 := below_more hBw_3 hN
  clear hBw_3
  have hBws0_5 := below_more hBws0_4 hN
  clear hBws0_4
  have hkN := keep_of_below hN
  have bxa00' := hkN.cell bxa00 (fun h => h)
  clear bxa00
  have bxa00 := bxa00'
  clear bxa00'
  have bxa01' := hkN.cell bxa01 (fun h => h)
  clear bxa01
  have bxa01 := bxa01'
  clear bxa01'
  have bxa02' := hkN.cell bxa02 (fun h => h)
  clear bxa02
  have bxa02 := bxa02'
  clear bxa02'
  have bxa03' := hkN.cell bxa03 (fun h => h)
  clear bxa03
  have bxa03 := bxa03'
  clear bxa03'
  have bxa04' := hkN.cell bxa04 (fun h => h)
  clear bxa04
  have bxa04 := bxa04'
  clear bxa04'
  have lba0' := Nat.lt_of_lt_of_le lba0 hN.size
  clear lba0
  have lba0 := lba0'
  clear lba0'
  clear hkN
  have hzws1 := hN.size
  clear hN
  have HOs1 := Lib.hid hO
  obtain ⟨bs1, hRa⟩ := hO.ia
  have HRs1 := Lib.hid hRa
  clear hO hRa
  have hBws1_6 := Below.refl ws1.heap.size ws1
  go_wp2_with (fail)
  refine (specWeightOf _ p0 S0 MA0 MB0 E0 As1 len1 cs1 bs1 0 M1 _ (HRs0.out.below hBws0_5) (HRs1.out.below hBws1_6)).mono ?_
  rw [HRV.out]
  rintro e wb ⟨rfl, hN⟩
  have hBw_7 := below_more hBw_5 hN
  clear hBw_5
  have hBws0_7 := below_more hBws0_5 hN
  clear hBws0_5
  have hBws1_7 := below_more hBws1_6 hN
  clear hBws1_6
  have hkN := keep_of_below hN
  have bxa00' := hkN.cell bxa00 (fun h => h)
  clear bxa00
  have bxa00 := bxa00'
  clear bxa00'
  have bxa01' := hkN.cell bxa01 (fun h => h)
  clear bxa01
  have bxa01 := bxa01'
  clear bxa01'
  have bxa02' := hkN.cell bxa02 (fun h => h)
  clear bxa02
  have bxa02 := bxa02'
  clear bxa02'
  have bxa03' := hkN.cell bxa03 (fun h => h)
  clear bxa03
  have bxa03 := bxa03'
  clear bxa03'
  have bxa04' := hkN.cell bxa04 (fun h => h)
  clear bxa04
  have bxa04 := bxa04'
  clear bxa04'
  have lba0' := Nat.lt_of_lt_of_le lba0 hN.size
  clear lba0
  have lba0 := lba0'
  clear lba0'
  clear hkN
  have hzwb := hN.size
  clear hN
  have hBwb_8 := Below.refl wb.heap.size wb
  go_wp2_with (fail)
  refine (toWa _ p0 S0 MA0 MB0 E0 _ (H0.out.below hBw_7) hS0 hMA0 hMB0 hE0).mono ?_
  rintro e wx0 ⟨_, rfl, hO, hN⟩
  obtain ⟨Aax0, cax0, Abx0, cbx0, Acx0, ccx0, Adx0, cdx0, rfl⟩ := hO.shape
  have hBw_9 := below_more hBw_7 hN
  clear hBw_7
  have hBwb_9 := below_more hBwb_8 hN
  clear hBwb_8
  have hkN := keep_of_below hN
  have bxa00' := hkN.cell bxa00 (fun h => h)
  clear bxa00
  have bxa00 := bxa00'
  clear bxa00'
  have bxa01' := hkN.cell bxa01 (fun h => h)
  clear bxa01
  have bxa01 := bxa01'
  clear bxa01'
  have bxa02' := hkN.cell bxa02 (fun h => h)
  clear bxa02
  have bxa02 := bxa02'
  clear bxa02'
  have bxa03' := hkN.cell bxa03 (fun h => h)
  clear bxa03
  have bxa03 := bxa03'
  clear bxa03'
  have bxa04' := hkN.cell bxa04 (fun h => h)
  clear bxa04
  have bxa04 := bxa04'
  clear bxa04'
  have lba0' := Nat.lt_of_lt_of_le lba0 hN.size
  clear lba0
  have lba0 := lba0'
  clear lba0'
  clear hkN
  have hzwx0 := hN.size
  clear hN
  have HRx0 := Lib.hid hO.wv
  have HOx0 := Lib.hid hO
  clear hO
  have hBwx0_10 := Below.refl wx0.heap.size wx0
  go_wp2_with (fail)
  obtain ⟨wqx0, hQ⟩ : ∃ W, wx0.alloc (.cells #[.int .i64 p0, .slice Aax0 S0.length cax0, .slice Abx0 MA0.length cbx0, .slice Acx0 MB0.length ccx0, .slice Adx0 E0.length cdx0] 26) = W := ⟨_, rfl⟩
  rw [hQ]
  have hN : Below wx0.heap.size wx0 wqx0 := by rw [← hQ]; exact (Below.refl _ _).alloc (Nat.le_refl _) _
  obtain ⟨hn0, hn1, hn2, hn3, hn4⟩ := box5 wx0 (.int .i64 p0) (.slice Aax0 S0.length cax0) (.slice Abx0 MA0.length cbx0) (.slice Acx0 MB0.length ccx0) (.slice Adx0 E0.length cdx0) 26
  rw [hQ] at hn0 hn1 hn2 hn3 hn4
  have hnl : wx0.heap.size < wqx0.heap.size := cell_lt hn0
  have lcx0 := hnl
  clear hQ
  have hBw_11 := below_more hBw_9 hN
  clear hBw_9
  have hBwb_11 := below_more hBwb_9 hN
  clear hBwb_9
  have hBwx0_11 := below_more hBwx0_10 hN
  clear hBwx0_10
  have hkN := keep_of_below hN
  have bxa00' := hkN.cell bxa00 (fun h => h)
  clear bxa00
  have bxa00 := bxa00'
  clear bxa00'
  have bxa01' := hkN.cell bxa01 (fun h => h)
  clear bxa01
  have bxa01 := bxa01'
  clear bxa01'
  have bxa02' := hkN.cell bxa02 (fun h => h)
  clear bxa02
  have bxa02 := bxa02'
  clear bxa02'
  have bxa03' := hkN.cell bxa03 (fun h => h)
  clear bxa03
  have bxa03 := bxa03'
  clear bxa03'
  have bxa04' := hkN.cell bxa04 (fun h => h)
  clear bxa04
  have bxa04 := bxa04'
  clear bxa04'
  have lba0' := Nat.lt_of_lt_of_le lba0 hN.size
  clear lba0
  have lba0 := lba0'
  clear lba0'
  clear hkN
  have hzwqx0 := hN.size
  clear hN
  have bxx00 := hn0
  clear hn0
  have bxx01 := hn1
  clear hn1
  have bxx02 := hn2
  clear hn2
  have bxx03 := hn3
  clear hn3
  have bxx04 := hn4
  clear hn4
  have lbx0 := hnl
  clear hnl
  refine (toIntS a1 len1 cap1 b1 o1 M1 _ (H1.out.below hBw_11) hn1).mono ?_
  rintro e wx1 ⟨Ax1, cx1, rfl, hO, hN⟩
  have hBw_12 := below_more hBw_11 hN
  clear hBw_11
  have hBwb_12 := below_more hBwb_11 hN
  clear hBwb_11
  have hBwx0_12 := below_more hBwx0_11 hN
  clear hBwx0_11
  have hkN := keep_of_below hN
  have bxa00' := hkN.cell bxa00 (fun h => h)
  clear bxa00
  have bxa00 := bxa00'
  clear bxa00'
  have bxa01' := hkN.cell bxa01 (fun h => h)
  clear bxa01
  have bxa01 := bxa01'
  clear bxa01'
  have bxa02' := hkN.cell bxa02 (fun h => h)
  clear bxa02
  have bxa02 := bxa02'
  clear bxa02'
  have bxa03' := hkN.cell bxa03 (fun h => h)
  clear bxa03
  have bxa03 := bxa03'
  clear bxa03'
  have bxa04' := hkN.cell bxa04 (fun h => h)
  clear bxa04
  have bxa04 := bxa04'
  clear bxa04'
  have lba0' := Nat.lt_of_lt_of_le lba0 hN.size
  clear lba0
  have lba0 := lba0'
  clear lba0'
  have bxx00' := hkN.cell bxx00 (fun h => h)
  clear bxx00
  have bxx00 := bxx00'
  clear bxx00'
  have bxx01' := hkN.cell bxx01 (fun h => h)
  clear bxx01
  have bxx01 := bxx01'
  clear bxx01'
  have bxx02' := hkN.cell bxx02 (fun h => h)
  clear bxx02
  have bxx02 := bxx02'
  clear bxx02'
  have bxx03' := hkN.cell bxx03 (fun h => h)
  clear bxx03
  have bxx03 := bxx03'
  clear bxx03'
  have bxx04' := hkN.cell bxx04 (fun h => h)
  clear bxx04
  have bxx04 := bxx04'
  clear bxx04'
  have lbx0' := Nat.lt_of_lt_of_le lbx0 hN.size
  clear lbx0
  have lbx0 := lbx0'
  clear lbx0'
  clear hkN
  have hzwx1 := hN.size
  clear hN
  have HOx1 := Lib.hid hO
  obtain ⟨bx1, hRa⟩ := hO.ia
  have HRx1 := Lib.hid hRa
  clear hO hRa
  have hBwx1_13 := Below.refl wx1.heap.size wx1
  go_wp2_with (fail)
  refine (implWeightOf _ p0 S0 MA0 MB0 E0 Ax1 len1 cx1 bx1 0 M1 _ (HRx0.out.below hBwx0_12) (HRx1.out.below hBwx1_13)).mono ?_
  rw [HRV.out]
  rintro e wd ⟨rfl, hN⟩
  have hBw_14 := below_more hBw_12 hN
  clear hBw_12
  have hBwb_14 := below_more hBwb_12 hN
  clear hBwb_12
  have hBwx0_14 := below_more hBwx0_12 hN
  clear hBwx0_12
  have hBwx1_14 := below_more hBwx1_13 hN
  clear hBwx1_13
  have hkN := keep_of_below hN
  have bxa00' := hkN.cell bxa00 (fun h => h)
  clear bxa00
  have bxa00 := bxa00'
  clear bxa00'
  have bxa01' := hkN.cell bxa01 (fun h => h)
  clear bxa01
  have bxa01 := bxa01'
  clear bxa01'
  have bxa02' := hkN.cell bxa02 (fun h => h)
  clear bxa02
  have bxa02 := bxa02'
  clear bxa02'
  have bxa03' := hkN.cell bxa03 (fun h => h)
  clear bxa03
  have bxa03 := bxa03'
  clear bxa03'
  have bxa04' := hkN.cell bxa04 (fun h => h)
  clear bxa04
  have bxa04 := bxa04'
  clear bxa04'
  have lba0' := Nat.lt_of_lt_of_le lba0 hN.size
  clear lba0
  have lba0 := lba0'
  clear lba0'
  have bxx00' := hkN.cell bxx00 (fun h => h)
  clear bxx00
  have bxx00 := bxx00'
  clear bxx00'
  have bxx01' := hkN.cell bxx01 (fun h => h)
  clear bxx01
  have bxx01 := bxx01'
  clear bxx01'
  have bxx02' := hkN.cell bxx02 (fun h => h)
  clear bxx02
  have bxx02 := bxx02'
  clear bxx02'
  have bxx03' := hkN.cell bxx03 (fun h => h)
  clear bxx03
  have bxx03 := bxx03'
  clear bxx03'
  have bxx04' := hkN.cell bxx04 (fun h => h)
  clear bxx04
  have bxx04 := bxx04'
  clear bxx04'
  have lbx0' := Nat.lt_of_lt_of_le lbx0 hN.size
  clear lbx0
  have lbx0 := lbx0'
  clear lbx0'
  clear hkN
  have hzwd := hN.size
  clear hN
  go_wp2_with (fail)
  have cdx00 : wd.drew.cell? ⟨wx0.heap.size, 0, none⟩ = some (.int .i64 p0) := bxx00
  have cdx01 : wd.drew.cell? ⟨wx0.heap.size, 1, none⟩ = some (.slice Aax0 S0.length cax0) := bxx01
  have cdx02 : wd.drew.cell? ⟨wx0.heap.size, 2, none⟩ = some (.slice Abx0 MA0.length cbx0) := bxx02
  have cdx03 : wd.drew.cell? ⟨wx0.heap.size, 3, none⟩ = some (.slice Acx0 MB0.length ccx0) := bxx03
  have cdx04 : wd.drew.cell? ⟨wx0.heap.size, 4, none⟩ = some (.slice Adx0 E0.length cdx0) := bxx04
  have cda00 : wd.drew.cell? ⟨w.heap.size, 0, none⟩ = some (.int .i64 p0) := bxa00
  have cda01 : wd.drew.cell? ⟨w.heap.size, 1, none⟩ = some (.slice Aa0 na0 ca0) := bxa01
  have cda02 : wd.drew.cell? ⟨w.heap.size, 2, none⟩ = some (.slice Ab0 nb0 cb0) := bxa02
  have cda03 : wd.drew.cell? ⟨w.heap.size, 3, none⟩ = some (.slice Ac0 nc0 cc0) := bxa03
  have cda04 : wd.drew.cell? ⟨w.heap.size, 4, none⟩ = some (.slice Ad0 nd0 cd0) := bxa04
  have ZA : wd.cell? ⟨wx0.heap.size, 0, none⟩ = some (.int .i64 p0) ∧ wd.cell? ⟨wx0.heap.size, 1, none⟩ = some (.slice Aax0 S0.length cax0) ∧ wd.cell? ⟨wx0.heap.size, 2, none⟩ = some (.slice Abx0 MA0.length cbx0) ∧ wd.cell? ⟨wx0.heap.size, 3, none⟩ = some (.slice Acx0 MB0.length ccx0) ∧ wd.cell? ⟨wx0.heap.size, 4, none⟩ = some (.slice Adx0 E0.length cdx0) ∧ wd.cell? ⟨w.heap.size, 0, none⟩ = some (.int .i64 p0) ∧ wd.cell? ⟨w.heap.size, 1, none⟩ = some (.slice Aa0 na0 ca0) ∧ wd.cell? ⟨w.heap.size, 2, none⟩ = some (.slice Ab0 nb0 cb0) ∧ wd.cell? ⟨w.heap.size, 3, none⟩ = some (.slice Ac0 nc0 cc0) ∧ wd.cell? ⟨w.heap.size, 4, none⟩ = some (.slice Ad0 nd0 cd0) := ⟨bxx00, bxx01, bxx02, bxx03, bxx04, bxa00, bxa01, bxa02, bxa03, bxa04⟩
  have ZB : wd.drew.cell? ⟨wx0.heap.size, 0, none⟩ = some (.int .i64 p0) ∧ wd.drew.cell? ⟨wx0.heap.size, 1, none⟩ = some (.slice Aax0 S0.length cax0) ∧ wd.drew.cell? ⟨wx0.heap.size, 2, none⟩ = some (.slice Abx0 MA0.length cbx0) ∧ wd.drew.cell? ⟨wx0.heap.size, 3, none⟩ = some (.slice Acx0 MB0.length ccx0) ∧ wd.drew.cell? ⟨wx0.heap.size, 4, none⟩ = some (.slice Adx0 E0.length cdx0) ∧ wd.drew.cell? ⟨w.heap.size, 0, none⟩ = some (.int .i64 p0) ∧ wd.drew.cell? ⟨w.heap.size, 1, none⟩ = some (.slice Aa0 na0 ca0) ∧ wd.drew.cell? ⟨w.heap.size, 2, none⟩ = some (.slice Ab0 nb0 cb0) ∧ wd.drew.cell? ⟨w.heap.size, 3, none⟩ = some (.slice Ac0 nc0 cc0) ∧ wd.drew.cell? ⟨w.heap.size, 4, none⟩ = some (.slice Ad0 nd0 cd0) := ⟨cdx00, cdx01, cdx02, cdx03, cdx04, cda00, cda01, cda02, cda03, cda04⟩
  have hdr : Below wd.heap.size wd wd.drew := below_drawn (Below.refl _ _) ⟨1, rfl⟩
  have HBd := Lib.hid (below_more hBw_14 hdr)
  have HRxd := Lib.hid ((HRx0.out.below hBwx0_14).below hdr)
  have HDR := Lib.hid hdr
  clear hdr
  go_region_held3 (fun w' => w'.cell? ⟨wx0.heap.size, 0, none⟩ = some (.int .i64 p0) ∧ w'.cell? ⟨wx0.heap.size, 1, none⟩ = some (.slice Aax0 S0.length cax0) ∧ w'.cell? ⟨wx0.heap.size, 2, none⟩ = some (.slice Abx0 MA0.length cbx0) ∧ w'.cell? ⟨wx0.heap.size, 3, none⟩ = some (.slice Acx0 MB0.length ccx0) ∧ w'.cell? ⟨wx0.heap.size, 4, none⟩ = some (.slice Adx0 E0.length cdx0) ∧ w'.cell? ⟨w.heap.size, 0, none⟩ = some (.int .i64 p0) ∧ w'.cell? ⟨w.heap.size, 1, none⟩ = some (.slice Aa0 na0 ca0) ∧ w'.cell? ⟨w.heap.size, 2, none⟩ = some (.slice Ab0 nb0 cb0) ∧ w'.cell? ⟨w.heap.size, 3, none⟩ = some (.slice Ac0 nc0 cc0) ∧ w'.cell? ⟨w.heap.size, 4, none⟩ = some (.slice Ad0 nd0 cd0)) (first | assumption | exact ZD | exact ZC | exact ZB | exact ZA | go_keep) (first | (go_at_call 21; refine (toWa _ p0 S0 MA0 MB0 E0 _ (H0.out.below HBd.out) hS0 hMA0 hMB0 hE0).mono ?_; rintro e wf0 ⟨_, rfl, hO, hN⟩; obtain ⟨Aaf0, caf0, Abf0, cbf0, Acf0, ccf0, Adf0, cdf0, rfl⟩ := hO.shape; have HRf0 := Lib.hid hO.wv; have HRxe := Lib.hid (HRxd.out.below hN); have cex00 := (keep_of_below hN).cell cdx00 (fun h => h); have cex01 := (keep_of_below hN).cell cdx01 (fun h => h); have cex02 := (keep_of_below hN).cell cdx02 (fun h => h); have cex03 := (keep_of_below hN).cell cdx03 (fun h => h); have cex04 := (keep_of_below hN).cell cdx04 (fun h => h); have cea00 := (keep_of_below hN).cell cda00 (fun h => h); have cea01 := (keep_of_below hN).cell cda01 (fun h => h); have cea02 := (keep_of_below hN).cell cda02 (fun h => h); have cea03 := (keep_of_below hN).cell cda03 (fun h => h); have cea04 := (keep_of_below hN).cell cda04 (fun h => h); have ZC := And.intro cex00 (And.intro cex01 (And.intro cex02 (And.intro cex03 (And.intro cex04 (And.intro cea00 (And.intro cea01 (And.intro cea02 (And.intro cea03 cea04)))))))); have HNf := Lib.hid hN; clear hO hN) | (go_at_call 22; refine (eqWa _ p0 S0 MA0 MB0 E0 _ p0 S0 MA0 MB0 E0 _ HRxe.out HRf0.out).mono ?_; rintro e we15 ⟨rfl, hN⟩; rw [decide_eq_true (show p0 = p0 ∧ S0 = S0 ∧ MA0 = MA0 ∧ MB0 = MB0 ∧ E0 = E0 from ⟨rfl, rfl, rfl, rfl, rfl⟩)]; have cgx00 := (keep_of_below hN).cell cex00 (fun h => h); have cgx01 := (keep_of_below hN).cell cex01 (fun h => h); have cgx02 := (keep_of_below hN).cell cex02 (fun h => h); have cgx03 := (keep_of_below hN).cell cex03 (fun h => h); have cgx04 := (keep_of_below hN).cell cex04 (fun h => h); have cga00 := (keep_of_below hN).cell cea00 (fun h => h); have cga01 := (keep_of_below hN).cell cea01 (fun h => h); have cga02 := (keep_of_below hN).cell cea02 (fun h => h); have cga03 := (keep_of_below hN).cell cea03 (fun h => h); have cga04 := (keep_of_below hN).cell cea04 (fun h => h); have ZD := And.intro cgx00 (And.intro cgx01 (And.intro cgx02 (And.intro cgx03 (And.intro cgx04 (And.intro cga00 (And.intro cga01 (And.intro cga02 (And.intro cga03 cga04)))))))); have HNe := Lib.hid hN; clear hN))
  have hN : Below wd.heap.size wd we15 := below_more (below_more HDR.out HNf.out) HNe.out
  clear ZA ZB ZC ZD HBd HRxd HRxe HDR HNf HNe HRf0
  clear cdx00 cdx01 cdx02 cdx03 cdx04 cda00 cda01 cda02 cda03 cda04 cex00 cex01 cex02 cex03 cex04 cea00 cea01 cea02 cea03 cea04 cgx00 cgx01 cgx02 cgx03 cgx04 cga00 cga01 cga02 cga03 cga04
  have hBw_16 := below_more hBw_14 hN
  clear hBw_14
  have hBwb_16 := below_more hBwb_14 hN
  clear hBwb_14
  have hBwx0_16 := below_more hBwx0_14 hN
  clear hBwx0_14
  have hBwx1_16 := below_more hBwx1_14 hN
  clear hBwx1_14
  have hkN := keep_of_below hN
  have bxa00' := hkN.cell bxa00 (fun h => h)
  clear bxa00
  have bxa00 := bxa00'
  clear bxa00'
  have bxa01' := hkN.cell bxa01 (fun h => h)
  clear bxa01
  have bxa01 := bxa01'
  clear bxa01'
  have bxa02' := hkN.cell bxa02 (fun h => h)
  clear bxa02
  have bxa02 := bxa02'
  clear bxa02'
  have bxa03' := hkN.cell bxa03 (fun h => h)
  clear bxa03
  have bxa03 := bxa03'
  clear bxa03'
  have bxa04' := hkN.cell bxa04 (fun h => h)
  clear bxa04
  have bxa04 := bxa04'
  clear bxa04'
  have lba0' := Nat.lt_of_lt_of_le lba0 hN.size
  clear lba0
  have lba0 := lba0'
  clear lba0'
  have bxx00' := hkN.cell bxx00 (fun h => h)
  clear bxx00
  have bxx00 := bxx00'
  clear bxx00'
  have bxx01' := hkN.cell bxx01 (fun h => h)
  clear bxx01
  have bxx01 := bxx01'
  clear bxx01'
  have bxx02' := hkN.cell bxx02 (fun h => h)
  clear bxx02
  have bxx02 := bxx02'
  clear bxx02'
  have bxx03' := hkN.cell bxx03 (fun h => h)
  clear bxx03
  have bxx03 := bxx03'
  clear bxx03'
  have bxx04' := hkN.cell bxx04 (fun h => h)
  clear bxx04
  have bxx04 := bxx04'
  clear bxx04'
  have lbx0' := Nat.lt_of_lt_of_le lbx0 hN.size
  clear lbx0
  have lbx0 := lbx0'
  clear lbx0'
  clear hkN
  have hzwe15 := hN.size
  clear hN
  go_wp2_with (fail)
  refine (toIntS a1 len1 cap1 b1 o1 M1 _ (H1.out.below hBw_16) hn1).mono ?_
  rintro e wf1 ⟨Af1, cf1, rfl, hO, hN⟩
  have hBw_17 := below_more hBw_16 hN
  clear hBw_16
  have hBwb_17 := below_more hBwb_16 hN
  clear hBwb_16
  have hBwx0_17 := below_more hBwx0_16 hN
  clear hBwx0_16
  have hBwx1_17 := below_more hBwx1_16 hN
  clear hBwx1_16
  have hkN := keep_of_below hN
  have bxa00' := hkN.cell bxa00 (fun h => h)
  clear bxa00
  have bxa00 := bxa00'
  clear bxa00'
  have bxa01' := hkN.cell bxa01 (fun h => h)
  clear bxa01
  have bxa01 := bxa01'
  clear bxa01'
  have bxa02' := hkN.cell bxa02 (fun h => h)
  clear bxa02
  have bxa02 := bxa02'
  clear bxa02'
  have bxa03' := hkN.cell bxa03 (fun h => h)
  clear bxa03
  have bxa03 := bxa03'
  clear bxa03'
  have bxa04' := hkN.cell bxa04 (fun h => h)
  clear bxa04
  have bxa04 := bxa04'
  clear bxa04'
  have lba0' := Nat.lt_of_lt_of_le lba0 hN.size
  clear lba0
  have lba0 := lba0'
  clear lba0'
  have bxx00' := hkN.cell bxx00 (fun h => h)
  clear bxx00
  have bxx00 := bxx00'
  clear bxx00'
  have bxx01' := hkN.cell bxx01 (fun h => h)
  clear bxx01
  have bxx01 := bxx01'
  clear bxx01'
  have bxx02' := hkN.cell bxx02 (fun h => h)
  clear bxx02
  have bxx02 := bxx02'
  clear bxx02'
  have bxx03' := hkN.cell bxx03 (fun h => h)
  clear bxx03
  have bxx03 := bxx03'
  clear bxx03'
  have bxx04' := hkN.cell bxx04 (fun h => h)
  clear bxx04
  have bxx04 := bxx04'
  clear bxx04'
  have lbx0' := Nat.lt_of_lt_of_le lbx0 hN.size
  clear lbx0
  have lbx0 := lbx0'
  clear lbx0'
  clear hkN
  have hzwf1 := hN.size
  clear hN
  have HOf1 := Lib.hid hO
  obtain ⟨bf1, hRa⟩ := hO.ia
  have HRf1 := Lib.hid hRa
  clear hO hRa
  have hBwf1_18 := Below.refl wf1.heap.size wf1
  go_wp2_with (fail)
  refine (eqIntS Ax1 len1 cx1 bx1 0 M1 Af1 len1 cf1 bf1 0 M1 _ (HRx1.out.below hBwx1_17) (HRf1.out.below hBwf1_18)).mono ?_
  rintro e we19 ⟨rfl, hm⟩
  rw [decide_eq_true (rfl : M1 = M1)]
  have hN := below_drawn (Below.refl wf1.heap.size wf1) hm
  clear hm
  have hBw_20 := below_more hBw_17 hN
  clear hBw_17
  have hBwb_20 := below_more hBwb_17 hN
  clear hBwb_17
  have hBwx0_20 := below_more hBwx0_17 hN
  clear hBwx0_17
  have hBwx1_20 := below_more hBwx1_17 hN
  clear hBwx1_17
  have hBwf1_20 := below_more hBwf1_18 hN
  clear hBwf1_18
  have hkN := keep_of_below hN
  have bxa00' := hkN.cell bxa00 (fun h => h)
  clear bxa00
  have bxa00 := bxa00'
  clear bxa00'
  have bxa01' := hkN.cell bxa01 (fun h => h)
  clear bxa01
  have bxa01 := bxa01'
  clear bxa01'
  have bxa02' := hkN.cell bxa02 (fun h => h)
  clear bxa02
  have bxa02 := bxa02'
  clear bxa02'
  have bxa03' := hkN.cell bxa03 (fun h => h)
  clear bxa03
  have bxa03 := bxa03'
  clear bxa03'
  have bxa04' := hkN.cell bxa04 (fun h => h)
  clear bxa04
  have bxa04 := bxa04'
  clear bxa04'
  have lba0' := Nat.lt_of_lt_of_le lba0 hN.size
  clear lba0
  have lba0 := lba0'
  clear lba0'
  have bxx00' := hkN.cell bxx00 (fun h => h)
  clear bxx00
  have bxx00 := bxx00'
  clear bxx00'
  have bxx01' := hkN.cell bxx01 (fun h => h)
  clear bxx01
  have bxx01 := bxx01'
  clear bxx01'
  have bxx02' := hkN.cell bxx02 (fun h => h)
  clear bxx02
  have bxx02 := bxx02'
  clear bxx02'
  have bxx03' := hkN.cell bxx03 (fun h => h)
  clear bxx03
  have bxx03 := bxx03'
  clear bxx03'
  have bxx04' := hkN.cell bxx04 (fun h => h)
  clear bxx04
  have bxx04 := bxx04'
  clear bxx04'
  have lbx0' := Nat.lt_of_lt_of_le lbx0 hN.size
  clear lbx0
  have lbx0 := lbx0'
  clear lbx0'
  clear hkN
  have hzwe19 := hN.size
  clear hN
  go_wp2_with (fail)
  go_ret
  exact ⟨rfl, hBw_20⟩
end Go.Proofs.Ytegkmolffemkpaa

/-
  The walk of the exact law of WaBack.
-/
import Derived.Deep.RegionHeld3
import Derived.Test.YtegkmolffemkpaaWbd
namespace Go.Proofs.Ytegkmolffemkpaa
open Go.RowKit
set_option maxRecDepth 100000 in
set_option maxHeartbeats 16000000 in
set_option linter.unusedVariables false in
theorem walkFnExactWaBack (p0 : Int) (Aa0 : Option Addr) (na0 ca0 : Nat) (Ab0 : Option Addr) (nb0 cb0 : Nat) (Ac0 : Option Addr) (nc0 cc0 : Nat) (Ad0 : Option Addr) (nd0 cd0 : Nat) (S0 : List Int) (MA0 MB0 : List (List Int)) (E0 : List Int) (w : World) (w0 : WV w (.agg #[.int .i64 p0, .slice Aa0 na0 ca0, .slice Ab0 nb0 cb0, .slice Ac0 nc0 cc0, .slice Ad0 nd0 cd0]) p0 S0 MA0 MB0 E0) :
    Calls Try.prog 10 #[.agg #[.int .i64 p0, .slice Aa0 na0 ca0, .slice Ab0 nb0 cb0, .slice Ac0 nc0 cc0, .slice Ad0 nd0 cd0]] w fun e w' => e = .returned (.bool true) ∧ Below w.heap.size w w' := by
  have H0 := Lib.hid w0
  clear w0
  go_enter Try.func10, Try.ntmps10
  have hBw0 := Below.refl w.heap.size w
  go_wp2_with (fail)
  obtain ⟨wqa0, hQ⟩ : ∃ W, w.alloc (.cells #[.int .i64 p0, .slice Aa0 na0 ca0, .slice Ab0 nb0 cb0, .slice Ac0 nc0 cc0, .slice Ad0 nd0 cd0] 32) = W := ⟨_, rfl⟩
  rw [hQ]
  have hN : Below w.heap.size w wqa0 := by rw [← hQ]; exact (Below.refl _ _).alloc (Nat.le_refl _) _
  obtain ⟨hn0, hn1, hn2, hn3, hn4⟩ := box5 w (.int .i64 p0) (.slice Aa0 na0 ca0) (.slice Ab0 nb0 cb0) (.slice Ac0 nc0 cc0) (.slice Ad0 nd0 cd0) 32
  rw [hQ] at hn0 hn1 hn2 hn3 hn4
  have hnl : w.heap.size < wqa0.heap.size := cell_lt hn0
  have lca0 := hnl
  clear hQ
  have hBw_1 := below_more hBw0 hN
  clear hBw0
  have hzwqa0 := hN.size
  clear hN
  have bxa00 := hn0
  clear hn0
  have bxa01 := hn1
  clear hn1
  have bxa02 := hn2
  clear hn2
  have bxa03 := hn3
  clear hn3
  have bxa04 := hn4
  clear hn4
  have lba0 := hnl
  clear hnl
  refine (szWa _ p0 S0 MA0 MB0 E0 1048576 _ (H0.out.below hBw_1) (by decide) (by decide)).mono ?_
  rintro e wz0 ⟨r0, rfl, hr0, hN⟩
  have hBw_2 := below_more hBw_1 hN
  clear hBw_1
  have hkN := keep_of_below hN
  have bxa00' := hkN.cell bxa00 (fun h => h)
  clear bxa00
  have bxa00 := bxa00'
  clear bxa00'
  have bxa01' := hkN.cell bxa01 (fun h => h)
  clear bxa01
  have bxa01 := bxa01'
  clear bxa01'
  have bxa02' := hkN.cell bxa02 (fun h => h)
  clear bxa02
  have bxa02 := bxa02'
  clear bxa02'
  have bxa03' := hkN.cell bxa03 (fun h => h)
  clear bxa03
  have bxa03 := bxa03'
  clear bxa03'
  have bxa04' := hkN.cell bxa04 (fun h => h)
  clear bxa04
  have bxa04 := bxa04'
  clear bxa04'
  have lba0' := Nat.lt_of_lt_of_le lba0 hN.size
  clear lba0
  have lba0 := lba0'
  clear lba0'
  clear hkN
  have hzwz0 := hN.size
  clear hN
  rcases hr0 with hr0 | ⟨hr00, hrx0, hs0, ⟨hma0, hra0⟩, ⟨hmb0, hrb0⟩, hen0⟩
  · go_wp2_with (fail)
    go_ret
    exact ⟨rfl, hBw_2⟩
  have hS0 : S0.length ≤ 1048576 := by omega
  have hE0 : E0.length ≤ 1048576 := by omega
  have hMA0 : MA0.length ≤ 1048576 ∧ ∀ row ∈ MA0, row.length ≤ 1048576 := ⟨by omega, fun row hr => by have := hra0 row hr; omega⟩
  have htA0 := tot_rows MA0 1048576 hMA0.2
  have hlA0 := hMA0.1
  have hMB0 : MB0.length ≤ 1048576 ∧ ∀ row ∈ MB0, row.length ≤ 1048576 := ⟨by omega, fun row hr => by have := hrb0 row hr; omega⟩
  have htB0 := tot_rows MB0 1048576 hMB0.2
  have hlB0 := hMB0.1
  clear hra0 hrb0
  obtain ⟨RV0, hRV⟩ : ∃ RV, backR p0 S0 MA0 MB0 E0 = RV := ⟨_, rfl⟩
  have hbd := back_bd p0 S0 MA0 MB0 E0
  rw [hRV] at hbd
  obtain ⟨RP, hRP⟩ : ∃ RX, RV0.1 = RX := ⟨_, rfl⟩
  obtain ⟨RS, hRS⟩ : ∃ RX, RV0.2.1 = RX := ⟨_, rfl⟩
  obtain ⟨RA, hRA⟩ : ∃ RX, RV0.2.2.1 = RX := ⟨_, rfl⟩
  obtain ⟨RB, hRB⟩ : ∃ RX, RV0.2.2.2.1 = RX := ⟨_, rfl⟩
  obtain ⟨RE, hRE⟩ : ∃ RX, RV0.2.2.2.2 = RX := ⟨_, rfl⟩
  rw [hRS, hRA, hRB, hRE] at hbd
  obtain ⟨hb1, hb2, hb3, hb4⟩ := hbd
  have HRP := Lib.hid hRP
  clear hRP
  have HRS := Lib.hid hRS
  clear hRS
  have HRA := Lib.hid hRA
  clear hRA
  have HRB := Lib.hid hRB
  clear hRB
  have HRE := Lib.hid hRE
  clear hRE
  have HRV := Lib.hid hRV
  clear hRV
  go_wp2_with (fail)
  refine (toWa _ p0 S0 MA0 MB0 E0 _ (H0.out.below hBw_2) hS0 hMA0 hMB0 hE0).mono ?_
  rintro e ws0 ⟨_, rfl, hO, hN⟩
  obtain ⟨Aas0, cas0, Abs0, cbs0, Acs0, ccs0, Ads0, cds0, rfl⟩ := hO.shape
  have hBw_3 := below_more hBw_2 hN
  clear hBw_2
  have hkN := keep_of_below hN
  have bxa00' := hkN.cell bxa00 (fun h => h)
  clear bxa00
  have bxa00 := bxa00'
  clear bxa00'
  have bxa01' := hkN.cell bxa01 (fun h => h)
  clear bxa01
  have bxa01 := bxa01'
  clear bxa01'
  have bxa02' := hkN.cell bxa02 (fun h => h)
  clear bxa02
  have bxa02 := bxa02'
  clear bxa02'
  have bxa03' := hkN.cell bxa03 (fun h => h)
  clear bxa03
  have bxa03 := bxa03'
  clear bxa03'
  have bxa04' := hkN.cell bxa04 (fun h => h)
  clear bxa04
  have bxa04 := bxa04'
  clear bxa04'
  have lba0' := Nat.lt_of_lt_of_le lba0 hN.size
  clear lba0
  have lba0 := lba0'
  clear lba0'
  clear hkN
  have hzws0 := hN.size
  clear hN
  have HRs0 := Lib.hid hO.wv
  have HOs0 := Lib.hid hO
  clear hO
  have hBws0_4 := Below.refl ws0.heap.size ws0
  go_wp2_with (fail)
  refine (specWaBack _ p0 S0 MA0 MB0 E0 _ (HRs0.out.below hBws0_4)).mono ?_
  rw [HRV.out]
  rintro e wb ⟨Aas, nas, cas, Abs, nbs, cbs, Acs, ncs, ccs, Ads, nds, cds, rfl, hV, hN⟩
  rw [HRP.out, HRS.out, HRA.out, HRB.out, HRE.out] at hV
  rw [HRP.out]
  have hBw_5 := below_more hBw_3 hN
  clear hBw_3
  have hBws0_5 := below_more hBws0_4 hN
  clear hBws0_4
  have hkN := keep_of_below hN
  have bxa00' := hkN.cell bxa00 (fun h => h)
  clear bxa00
  have bxa00 := bxa00'
  clear bxa00'
  have bxa01' := hkN.cell bxa01 (fun h => h)
  clear bxa01
  have bxa01 := bxa01'
  clear bxa01'
  have bxa02' := hkN.cell bxa02 (fun h => h)
  clear bxa02
  have bxa02 := bxa02'
  clear bxa02'
  have bxa03' := hkN.cell bxa03 (fun h => h)
  clear bxa03
  have bxa03 := bxa03'
  clear bxa03'
  have bxa04' := hkN.cell bxa04 (fun h => h)
  clear bxa04
  have bxa04 := bxa04'
  clear bxa04'
  have lba0' := Nat.lt_of_lt_of_le lba0 hN.size
  clear lba0
  have lba0 := lba0'
  clear lba0'
  clear hkN
  have hzwb := hN.size
  clear hN
  have HRs := Lib.hid hV
  clear hV
  have hBwb_6 := Below.refl wb.heap.size wb
  go_wp2_with (fail)
  obtain ⟨wqs, hQ⟩ : ∃ W, wb.alloc (.cells #[.int .i64 RP, .slice Aas nas cas, .slice Abs nbs cbs, .slice Acs ncs ccs, .slice Ads nds cds] 26) = W := ⟨_, rfl⟩
  rw [hQ]
  have hN : Below wb.heap.size wb wqs := by rw [← hQ]; exact (Below.refl _ _).alloc (Nat.le_refl _) _
  obtain ⟨hn0, hn1, hn2, hn3, hn4⟩ := box5 wb (.int .i64 RP) (.slice Aas nas cas) (.slice Abs nbs cbs) (.slice Acs ncs ccs) (.slice Ads nds cds) 26
  rw [hQ] at hn0 hn1 hn2 hn3 hn4
  have hnl : wb.heap.size < wqs.heap.size := cell_lt hn0
  have lcs := hnl
  clear hQ
  have hBw_7 := below_more hBw_5 hN
  clear hBw_5
  have hBwb_7 := below_more hBwb_6 hN
  clear hBwb_6
  have hkN := keep_of_below hN
  have bxa00' := hkN.cell bxa00 (fun h => h)
  clear bxa00
  have bxa00 := bxa00'
  clear bxa00'
  have bxa01' := hkN.cell bxa01 (fun h => h)
  clear bxa01
  have bxa01 := bxa01'
  clear bxa01'
  have bxa02' := hkN.cell bxa02 (fun h => h)
  clear bxa02
  have bxa02 := bxa02'
  clear bxa02'
  have bxa03' := hkN.cell bxa03 (fun h => h)
  clear bxa03
  have bxa03 := bxa03'
  clear bxa03'
  have bxa04' := hkN.cell bxa04 (fun h => h)
  clear bxa04
  have bxa04 := bxa04'
  clear bxa04'
  have lba0' := Nat.lt_of_lt_of_le lba0 hN.size
  clear lba0
  have lba0 := lba0'
  clear lba0'
  clear hkN
  have hzwqs := hN.size
  clear hN
  have bxs0 := hn0
  clear hn0
  have bxs1 := hn1
  clear hn1
  have bxs2 := hn2
  clear hn2
  have bxs3 := hn3
  clear hn3
  have bxs4 := hn4
  clear hn4
  have lbs := hnl
  clear hnl
  refine (toWa _ p0 S0 MA0 MB0 E0 _ (H0.out.below hBw_7) hS0 hMA0 hMB0 hE0).mono ?_
  rintro e wx0 ⟨_, rfl, hO, hN⟩
  obtain ⟨Aax0, cax0, Abx0, cbx0, Acx0, ccx0, Adx0, cdx0, rfl⟩ := hO.shape
  have hBw_8 := below_more hBw_7 hN
  clear hBw_7
  have hBwb_8 := below_more hBwb_7 hN
  clear hBwb_7
  have hkN := keep_of_below hN
  have bxa00' := hkN.cell bxa00 (fun h => h)
  clear bxa00
  have bxa00 := bxa00'
  clear bxa00'
  have bxa01' := hkN.cell bxa01 (fun h => h)
  clear bxa01
  have bxa01 := bxa01'
  clear bxa01'
  have bxa02' := hkN.cell bxa02 (fun h => h)
  clear bxa02
  have bxa02 := bxa02'
  clear bxa02'
  have bxa03' := hkN.cell bxa03 (fun h => h)
  clear bxa03
  have bxa03 := bxa03'
  clear bxa03'
  have bxa04' := hkN.cell bxa04 (fun h => h)
  clear bxa04
  have bxa04 := bxa04'
  clear bxa04'
  have lba0' := Nat.lt_of_lt_of_le lba0 hN.size
  clear lba0
  have lba0 := lba0'
  clear lba0'
  have bxs0' := hkN.cell bxs0 (fun h => h)
  clear bxs0
  have bxs0 := bxs0'
  clear bxs0'
  have bxs1' := hkN.cell bxs1 (fun h => h)
  clear bxs1
  have bxs1 := bxs1'
  clear bxs1'
  have bxs2' := hkN.cell bxs2 (fun h => h)
  clear bxs2
  have bxs2 := bxs2'
  clear bxs2'
  have bxs3' := hkN.cell bxs3 (fun h => h)
  clear bxs3
  have bxs3 := bxs3'
  clear bxs3'
  have bxs4' := hkN.cell bxs4 (fun h => h)
  clear bxs4
  have bxs4 := bxs4'
  clear bxs4'
  have lbs' := Nat.lt_of_lt_of_le lbs hN.size
  clear lbs
  have lbs := lbs'
  clear lbs'
  clear hkN
  have hzwx0 := hN.size
  clear hN
  have HRx0 := Lib.hid hO.wv
  have HOx0 := Lib.hid hO
  clear hO
  have hBwx0_9 := Below.refl wx0.heap.size wx0
  go_wp2_with (fail)
  obtain ⟨wqx0, hQ⟩ : ∃ W, wx0.alloc (.cells #[.int .i64 p0, .slice Aax0 S0.length cax0, .slice Abx0 MA0.length cbx0, .slice Acx0 MB0.length ccx0, .slice Adx0 E0.length cdx0] 26) = W := ⟨_, rfl⟩
  rw [hQ]
  have hN : Below wx0.heap.size wx0 wqx0 := by rw [← hQ]; exact (Below.refl _ _).alloc (Nat.le_refl _) _
  obtain ⟨hn0, hn1, hn2, hn3, hn4⟩ := box5 wx0 (.int .i64 p0) (.slice Aax0 S0.length cax0) (.slice Abx0 MA0.length cbx0) (.slice Acx0 MB0.length ccx0) (.slice Adx0 E0.length cdx0) 26
  rw [hQ] at hn0 hn1 hn2 hn3 hn4
  have hnl : wx0.heap.size < wqx0.heap.size := cell_lt hn0
  have lcx0 := hnl
  clear hQ
  have hBw_10 := below_more hBw_8 hN
  clear hBw_8
  have hBwb_10 := below_more hBwb_8 hN
  clear hBwb_8
  have hBwx0_10 := below_more hBwx0_9 hN
  clear hBwx0_9
  have hkN := keep_of_below hN
  have bxa00' := hkN.cell bxa00 (fun h => h)
  clear bxa00
  have bxa00 := bxa00'
  clear bxa00'
  have bxa01' := hkN.cell bxa01 (fun h => h)
  clear bxa01
  have bxa01 := bxa01'
  clear bxa01'
  have bxa02' := hkN.cell bxa02 (fun h => h)
  clear bxa02
  have bxa02 := bxa02'
  clear bxa02'
  have bxa03' := hkN.cell bxa03 (fun h => h)
  clear bxa03
  have bxa03 := bxa03'
  clear bxa03'
  have bxa04' := hkN.cell bxa04 (fun h => h)
  clear bxa04
  have bxa04 := bxa04'
  clear bxa04'
  have lba0' := Nat.lt_of_lt_of_le lba0 hN.size
  clear lba0
  have lba0 := lba0'
  clear lba0'
  have bxs0' := hkN.cell bxs0 (fun h => h)
  clear bxs0
  have bxs0 := bxs0'
  clear bxs0'
  have bxs1' := hkN.cell bxs1 (fun h => h)
  clear bxs1
  have bxs1 := bxs1'
  clear bxs1'
  have bxs2' := hkN.cell bxs2 (fun h => h)
  clear bxs2
  have bxs2 := bxs2'
  clear bxs2'
  have bxs3' := hkN.cell bxs3 (fun h => h)
  clear bxs3
  have bxs3 := bxs3'
  clear bxs3'
  have bxs4' := hkN.cell bxs4 (fun h => h)
  clear bxs4
  have bxs4 := bxs4'
  clear bxs4'
  have lbs' := Nat.lt_of_lt_of_le lbs hN.size
  clear lbs
  have lbs := lbs'
  clear lbs'
  clear hkN
  have hzwqx0 := hN.size
  clear hN
  have bxx00 := hn0
  clear hn0
  have bxx01 := hn1
  clear hn1
  have bxx02 := hn2
  clear hn2
  have bxx03 := hn3
  clear hn3
  have bxx04 := hn4
  clear hn4
  have lbx0 := hnl
  clear hnl
  refine (implWaBack _ p0 S0 MA0 MB0 E0 _ (HRx0.out.below hBwx0_10)).mono ?_
  rw [HRV.out]
  rintro e wd ⟨_, rfl, hO, hN⟩
  rw [HRP.out, HRS.out, HRA.out, HRB.out, HRE.out] at hO
  obtain ⟨Aag, cag, Abg, cbg, Acg, ccg, Adg, cdg, rfl⟩ := hO.shape
  have hBw_11 := below_more hBw_10 hN
  clear hBw_10
  have hBwb_11 := below_more hBwb_10 hN
  clear hBwb_10
  have hBwx0_11 := below_more hBwx0_10 hN
  clear hBwx0_10
  have hkN := keep_of_below hN
  have bxa00' := hkN.cell bxa00 (fun h => h)
  clear bxa00
  have bxa00 := bxa00'
  clear bxa00'
  have bxa01' := hkN.cell bxa01 (fun h => h)
  clear bxa01
  have bxa01 := bxa01'
  clear bxa01'
  have bxa02' := hkN.cell bxa02 (fun h => h)
  clear bxa02
  have bxa02 := bxa02'
  clear bxa02'
  have bxa03' := hkN.cell bxa03 (fun h => h)
  clear bxa03
  have bxa03 := bxa03'
  clear bxa03'
  have bxa04' := hkN.cell bxa04 (fun h => h)
  clear bxa04
  have bxa04 := bxa04'
  clear bxa04'
  have lba0' := Nat.lt_of_lt_of_le lba0 hN.size
  clear lba0
  have lba0 := lba0'
  clear lba0'
  have bxs0' := hkN.cell bxs0 (fun h => h)
  clear bxs0
  have bxs0 := bxs0'
  clear bxs0'
  have bxs1' := hkN.cell bxs1 (fun h => h)
  clear bxs1
  have bxs1 := bxs1'
  clear bxs1'
  have bxs2' := hkN.cell bxs2 (fun h => h)
  clear bxs2
  have bxs2 := bxs2'
  clear bxs2'
  have bxs3' := hkN.cell bxs3 (fun h => h)
  clear bxs3
  have bxs3 := bxs3'
  clear bxs3'
  have bxs4' := hkN.cell bxs4 (fun h => h)
  clear bxs4
  have bxs4 := bxs4'
  clear bxs4'
  have lbs' := Nat.lt_of_lt_of_le lbs hN.size
  clear lbs
  have lbs := lbs'
  clear lbs'
  have bxx00' := hkN.cell bxx00 (fun h => h)
  clear bxx00
  have bxx00 := bxx00'
  clear bxx00'
  have bxx01' := hkN.cell bxx01 (fun h => h)
  clear bxx01
  have bxx01 := bxx01'
  clear bxx01'
  have bxx02' := hkN.cell bxx02 (fun h => h)
  clear bxx02
  have bxx02 := bxx02'
  clear bxx02'
  have bxx03' := hkN.cell bxx03 (fun h => h)
  clear bxx03
  have bxx03 := bxx03'
  clear bxx03'
  have bxx04' := hkN.cell bxx04 (fun h => h)
  clear bxx04
  have bxx04 := bxx04'
  clear bxx04'
  have lbx0' := Nat.lt_of_lt_of_le lbx0 hN.size
  clear lbx0
  have lbx0 := lbx0'
  clear lbx0'
  clear hkN
  have hzwd := hN.size
  clear hN
  have HRg := Lib.hid hO.wv
  have HOg := Lib.hid hO
  clear hO
  have hBwd_12 := Below.refl wd.heap.size wd
  go_wp2_with (fail)
  obtain ⟨wqg, hQ⟩ : ∃ W, wd.alloc (.cells #[.int .i64 RP, .slice Aag RS.length cag, .slice Abg RA.length cbg, .slice Acg RB.length ccg, .slice Adg RE.length cdg] 26) = W := ⟨_, rfl⟩
  rw [hQ]
  have hN : Below wd.heap.size wd wqg := by rw [← hQ]; exact (Below.refl _ _).alloc (Nat.le_refl _) _
  obtain ⟨hn0, hn1, hn2, hn3, hn4⟩ := box5 wd (.int .i64 RP) (.slice Aag RS.length cag) (.slice Abg RA.length cbg) (.slice Acg RB.length ccg) (.slice Adg RE.length cdg) 26
  rw [hQ] at hn0 hn1 hn2 hn3 hn4
  have hnl : wd.heap.size < wqg.heap.size := cell_lt hn0
  have lcg := hnl
  clear hQ
  have hBw_13 := below_more hBw_11 hN
  clear hBw_11
  have hBwb_13 := below_more hBwb_11 hN
  clear hBwb_11
  have hBwx0_13 := below_more hBwx0_11 hN
  clear hBwx0_11
  have hBwd_13 := below_more hBwd_12 hN
  clear hBwd_12
  have hkN := keep_of_below hN
  have bxa00' := hkN.cell bxa00 (fun h => h)
  clear bxa00
  have bxa00 := bxa00'
  clear bxa00'
  have bxa01' := hkN.cell bxa01 (fun h => h)
  clear bxa01
  have bxa01 := bxa01'
  clear bxa01'
  have bxa02' := hkN.cell bxa02 (fun h => h)
  clear bxa02
  have bxa02 := bxa02'
  clear bxa02'
  have bxa03' := hkN.cell bxa03 (fun h => h)
  clear bxa03
  have bxa03 := bxa03'
  clear bxa03'
  have bxa04' := hkN.cell bxa04 (fun h => h)
  clear bxa04
  have bxa04 := bxa04'
  clear bxa04'
  have lba0' := Nat.lt_of_lt_of_le lba0 hN.size
  clear lba0
  have lba0 := lba0'
  clear lba0'
  have bxs0' := hkN.cell bxs0 (fun h => h)
  clear bxs0
  have bxs0 := bxs0'
  clear bxs0'
  have bxs1' := hkN.cell bxs1 (fun h => h)
  clear bxs1
  have bxs1 := bxs1'
  clear bxs1'
  have bxs2' := hkN.cell bxs2 (fun h => h)
  clear bxs2
  have bxs2 := bxs2'
  clear bxs2'
  have bxs3' := hkN.cell bxs3 (fun h => h)
  clear bxs3
  have bxs3 := bxs3'
  clear bxs3'
  have bxs4' := hkN.cell bxs4 (fun h => h)
  clear bxs4
  have bxs4 := bxs4'
  clear bxs4'
  have lbs' := Nat.lt_of_lt_of_le lbs hN.size
  clear lbs
  have lbs := lbs'
  clear lbs'
  have bxx00' := hkN.cell bxx00 (fun h => h)
  clear bxx00
  have bxx00 := bxx00'
  clear bxx00'
  have bxx01' := hkN.cell bxx01 (fun h => h)
  clear bxx01
  have bxx01 := bxx01'
  clear bxx01'
  have bxx02' := hkN.cell bxx02 (fun h => h)
  clear bxx02
  have bxx02 := bxx02'
  clear bxx02'
  have bxx03' := hkN.cell bxx03 (fun h => h)
  clear bxx03
  have bxx03 := bxx03'
  clear bxx03'
  have bxx04' := hkN.cell bxx04 (fun h => h)
  clear bxx04
  have bxx04 := bxx04'
  clear bxx04'
  have lbx0' := Nat.lt_of_lt_of_le lbx0 hN.size
  clear lbx0
  have lbx0 := lbx0'
  clear lbx0'
  clear hkN
  have hzwqg := hN.size
  clear hN
  have bxg0 := hn0
  clear hn0
  have bxg1 := hn1
  clear hn1
  have bxg2 := hn2
  clear hn2
  have bxg3 := hn3
  clear hn3
  have bxg4 := hn4
  clear hn4
  have lbg := hnl
  clear hnl
  go_wp2_with (fail)
  refine (eqWa _ RP RS RA RB RE _ RP RS RA RB RE _ (HRg.out.below hBwd_13) (HRs.out.below hBwb_13)).mono ?_
  rintro e we14 ⟨rfl, hN⟩
  rw [decide_eq_true (show RP = RP ∧ RS = RS ∧ RA = RA ∧ RB = RB ∧ RE = RE from ⟨rfl, rfl, rfl, rfl, rfl⟩)]
  have hBw_15 := below_more hBw_13 hN
  clear hBw_13
  have hBwb_15 := below_more hBwb_13 hN
  clear hBwb_13
  have hBwx0_15 := below_more hBwx0_13 hN
  clear hBwx0_13
  have hBwd_15 := below_more hBwd_13 hN
  clear hBwd_13
  have hkN := keep_of_below hN
  have bxa00' := hkN.cell bxa00 (fun h => h)
  clear bxa00
  have bxa00 := bxa00'
  clear bxa00'
  have bxa01' := hkN.cell bxa01 (fun h => h)
  clear bxa01
  have bxa01 := bxa01'
  clear bxa01'
  have bxa02' := hkN.cell bxa02 (fun h => h)
  clear bxa02
  have bxa02 := bxa02'
  clear bxa02'
  have bxa03' := hkN.cell bxa03 (fun h => h)
  clear bxa03
  have bxa03 := bxa03'
  clear bxa03'
  have bxa04' := hkN.cell bxa04 (fun h => h)
  clear bxa04
  have bxa04 := bxa04'
  clear bxa04'
  have lba0' := Nat.lt_of_lt_of_le lba0 hN.size
  clear lba0
  have lba0 := lba0'
  clear lba0'
  have bxs0' := hkN.cell bxs0 (fun h => h)
  clear bxs0
  have bxs0 := bxs0'
  clear bxs0'
  have bxs1' := hkN.cell bxs1 (fun h => h)
  clear bxs1
  have bxs1 := bxs1'
  clear bxs1'
  have bxs2' := hkN.cell bxs2 (fun h => h)
  clear bxs2
  have bxs2 := bxs2'
  clear bxs2'
  have bxs3' := hkN.cell bxs3 (fun h => h)
  clear bxs3
  have bxs3 := bxs3'
  clear bxs3'
  have bxs4' := hkN.cell bxs4 (fun h => h)
  clear bxs4
  have bxs4 := bxs4'
  clear bxs4'
  have lbs' := Nat.lt_of_lt_of_le lbs hN.size
  clear lbs
  have lbs := lbs'
  clear lbs'
  have bxx00' := hkN.cell bxx00 (fun h => h)
  clear bxx00
  have bxx00 := bxx00'
  clear bxx00'
  have bxx01' := hkN.cell bxx01 (fun h => h)
  clear bxx01
  have bxx01 := bxx01'
  clear bxx01'
  have bxx02' := hkN.cell bxx02 (fun h => h)
  clear bxx02
  have bxx02 := bxx02'
  clear bxx02'
  have bxx03' := hkN.cell bxx03 (fun h => h)
  clear bxx03
  have bxx03 := bxx03'
  clear bxx03'
  have bxx04' := hkN.cell bxx04 (fun h => h)
  clear bxx04
  have bxx04 := bxx04'
  clear bxx04'
  have lbx0' := Nat.lt_of_lt_of_le lbx0 hN.size
  clear lbx0
  have lbx0 := lbx0'
  clear lbx0'
  have bxg0' := hkN.cell bxg0 (fun h => h)
  clear bxg0
  have bxg0 := bxg0'
  clear bxg0'
  have bxg1' := hkN.cell bxg1 (fun h => h)
  clear bxg1
  have bxg1 := bxg1'
  clear bxg1'
  have bxg2' := hkN.cell bxg2 (fun h => h)
  clear bxg2
  have bxg2 := bxg2'
  clear bxg2'
  have bxg3' := hkN.cell bxg3 (fun h => h)
  clear bxg3
  have bxg3 := bxg3'
  clear bxg3'
  have bxg4' := hkN.cell bxg4 (fun h => h)
  clear bxg4
  have bxg4 := bxg4'
  clear bxg4'
  have lbg' := Nat.lt_of_lt_of_le lbg hN.size
  clear lbg
  have lbg := lbg'
  clear lbg'
  clear hkN
  have hzwe14 := hN.size
  clear hN
  go_wp2_with (fail)
  have cdx00 : we14.drew.cell? ⟨wx0.heap.size, 0, none⟩ = some (.int .i64 p0) := bxx00
  have cdx01 : we14.drew.cell? ⟨wx0.heap.size, 1, none⟩ = some (.slice Aax0 S0.length cax0) := bxx01
  have cdx02 : we14.drew.cell? ⟨wx0.heap.size, 2, none⟩ = some (.slice Abx0 MA0.length cbx0) := bxx02
  have cdx03 : we14.drew.cell? ⟨wx0.heap.size, 3, none⟩ = some (.slice Acx0 MB0.length ccx0) := bxx03
  have cdx04 : we14.drew.cell? ⟨wx0.heap.size, 4, none⟩ = some (.slice Adx0 E0.length cdx0) := bxx04
  have cda00 : we14.drew.cell? ⟨w.heap.size, 0, none⟩ = some (.int .i64 p0) := bxa00
  have cda01 : we14.drew.cell? ⟨w.heap.size, 1, none⟩ = some (.slice Aa0 na0 ca0) := bxa01
  have cda02 : we14.drew.cell? ⟨w.heap.size, 2, none⟩ = some (.slice Ab0 nb0 cb0) := bxa02
  have cda03 : we14.drew.cell? ⟨w.heap.size, 3, none⟩ = some (.slice Ac0 nc0 cc0) := bxa03
  have cda04 : we14.drew.cell? ⟨w.heap.size, 4, none⟩ = some (.slice Ad0 nd0 cd0) := bxa04
  have ZA : we14.cell? ⟨wx0.heap.size, 0, none⟩ = some (.int .i64 p0) ∧ we14.cell? ⟨wx0.heap.size, 1, none⟩ = some (.slice Aax0 S0.length cax0) ∧ we14.cell? ⟨wx0.heap.size, 2, none⟩ = some (.slice Abx0 MA0.length cbx0) ∧ we14.cell? ⟨wx0.heap.size, 3, none⟩ = some (.slice Acx0 MB0.length ccx0) ∧ we14.cell? ⟨wx0.heap.size, 4, none⟩ = some (.slice Adx0 E0.length cdx0) ∧ we14.cell? ⟨w.heap.size, 0, none⟩ = some (.int .i64 p0) ∧ we14.cell? ⟨w.heap.size, 1, none⟩ = some (.slice Aa0 na0 ca0) ∧ we14.cell? ⟨w.heap.size, 2, none⟩ = some (.slice Ab0 nb0 cb0) ∧ we14.cell? ⟨w.heap.size, 3, none⟩ = some (.slice Ac0 nc0 cc0) ∧ we14.cell? ⟨w.heap.size, 4, none⟩ = some (.slice Ad0 nd0 cd0) := ⟨bxx00, bxx01, bxx02, bxx03, bxx04, bxa00, bxa01, bxa02, bxa03, bxa04⟩
  have ZB : we14.drew.cell? ⟨wx0.heap.size, 0, none⟩ = some (.int .i64 p0) ∧ we14.drew.cell? ⟨wx0.heap.size, 1, none⟩ = some (.slice Aax0 S0.length cax0) ∧ we14.drew.cell? ⟨wx0.heap.size, 2, none⟩ = some (.slice Abx0 MA0.length cbx0) ∧ we14.drew.cell? ⟨wx0.heap.size, 3, none⟩ = some (.slice Acx0 MB0.length ccx0) ∧ we14.drew.cell? ⟨wx0.heap.size, 4, none⟩ = some (.slice Adx0 E0.length cdx0) ∧ we14.drew.cell? ⟨w.heap.size, 0, none⟩ = some (.int .i64 p0) ∧ we14.drew.cell? ⟨w.heap.size, 1, none⟩ = some (.slice Aa0 na0 ca0) ∧ we14.drew.cell? ⟨w.heap.size, 2, none⟩ = some (.slice Ab0 nb0 cb0) ∧ we14.drew.cell? ⟨w.heap.size, 3, none⟩ = some (.slice Ac0 nc0 cc0) ∧ we14.drew.cell? ⟨w.heap.size, 4, none⟩ = some (.slice Ad0 nd0 cd0) := ⟨cdx00, cdx01, cdx02, cdx03, cdx04, cda00, cda01, cda02, cda03, cda04⟩
  have hdr : Below we14.heap.size we14 we14.drew := below_drawn (Below.refl _ _) ⟨1, rfl⟩
  have HBd := Lib.hid (below_more hBw_15 hdr)
  have HRxd := Lib.hid ((HRx0.out.below hBwx0_15).below hdr)
  have HDR := Lib.hid hdr
  clear hdr
  go_region_held3 (fun w' => w'.cell? ⟨wx0.heap.size, 0, none⟩ = some (.int .i64 p0) ∧ w'.cell? ⟨wx0.heap.size, 1, none⟩ = some (.slice Aax0 S0.length cax0) ∧ w'.cell? ⟨wx0.heap.size, 2, none⟩ = some (.slice Abx0 MA0.length cbx0) ∧ w'.cell? ⟨wx0.heap.size, 3, none⟩ = some (.slice Acx0 MB0.length ccx0) ∧ w'.cell? ⟨wx0.heap.size, 4, none⟩ = some (.slice Adx0 E0.length cdx0) ∧ w'.cell? ⟨w.heap.size, 0, none⟩ = some (.int .i64 p0) ∧ w'.cell? ⟨w.heap.size, 1, none⟩ = some (.slice Aa0 na0 ca0) ∧ w'.cell? ⟨w.heap.size, 2, none⟩ = some (.slice Ab0 nb0 cb0) ∧ w'.cell? ⟨w.heap.size, 3, none⟩ = some (.slice Ac0 nc0 cc0) ∧ w'.cell? ⟨w.heap.size, 4, none⟩ = some (.slice Ad0 nd0 cd0)) (first | assumption | exact ZD | exact ZC | exact ZB | exact ZA | go_keep) (first | (go_at_call 21; refine (toWa _ p0 S0 MA0 MB0 E0 _ (H0.out.below HBd.out) hS0 hMA0 hMB0 hE0).mono ?_; rintro e wf0 ⟨_, rfl, hO, hN⟩; obtain ⟨Aaf0, caf0, Abf0, cbf0, Acf0, ccf0, Adf0, cdf0, rfl⟩ := hO.shape; have HRf0 := Lib.hid hO.wv; have HRxe := Lib.hid (HRxd.out.below hN); have cex00 := (keep_of_below hN).cell cdx00 (fun h => h); have cex01 := (keep_of_below hN).cell cdx01 (fun h => h); have cex02 := (keep_of_below hN).cell cdx02 (fun h => h); have cex03 := (keep_of_below hN).cell cdx03 (fun h => h); have cex04 := (keep_of_below hN).cell cdx04 (fun h => h); have cea00 := (keep_of_below hN).cell cda00 (fun h => h); have cea01 := (keep_of_below hN).cell cda01 (fun h => h); have cea02 := (keep_of_below hN).cell cda02 (fun h => h); have cea03 := (keep_of_below hN).cell cda03 (fun h => h); have cea04 := (keep_of_below hN).cell cda04 (fun h => h); have ZC := And.intro cex00 (And.intro cex01 (And.intro cex02 (And.intro cex03 (And.intro cex04 (And.intro cea00 (And.intro cea01 (And.intro cea02 (And.intro cea03 cea04)))))))); have HNf := Lib.hid hN; clear hO hN) | (go_at_call 22; refine (eqWa _ p0 S0 MA0 MB0 E0 _ p0 S0 MA0 MB0 E0 _ HRxe.out HRf0.out).mono ?_; rintro e we16 ⟨rfl, hN⟩; rw [decide_eq_true (show p0 = p0 ∧ S0 = S0 ∧ MA0 = MA0 ∧ MB0 = MB0 ∧ E0 = E0 from ⟨rfl, rfl, rfl, rfl, rfl⟩)]; have cgx00 := (keep_of_below hN).cell cex00 (fun h => h); have cgx01 := (keep_of_below hN).cell cex01 (fun h => h); have cgx02 := (keep_of_below hN).cell cex02 (fun h => h); have cgx03 := (keep_of_below hN).cell cex03 (fun h => h); have cgx04 := (keep_of_below hN).cell cex04 (fun h => h); have cga00 := (keep_of_below hN).cell cea00 (fun h => h); have cga01 := (keep_of_below hN).cell cea01 (fun h => h); have cga02 := (keep_of_below hN).cell cea02 (fun h => h); have cga03 := (keep_of_below hN).cell cea03 (fun h => h); have cga04 := (keep_of_below hN).cell cea04 (fun h => h); have ZD := And.intro cgx00 (And.intro cgx01 (And.intro cgx02 (And.intro cgx03 (And.intro cgx04 (And.intro cga00 (And.intro cga01 (And.intro cga02 (And.intro cga03 cga04)))))))); have HNe := Lib.hid hN; clear hN))
  have hN : Below we14.heap.size we14 we16 := below_more (below_more HDR.out HNf.out) HNe.out
  clear ZA ZB ZC ZD HBd HRxd HRxe HDR HNf HNe HRf0
  clear cdx00 cdx01 cdx02 cdx03 cdx04 cda00 cda01 cda02 cda03 cda04 cex00 cex01 cex02 cex03 cex04 cea00 cea01 cea02 cea03 cea04 cgx00 cgx01 cgx02 cgx03 cgx04 cga00 cga01 cga02 cga03 cga04
  have hBw_17 := below_more hBw_15 hN
  clear hBw_15
  have hBwb_17 := below_more hBwb_15 hN
  clear hBwb_15
  have hBwx0_17 := below_more hBwx0_15 hN
  clear hBwx0_15
  have hBwd_17 := below_more hBwd_15 hN
  clear hBwd_15
  have hkN := keep_of_below hN
  have bxa00' := hkN.cell bxa00 (fun h => h)
  clear bxa00
  have bxa00 := bxa00'
  clear bxa00'
  have bxa01' := hkN.cell bxa01 (fun h => h)
  clear bxa01
  have bxa01 := bxa01'
  clear bxa01'
  have bxa02' := hkN.cell bxa02 (fun h => h)
  clear bxa02
  have bxa02 := bxa02'
  clear bxa02'
  have bxa03' := hkN.cell bxa03 (fun h => h)
  clear bxa03
  have bxa03 := bxa03'
  clear bxa03'
  have bxa04' := hkN.cell bxa04 (fun h => h)
  clear bxa04
  have bxa04 := bxa04'
  clear bxa04'
  have lba0' := Nat.lt_of_lt_of_le lba0 hN.size
  clear lba0
  have lba0 := lba0'
  clear lba0'
  have bxs0' := hkN.cell bxs0 (fun h => h)
  clear bxs0
  have bxs0 := bxs0'
  clear bxs0'
  have bxs1' := hkN.cell bxs1 (fun h => h)
  clear bxs1
  have bxs1 := bxs1'
  clear bxs1'
  have bxs2' := hkN.cell bxs2 (fun h => h)
  clear bxs2
  have bxs2 := bxs2'
  clear bxs2'
  have bxs3' := hkN.cell bxs3 (fun h => h)
  clear bxs3
  have bxs3 := bxs3'
  clear bxs3'
  have bxs4' := hkN.cell bxs4 (fun h => h)
  clear bxs4
  have bxs4 := bxs4'
  clear bxs4'
  have lbs' := Nat.lt_of_lt_of_le lbs hN.size
  clear lbs
  have lbs := lbs'
  clear lbs'
  have bxx00' := hkN.cell bxx00 (fun h => h)
  clear bxx00
  have bxx00 := bxx00'
  clear bxx00'
  have bxx01' := hkN.cell bxx01 (fun h => h)
  clear bxx01
  have bxx01 := bxx01'
  clear bxx01'
  have bxx02' := hkN.cell bxx02 (fun h => h)
  clear bxx02
  have bxx02 := bxx02'
  clear bxx02'
  have bxx03' := hkN.cell bxx03 (fun h => h)
  clear bxx03
  have bxx03 := bxx03'
  clear bxx03'
  have bxx04' := hkN.cell bxx04 (fun h => h)
  clear bxx04
  have bxx04 := bxx04'
  clear bxx04'
  have lbx0' := Nat.lt_of_lt_of_le lbx0 hN.size
  clear lbx0
  have lbx0 := lbx0'
  clear lbx0'
  have bxg0' := hkN.cell bxg0 (fun h => h)
  clear bxg0
  have bxg0 := bxg0'
  clear bxg0'
  have bxg1' := hkN.cell bxg1 (fun h => h)
  clear bxg1
  have bxg1 := bxg1'
  clear bxg1'
  have bxg2' := hkN.cell bxg2 (fun h => h)
  clear bxg2
  have bxg2 := bxg2'
  clear bxg2'
  have bxg3' := hkN.cell bxg3 (fun h => h)
  clear bxg3
  have bxg3 := bxg3'
  clear bxg3'
  have bxg4' := hkN.cell bxg4 (fun h => h)
  clear bxg4
  have bxg4 := bxg4'
  clear bxg4'
  have lbg' := Nat.lt_of_lt_of_le lbg hN.size
  clear lbg
  have lbg := lbg'
  clear lbg'
  clear hkN
  have hzwe16 := hN.size
  clear hN
  go_wp2_with (fail)
  have hown := HOx0.out.below hBwx0_17
  refine (markWa _ _ _ p0 S0 MA0 MB0 E0 (1) _ hown (by omega) (by omega)).mono ?_
  rintro e wm0 ⟨rfl, _, hK⟩
  clear hown
  have hzzwm0 := hK.size
  have hX := hK.below (B := wb.heap.size) (by have h1 := (hBwb_17).size; omega) (fun k hk => by have h1 := hk.1; omega)
  have hBwb_18 := (hBwb_17).trans hX
  have hBw_18 := (hBw_17).trans (hX.mono (by omega))
  have bxa00' := hK.cell bxa00 (fun h => by have h1 := h.1; have h2 := h.2; simp only at h1 h2; omega)
  clear bxa00
  have bxa00 := bxa00'
  clear bxa00'
  have bxa01' := hK.cell bxa01 (fun h => by have h1 := h.1; have h2 := h.2; simp only at h1 h2; omega)
  clear bxa01
  have bxa01 := bxa01'
  clear bxa01'
  have bxa02' := hK.cell bxa02 (fun h => by have h1 := h.1; have h2 := h.2; simp only at h1 h2; omega)
  clear bxa02
  have bxa02 := bxa02'
  clear bxa02'
  have bxa03' := hK.cell bxa03 (fun h => by have h1 := h.1; have h2 := h.2; simp only at h1 h2; omega)
  clear bxa03
  have bxa03 := bxa03'
  clear bxa03'
  have bxa04' := hK.cell bxa04 (fun h => by have h1 := h.1; have h2 := h.2; simp only at h1 h2; omega)
  clear bxa04
  have bxa04 := bxa04'
  clear bxa04'
  have lba0' := Nat.lt_of_lt_of_le lba0 hK.size
  clear lba0
  have lba0 := lba0'
  clear lba0'
  have bxs0' := hK.cell bxs0 (fun h => by have h1 := h.1; have h2 := h.2; simp only at h1 h2; omega)
  clear bxs0
  have bxs0 := bxs0'
  clear bxs0'
  have bxs1' := hK.cell bxs1 (fun h => by have h1 := h.1; have h2 := h.2; simp only at h1 h2; omega)
  clear bxs1
  have bxs1 := bxs1'
  clear bxs1'
  have bxs2' := hK.cell bxs2 (fun h => by have h1 := h.1; have h2 := h.2; simp only at h1 h2; omega)
  clear bxs2
  have bxs2 := bxs2'
  clear bxs2'
  have bxs3' := hK.cell bxs3 (fun h => by have h1 := h.1; have h2 := h.2; simp only at h1 h2; omega)
  clear bxs3
  have bxs3 := bxs3'
  clear bxs3'
  have bxs4' := hK.cell bxs4 (fun h => by have h1 := h.1; have h2 := h.2; simp only at h1 h2; omega)
  clear bxs4
  have bxs4 := bxs4'
  clear bxs4'
  have lbs' := Nat.lt_of_lt_of_le lbs hK.size
  clear lbs
  have lbs := lbs'
  clear lbs'
  have bxx00' := hK.cell bxx00 (fun h => by have h1 := h.1; have h2 := h.2; simp only at h1 h2; omega)
  clear bxx00
  have bxx00 := bxx00'
  clear bxx00'
  have bxx01' := hK.cell bxx01 (fun h => by have h1 := h.1; have h2 := h.2; simp only at h1 h2; omega)
  clear bxx01
  have bxx01 := bxx01'
  clear bxx01'
  have bxx02' := hK.cell bxx02 (fun h => by have h1 := h.1; have h2 := h.2; simp only at h1 h2; omega)
  clear bxx02
  have bxx02 := bxx02'
  clear bxx02'
  have bxx03' := hK.cell bxx03 (fun h => by have h1 := h.1; have h2 := h.2; simp only at h1 h2; omega)
  clear bxx03
  have bxx03 := bxx03'
  clear bxx03'
  have bxx04' := hK.cell bxx04 (fun h => by have h1 := h.1; have h2 := h.2; simp only at h1 h2; omega)
  clear bxx04
  have bxx04 := bxx04'
  clear bxx04'
  have lbx0' := Nat.lt_of_lt_of_le lbx0 hK.size
  clear lbx0
  have lbx0 := lbx0'
  clear lbx0'
  have bxg0' := hK.cell bxg0 (fun h => by have h1 := h.1; have h2 := h.2; simp only at h1 h2; omega)
  clear bxg0
  have bxg0 := bxg0'
  clear bxg0'
  have bxg1' := hK.cell bxg1 (fun h => by have h1 := h.1; have h2 := h.2; simp only at h1 h2; omega)
  clear bxg1
  have bxg1 := bxg1'
  clear bxg1'
  have bxg2' := hK.cell bxg2 (fun h => by have h1 := h.1; have h2 := h.2; simp only at h1 h2; omega)
  clear bxg2
  have bxg2 := bxg2'
  clear bxg2'
  have bxg3' := hK.cell bxg3 (fun h => by have h1 := h.1; have h2 := h.2; simp only at h1 h2; omega)
  clear bxg3
  have bxg3 := bxg3'
  clear bxg3'
  have bxg4' := hK.cell bxg4 (fun h => by have h1 := h.1; have h2 := h.2; simp only at h1 h2; omega)
  clear bxg4
  have bxg4 := bxg4'
  clear bxg4'
  have lbg' := Nat.lt_of_lt_of_le lbg hK.size
  clear lbg
  have lbg := lbg'
  clear lbg'
  have hOg := (HOg.out.below hBwd_17).keep hK (fun g hg1 hg2 hs => by have h1 := hs.1; have h2 := hs.2; omega)
  clear HOg HRg
  have HOg := Lib.hid hOg
  have HRg := Lib.hid hOg.wv
  clear hOg
  clear hK hX
  have hBwd_19 := Below.refl wm0.heap.size wm0
  have hpos : 0 ≤ 1 + (S0.length : Int) + (tot MA0 : Int) + (tot MB0 : Int) + (E0.length : Int) := by omega
  go_wp2_with (fail)
  go_wp2_with (fail)
  refine (eqWa _ RP RS RA RB RE _ RP RS RA RB RE _ (HRg.out.below hBwd_19) (HRs.out.below hBwb_18)).mono ?_
  rintro e we20 ⟨rfl, hN⟩
  rw [decide_eq_true (show RP = RP ∧ RS = RS ∧ RA = RA ∧ RB = RB ∧ RE = RE from ⟨rfl, rfl, rfl, rfl, rfl⟩)]
  have hBw_21 := below_more hBw_18 hN
  clear hBw_18
  have hBwb_21 := below_more hBwb_18 hN
  clear hBwb_18
  have hBwd_21 := below_more hBwd_19 hN
  clear hBwd_19
  have hkN := keep_of_below hN
  have bxa00' := hkN.cell bxa00 (fun h => h)
  clear bxa00
  have bxa00 := bxa00'
  clear bxa00'
  have bxa01' := hkN.cell bxa01 (fun h => h)
  clear bxa01
  have bxa01 := bxa01'
  clear bxa01'
  have bxa02' := hkN.cell bxa02 (fun h => h)
  clear bxa02
  have bxa02 := bxa02'
  clear bxa02'
  have bxa03' := hkN.cell bxa03 (fun h => h)
  clear bxa03
  have bxa03 := bxa03'
  clear bxa03'
  have bxa04' := hkN.cell bxa04 (fun h => h)
  clear bxa04
  have bxa04 := bxa04'
  clear bxa04'
  have lba0' := Nat.lt_of_lt_of_le lba0 hN.size
  clear lba0
  have lba0 := lba0'
  clear lba0'
  have bxs0' := hkN.cell bxs0 (fun h => h)
  clear bxs0
  have bxs0 := bxs0'
  clear bxs0'
  have bxs1' := hkN.cell bxs1 (fun h => h)
  clear bxs1
  have bxs1 := bxs1'
  clear bxs1'
  have bxs2' := hkN.cell bxs2 (fun h => h)
  clear bxs2
  have bxs2 := bxs2'
  clear bxs2'
  have bxs3' := hkN.cell bxs3 (fun h => h)
  clear bxs3
  have bxs3 := bxs3'
  clear bxs3'
  have bxs4' := hkN.cell bxs4 (fun h => h)
  clear bxs4
  have bxs4 := bxs4'
  clear bxs4'
  have lbs' := Nat.lt_of_lt_of_le lbs hN.size
  clear lbs
  have lbs := lbs'
  clear lbs'
  have bxx00' := hkN.cell bxx00 (fun h => h)
  clear bxx00
  have bxx00 := bxx00'
  clear bxx00'
  have bxx01' := hkN.cell bxx01 (fun h => h)
  clear bxx01
  have bxx01 := bxx01'
  clear bxx01'
  have bxx02' := hkN.cell bxx02 (fun h => h)
  clear bxx02
  have bxx02 := bxx02'
  clear bxx02'
  have bxx03' := hkN.cell bxx03 (fun h => h)
  clear bxx03
  have bxx03 := bxx03'
  clear bxx03'
  have bxx04' := hkN.cell bxx04 (fun h => h)
  clear bxx04
  have bxx04 := bxx04'
  clear bxx04'
  have lbx0' := Nat.lt_of_lt_of_le lbx0 hN.size
  clear lbx0
  have lbx0 := lbx0'
  clear lbx0'
  have bxg0' := hkN.cell bxg0 (fun h => h)
  clear bxg0
  have bxg0 := bxg0'
  clear bxg0'
  have bxg1' := hkN.cell bxg1 (fun h => h)
  clear bxg1
  have bxg1 := bxg1'
  clear bxg1'
  have bxg2' := hkN.cell bxg2 (fun h => h)
  clear bxg2
  have bxg2 := bxg2'
  clear bxg2'
  have bxg3' := hkN.cell bxg3 (fun h => h)
  clear bxg3
  have bxg3 := bxg3'
  clear bxg3'
  have bxg4' := hkN.cell bxg4 (fun h => h)
  clear bxg4
  have bxg4 := bxg4'
  clear bxg4'
  have lbg' := Nat.lt_of_lt_of_le lbg hN.size
  clear lbg
  have lbg := lbg'
  clear lbg'
  clear hkN
  have hzwe20 := hN.size
  clear hN
  go_wp2_with (fail)
  refine (markWa _ _ _ RP RS RA RB RE 1 _ (HOg.out.below hBwd_21) (by omega) (by omega)).mono ?_
  rintro e wj ⟨rfl, hO, hK⟩
  have hzzwj := hK.size
  have hX := hK.below (B := wb.heap.size) (by have h1 := (hBwb_21).size; omega) (fun k hk => by have h1 := hk.1; omega)
  have hBwb_22 := (hBwb_21).trans hX
  have hBw_22 := (hBw_21).trans (hX.mono (by omega))
  have bxa00' := hK.cell bxa00 (fun h => by have h1 := h.1; have h2 := h.2; simp only at h1 h2; omega)
  clear bxa00
  have bxa00 := bxa00'
  clear bxa00'
  have bxa01' := hK.cell bxa01 (fun h => by have h1 := h.1; have h2 := h.2; simp only at h1 h2; omega)
  clear bxa01
  have bxa01 := bxa01'
  clear bxa01'
  have bxa02' := hK.cell bxa02 (fun h => by have h1 := h.1; have h2 := h.2; simp only at h1 h2; omega)
  clear bxa02
  have bxa02 := bxa02'
  clear bxa02'
  have bxa03' := hK.cell bxa03 (fun h => by have h1 := h.1; have h2 := h.2; simp only at h1 h2; omega)
  clear bxa03
  have bxa03 := bxa03'
  clear bxa03'
  have bxa04' := hK.cell bxa04 (fun h => by have h1 := h.1; have h2 := h.2; simp only at h1 h2; omega)
  clear bxa04
  have bxa04 := bxa04'
  clear bxa04'
  have lba0' := Nat.lt_of_lt_of_le lba0 hK.size
  clear lba0
  have lba0 := lba0'
  clear lba0'
  have bxs0' := hK.cell bxs0 (fun h => by have h1 := h.1; have h2 := h.2; simp only at h1 h2; omega)
  clear bxs0
  have bxs0 := bxs0'
  clear bxs0'
  have bxs1' := hK.cell bxs1 (fun h => by have h1 := h.1; have h2 := h.2; simp only at h1 h2; omega)
  clear bxs1
  have bxs1 := bxs1'
  clear bxs1'
  have bxs2' := hK.cell bxs2 (fun h => by have h1 := h.1; have h2 := h.2; simp only at h1 h2; omega)
  clear bxs2
  have bxs2 := bxs2'
  clear bxs2'
  have bxs3' := hK.cell bxs3 (fun h => by have h1 := h.1; have h2 := h.2; simp only at h1 h2; omega)
  clear bxs3
  have bxs3 := bxs3'
  clear bxs3'
  have bxs4' := hK.cell bxs4 (fun h => by have h1 := h.1; have h2 := h.2; simp only at h1 h2; omega)
  clear bxs4
  have bxs4 := bxs4'
  clear bxs4'
  have lbs' := Nat.lt_of_lt_of_le lbs hK.size
  clear lbs
  have lbs := lbs'
  clear lbs'
  have bxx00' := hK.cell bxx00 (fun h => by have h1 := h.1; have h2 := h.2; simp only at h1 h2; omega)
  clear bxx00
  have bxx00 := bxx00'
  clear bxx00'
  have bxx01' := hK.cell bxx01 (fun h => by have h1 := h.1; have h2 := h.2; simp only at h1 h2; omega)
  clear bxx01
  have bxx01 := bxx01'
  clear bxx01'
  have bxx02' := hK.cell bxx02 (fun h => by have h1 := h.1; have h2 := h.2; simp only at h1 h2; omega)
  clear bxx02
  have bxx02 := bxx02'
  clear bxx02'
  have bxx03' := hK.cell bxx03 (fun h => by have h1 := h.1; have h2 := h.2; simp only at h1 h2; omega)
  clear bxx03
  have bxx03 := bxx03'
  clear bxx03'
  have bxx04' := hK.cell bxx04 (fun h => by have h1 := h.1; have h2 := h.2; simp only at h1 h2; omega)
  clear bxx04
  have bxx04 := bxx04'
  clear bxx04'
  have lbx0' := Nat.lt_of_lt_of_le lbx0 hK.size
  clear lbx0
  have lbx0 := lbx0'
  clear lbx0'
  have bxg0' := hK.cell bxg0 (fun h => by have h1 := h.1; have h2 := h.2; simp only at h1 h2; omega)
  clear bxg0
  have bxg0 := bxg0'
  clear bxg0'
  have bxg1' := hK.cell bxg1 (fun h => by have h1 := h.1; have h2 := h.2; simp only at h1 h2; omega)
  clear bxg1
  have bxg1 := bxg1'
  clear bxg1'
  have bxg2' := hK.cell bxg2 (fun h => by have h1 := h.1; have h2 := h.2; simp only at h1 h2; omega)
  clear bxg2
  have bxg2 := bxg2'
  clear bxg2'
  have bxg3' := hK.cell bxg3 (fun h => by have h1 := h.1; have h2 := h.2; simp only at h1 h2; omega)
  clear bxg3
  have bxg3 := bxg3'
  clear bxg3'
  have bxg4' := hK.cell bxg4 (fun h => by have h1 := h.1; have h2 := h.2; simp only at h1 h2; omega)
  clear bxg4
  have bxg4 := bxg4'
  clear bxg4'
  have lbg' := Nat.lt_of_lt_of_le lbg hK.size
  clear lbg
  have lbg := lbg'
  clear lbg'
  have HRj := Lib.hid hO.wv
  clear hO hK hX
  have hBwj_23 := Below.refl wj.heap.size wj
  go_wp2_with (fail)
  refine (heldWa _ RP 1 RS RA RB RE _ (HRj.out.below hBwj_23) (by omega) (by omega)).mono ?_
  rintro e wh1 ⟨rfl, hN⟩
  have hBw_24 := below_more hBw_22 hN
  clear hBw_22
  have hBwb_24 := below_more hBwb_22 hN
  clear hBwb_22
  have hBwj_24 := below_more hBwj_23 hN
  clear hBwj_23
  have hkN := keep_of_below hN
  have bxa00' := hkN.cell bxa00 (fun h => h)
  clear bxa00
  have bxa00 := bxa00'
  clear bxa00'
  have bxa01' := hkN.cell bxa01 (fun h => h)
  clear bxa01
  have bxa01 := bxa01'
  clear bxa01'
  have bxa02' := hkN.cell bxa02 (fun h => h)
  clear bxa02
  have bxa02 := bxa02'
  clear bxa02'
  have bxa03' := hkN.cell bxa03 (fun h => h)
  clear bxa03
  have bxa03 := bxa03'
  clear bxa03'
  have bxa04' := hkN.cell bxa04 (fun h => h)
  clear bxa04
  have bxa04 := bxa04'
  clear bxa04'
  have lba0' := Nat.lt_of_lt_of_le lba0 hN.size
  clear lba0
  have lba0 := lba0'
  clear lba0'
  have bxs0' := hkN.cell bxs0 (fun h => h)
  clear bxs0
  have bxs0 := bxs0'
  clear bxs0'
  have bxs1' := hkN.cell bxs1 (fun h => h)
  clear bxs1
  have bxs1 := bxs1'
  clear bxs1'
  have bxs2' := hkN.cell bxs2 (fun h => h)
  clear bxs2
  have bxs2 := bxs2'
  clear bxs2'
  have bxs3' := hkN.cell bxs3 (fun h => h)
  clear bxs3
  have bxs3 := bxs3'
  clear bxs3'
  have bxs4' := hkN.cell bxs4 (fun h => h)
  clear bxs4
  have bxs4 := bxs4'
  clear bxs4'
  have lbs' := Nat.lt_of_lt_of_le lbs hN.size
  clear lbs
  have lbs := lbs'
  clear lbs'
  have bxx00' := hkN.cell bxx00 (fun h => h)
  clear bxx00
  have bxx00 := bxx00'
  clear bxx00'
  have bxx01' := hkN.cell bxx01 (fun h => h)
  clear bxx01
  have bxx01 := bxx01'
  clear bxx01'
  have bxx02' := hkN.cell bxx02 (fun h => h)
  clear bxx02
  have bxx02 := bxx02'
  clear bxx02'
  have bxx03' := hkN.cell bxx03 (fun h => h)
  clear bxx03
  have bxx03 := bxx03'
  clear bxx03'
  have bxx04' := hkN.cell bxx04 (fun h => h)
  clear bxx04
  have bxx04 := bxx04'
  clear bxx04'
  have lbx0' := Nat.lt_of_lt_of_le lbx0 hN.size
  clear lbx0
  have lbx0 := lbx0'
  clear lbx0'
  have bxg0' := hkN.cell bxg0 (fun h => h)
  clear bxg0
  have bxg0 := bxg0'
  clear bxg0'
  have bxg1' := hkN.cell bxg1 (fun h => h)
  clear bxg1
  have bxg1 := bxg1'
  clear bxg1'
  have bxg2' := hkN.cell bxg2 (fun h => h)
  clear bxg2
  have bxg2 := bxg2'
  clear bxg2'
  have bxg3' := hkN.cell bxg3 (fun h => h)
  clear bxg3
  have bxg3 := bxg3'
  clear bxg3'
  have bxg4' := hkN.cell bxg4 (fun h => h)
  clear bxg4
  have bxg4 := bxg4'
  clear bxg4'
  have lbg' := Nat.lt_of_lt_of_le lbg hN.size
  clear lbg
  have lbg := lbg'
  clear lbg'
  clear hkN
  have hzwh1 := hN.size
  clear hN
  have hpq1 : 0 ≤ 1 + (RS.length : Int) + (tot RA : Int) + (tot RB : Int) + (RE.length : Int) := by omega
  have hqg : ((1 + (RS.length : Int) + (tot RA : Int) + (tot RB : Int) + (RE.length : Int)) != (1 + (RS.length : Int) + (tot RA : Int) + (tot RB : Int) + (RE.length : Int))) = false := by simp
  go_wp2_with (fail)
  refine (toWa _ p0 S0 MA0 MB0 E0 _ (H0.out.below hBw_24) hS0 hMA0 hMB0 hE0).mono ?_
  rintro e wl0 ⟨_, rfl, hO, hN⟩
  obtain ⟨Aal0, cal0, Abl0, cbl0, Acl0, ccl0, Adl0, cdl0, rfl⟩ := hO.shape
  have hBw_25 := below_more hBw_24 hN
  clear hBw_24
  have hBwb_25 := below_more hBwb_24 hN
  clear hBwb_24
  have hBwj_25 := below_more hBwj_24 hN
  clear hBwj_24
  have hkN := keep_of_below hN
  have bxa00' := hkN.cell bxa00 (fun h => h)
  clear bxa00
  have bxa00 := bxa00'
  clear bxa00'
  have bxa01' := hkN.cell bxa01 (fun h => h)
  clear bxa01
  have bxa01 := bxa01'
  clear bxa01'
  have bxa02' := hkN.cell bxa02 (fun h => h)
  clear bxa02
  have bxa02 := bxa02'
  clear bxa02'
  have bxa03' := hkN.cell bxa03 (fun h => h)
  clear bxa03
  have bxa03 := bxa03'
  clear bxa03'
  have bxa04' := hkN.cell bxa04 (fun h => h)
  clear bxa04
  have bxa04 := bxa04'
  clear bxa04'
  have lba0' := Nat.lt_of_lt_of_le lba0 hN.size
  clear lba0
  have lba0 := lba0'
  clear lba0'
  have bxs0' := hkN.cell bxs0 (fun h => h)
  clear bxs0
  have bxs0 := bxs0'
  clear bxs0'
  have bxs1' := hkN.cell bxs1 (fun h => h)
  clear bxs1
  have bxs1 := bxs1'
  clear bxs1'
  have bxs2' := hkN.cell bxs2 (fun h => h)
  clear bxs2
  have bxs2 := bxs2'
  clear bxs2'
  have bxs3' := hkN.cell bxs3 (fun h => h)
  clear bxs3
  have bxs3 := bxs3'
  clear bxs3'
  have bxs4' := hkN.cell bxs4 (fun h => h)
  clear bxs4
  have bxs4 := bxs4'
  clear bxs4'
  have lbs' := Nat.lt_of_lt_of_le lbs hN.size
  clear lbs
  have lbs := lbs'
  clear lbs'
  have bxx00' := hkN.cell bxx00 (fun h => h)
  clear bxx00
  have bxx00 := bxx00'
  clear bxx00'
  have bxx01' := hkN.cell bxx01 (fun h => h)
  clear bxx01
  have bxx01 := bxx01'
  clear bxx01'
  have bxx02' := hkN.cell bxx02 (fun h => h)
  clear bxx02
  have bxx02 := bxx02'
  clear bxx02'
  have bxx03' := hkN.cell bxx03 (fun h => h)
  clear bxx03
  have bxx03 := bxx03'
  clear bxx03'
  have bxx04' := hkN.cell bxx04 (fun h => h)
  clear bxx04
  have bxx04 := bxx04'
  clear bxx04'
  have lbx0' := Nat.lt_of_lt_of_le lbx0 hN.size
  clear lbx0
  have lbx0 := lbx0'
  clear lbx0'
  have bxg0' := hkN.cell bxg0 (fun h => h)
  clear bxg0
  have bxg0 := bxg0'
  clear bxg0'
  have bxg1' := hkN.cell bxg1 (fun h => h)
  clear bxg1
  have bxg1 := bxg1'
  clear bxg1'
  have bxg2' := hkN.cell bxg2 (fun h => h)
  clear bxg2
  have bxg2 := bxg2'
  clear bxg2'
  have bxg3' := hkN.cell bxg3 (fun h => h)
  clear bxg3
  have bxg3 := bxg3'
  clear bxg3'
  have bxg4' := hkN.cell bxg4 (fun h => h)
  clear bxg4
  have bxg4 := bxg4'
  clear bxg4'
  have lbg' := Nat.lt_of_lt_of_le lbg hN.size
  clear lbg
  have lbg := lbg'
  clear lbg'
  clear hkN
  have hzwl0 := hN.size
  clear hN
  have HRl0 := Lib.hid hO.wv
  have HOl0 := Lib.hid hO
  clear hO
  have hBwl0_26 := Below.refl wl0.heap.size wl0
  go_wp2_with (fail)
  refine (implWaBack _ p0 S0 MA0 MB0 E0 _ (HRl0.out.below hBwl0_26)).mono ?_
  rw [HRV.out]
  rintro e wl ⟨_, rfl, hO, hN⟩
  rw [HRP.out, HRS.out, HRA.out, HRB.out, HRE.out] at hO
  obtain ⟨Aal, cal, Abl, cbl, Acl, ccl, Adl, cdl, rfl⟩ := hO.shape
  have hBw_27 := below_more hBw_25 hN
  clear hBw_25
  have hBwb_27 := below_more hBwb_25 hN
  clear hBwb_25
  have hBwj_27 := below_more hBwj_25 hN
  clear hBwj_25
  have hBwl0_27 := below_more hBwl0_26 hN
  clear hBwl0_26
  have hkN := keep_of_below hN
  have bxa00' := hkN.cell bxa00 (fun h => h)
  clear bxa00
  have bxa00 := bxa00'
  clear bxa00'
  have bxa01' := hkN.cell bxa01 (fun h => h)
  clear bxa01
  have bxa01 := bxa01'
  clear bxa01'
  have bxa02' := hkN.cell bxa02 (fun h => h)
  clear bxa02
  have bxa02 := bxa02'
  clear bxa02'
  have bxa03' := hkN.cell bxa03 (fun h => h)
  clear bxa03
  have bxa03 := bxa03'
  clear bxa03'
  have bxa04' := hkN.cell bxa04 (fun h => h)
  clear bxa04
  have bxa04 := bxa04'
  clear bxa04'
  have lba0' := Nat.lt_of_lt_of_le lba0 hN.size
  clear lba0
  have lba0 := lba0'
  clear lba0'
  have bxs0' := hkN.cell bxs0 (fun h => h)
  clear bxs0
  have bxs0 := bxs0'
  clear bxs0'
  have bxs1' := hkN.cell bxs1 (fun h => h)
  clear bxs1
  have bxs1 := bxs1'
  clear bxs1'
  have bxs2' := hkN.cell bxs2 (fun h => h)
  clear bxs2
  have bxs2 := bxs2'
  clear bxs2'
  have bxs3' := hkN.cell bxs3 (fun h => h)
  clear bxs3
  have bxs3 := bxs3'
  clear bxs3'
  have bxs4' := hkN.cell bxs4 (fun h => h)
  clear bxs4
  have bxs4 := bxs4'
  clear bxs4'
  have lbs' := Nat.lt_of_lt_of_le lbs hN.size
  clear lbs
  have lbs := lbs'
  clear lbs'
  have bxx00' := hkN.cell bxx00 (fun h => h)
  clear bxx00
  have bxx00 := bxx00'
  clear bxx00'
  have bxx01' := hkN.cell bxx01 (fun h => h)
  clear bxx01
  have bxx01 := bxx01'
  clear bxx01'
  have bxx02' := hkN.cell bxx02 (fun h => h)
  clear bxx02
  have bxx02 := bxx02'
  clear bxx02'
  have bxx03' := hkN.cell bxx03 (fun h => h)
  clear bxx03
  have bxx03 := bxx03'
  clear bxx03'
  have bxx04' := hkN.cell bxx04 (fun h => h)
  clear bxx04
  have bxx04 := bxx04'
  clear bxx04'
  have lbx0' := Nat.lt_of_lt_of_le lbx0 hN.size
  clear lbx0
  have lbx0 := lbx0'
  clear lbx0'
  have bxg0' := hkN.cell bxg0 (fun h => h)
  clear bxg0
  have bxg0 := bxg0'
  clear bxg0'
  have bxg1' := hkN.cell bxg1 (fun h => h)
  clear bxg1
  have bxg1 := bxg1'
  clear bxg1'
  have bxg2' := hkN.cell bxg2 (fun h => h)
  clear bxg2
  have bxg2 := bxg2'
  clear bxg2'
  have bxg3' := hkN.cell bxg3 (fun h => h)
  clear bxg3
  have bxg3 := bxg3'
  clear bxg3'
  have bxg4' := hkN.cell bxg4 (fun h => h)
  clear bxg4
  have bxg4 := bxg4'
  clear bxg4'
  have lbg' := Nat.lt_of_lt_of_le lbg hN.size
  clear lbg
  have lbg := lbg'
  clear lbg'
  clear hkN
  have hzwl := hN.size
  clear hN
  have HRl := Lib.hid hO.wv
  have HOl := Lib.hid hO
  clear hO
  have hBwl_28 := Below.refl wl.heap.size wl
  go_wp2_with (fail)
  obtain ⟨wql, hQ⟩ : ∃ W, wl.alloc (.cells #[.int .i64 RP, .slice Aal RS.length cal, .slice Abl RA.length cbl, .slice Acl RB.length ccl, .slice Adl RE.length cdl] 26) = W := ⟨_, rfl⟩
  rw [hQ]
  have hN : Below wl.heap.size wl wql := by rw [← hQ]; exact (Below.refl _ _).alloc (Nat.le_refl _) _
  obtain ⟨hn0, hn1, hn2, hn3, hn4⟩ := box5 wl (.int .i64 RP) (.slice Aal RS.length cal) (.slice Abl RA.length cbl) (.slice Acl RB.length ccl) (.slice Adl RE.length cdl) 26
  rw [hQ] at hn0 hn1 hn2 hn3 hn4
  have hnl : wl.heap.size < wql.heap.size := cell_lt hn0
  have lcl := hnl
  clear hQ
  have hBw_29 := below_more hBw_27 hN
  clear hBw_27
  have hBwb_29 := below_more hBwb_27 hN
  clear hBwb_27
  have hBwj_29 := below_more hBwj_27 hN
  clear hBwj_27
  have hBwl0_29 := below_more hBwl0_27 hN
  clear hBwl0_27
  have hBwl_29 := below_more hBwl_28 hN
  clear hBwl_28
  have hkN := keep_of_below hN
  have bxa00' := hkN.cell bxa00 (fun h => h)
  clear bxa00
  have bxa00 := bxa00'
  clear bxa00'
  have bxa01' := hkN.cell bxa01 (fun h => h)
  clear bxa01
  have bxa01 := bxa01'
  clear bxa01'
  have bxa02' := hkN.cell bxa02 (fun h => h)
  clear bxa02
  have bxa02 := bxa02'
  clear bxa02'
  have bxa03' := hkN.cell bxa03 (fun h => h)
  clear bxa03
  have bxa03 := bxa03'
  clear bxa03'
  have bxa04' := hkN.cell bxa04 (fun h => h)
  clear bxa04
  have bxa04 := bxa04'
  clear bxa04'
  have lba0' := Nat.lt_of_lt_of_le lba0 hN.size
  clear lba0
  have lba0 := lba0'
  clear lba0'
  have bxs0' := hkN.cell bxs0 (fun h => h)
  clear bxs0
  have bxs0 := bxs0'
  clear bxs0'
  have bxs1' := hkN.cell bxs1 (fun h => h)
  clear bxs1
  have bxs1 := bxs1'
  clear bxs1'
  have bxs2' := hkN.cell bxs2 (fun h => h)
  clear bxs2
  have bxs2 := bxs2'
  clear bxs2'
  have bxs3' := hkN.cell bxs3 (fun h => h)
  clear bxs3
  have bxs3 := bxs3'
  clear bxs3'
  have bxs4' := hkN.cell bxs4 (fun h => h)
  clear bxs4
  have bxs4 := bxs4'
  clear bxs4'
  have lbs' := Nat.lt_of_lt_of_le lbs hN.size
  clear lbs
  have lbs := lbs'
  clear lbs'
  have bxx00' := hkN.cell bxx00 (fun h => h)
  clear bxx00
  have bxx00 := bxx00'
  clear bxx00'
  have bxx01' := hkN.cell bxx01 (fun h => h)
  clear bxx01
  have bxx01 := bxx01'
  clear bxx01'
  have bxx02' := hkN.cell bxx02 (fun h => h)
  clear bxx02
  have bxx02 := bxx02'
  clear bxx02'
  have bxx03' := hkN.cell bxx03 (fun h => h)
  clear bxx03
  have bxx03 := bxx03'
  clear bxx03'
  have bxx04' := hkN.cell bxx04 (fun h => h)
  clear bxx04
  have bxx04 := bxx04'
  clear bxx04'
  have lbx0' := Nat.lt_of_lt_of_le lbx0 hN.size
  clear lbx0
  have lbx0 := lbx0'
  clear lbx0'
  have bxg0' := hkN.cell bxg0 (fun h => h)
  clear bxg0
  have bxg0 := bxg0'
  clear bxg0'
  have bxg1' := hkN.cell bxg1 (fun h => h)
  clear bxg1
  have bxg1 := bxg1'
  clear bxg1'
  have bxg2' := hkN.cell bxg2 (fun h => h)
  clear bxg2
  have bxg2 := bxg2'
  clear bxg2'
  have bxg3' := hkN.cell bxg3 (fun h => h)
  clear bxg3
  have bxg3 := bxg3'
  clear bxg3'
  have bxg4' := hkN.cell bxg4 (fun h => h)
  clear bxg4
  have bxg4 := bxg4'
  clear bxg4'
  have lbg' := Nat.lt_of_lt_of_le lbg hN.size
  clear lbg
  have lbg := lbg'
  clear lbg'
  clear hkN
  have hzwql := hN.size
  clear hN
  have bxl0 := hn0
  clear hn0
  have bxl1 := hn1
  clear hn1
  have bxl2 := hn2
  clear hn2
  have bxl3 := hn3
  clear hn3
  have bxl4 := hn4
  clear hn4
  have lbl := hnl
  clear hnl
  go_wp2_with (fail)
  refine (eqWa _ RP RS RA RB RE _ RP RS RA RB RE _ (HRl.out.below hBwl_29) (HRs.out.below hBwb_29)).mono ?_
  rintro e we30 ⟨rfl, hN⟩
  rw [decide_eq_true (show RP = RP ∧ RS = RS ∧ RA = RA ∧ RB = RB ∧ RE = RE from ⟨rfl, rfl, rfl, rfl, rfl⟩)]
  have hBw_31 := below_more hBw_29 hN
  clear hBw_29
  have hBwb_31 := below_more hBwb_29 hN
  clear hBwb_29
  have hBwj_31 := below_more hBwj_29 hN
  clear hBwj_29
  have hBwl0_31 := below_more hBwl0_29 hN
  clear hBwl0_29
  have hBwl_31 := below_more hBwl_29 hN
  clear hBwl_29
  have hkN := keep_of_below hN
  have bxa00' := hkN.cell bxa00 (fun h => h)
  clear bxa00
  have bxa00 := bxa00'
  clear bxa00'
  have bxa01' := hkN.cell bxa01 (fun h => h)
  clear bxa01
  have bxa01 := bxa01'
  clear bxa01'
  have bxa02' := hkN.cell bxa02 (fun h => h)
  clear bxa02
  have bxa02 := bxa02'
  clear bxa02'
  have bxa03' := hkN.cell bxa03 (fun h => h)
  clear bxa03
  have bxa03 := bxa03'
  clear bxa03'
  have bxa04' := hkN.cell bxa04 (fun h => h)
  clear bxa04
  have bxa04 := bxa04'
  clear bxa04'
  have lba0' := Nat.lt_of_lt_of_le lba0 hN.size
  clear lba0
  have lba0 := lba0'
  clear lba0'
  have bxs0' := hkN.cell bxs0 (fun h => h)
  clear bxs0
  have bxs0 := bxs0'
  clear bxs0'
  have bxs1' := hkN.cell bxs1 (fun h => h)
  clear bxs1
  have bxs1 := bxs1'
  clear bxs1'
  have bxs2' := hkN.cell bxs2 (fun h => h)
  clear bxs2
  have bxs2 := bxs2'
  clear bxs2'
  have bxs3' := hkN.cell bxs3 (fun h => h)
  clear bxs3
  have bxs3 := bxs3'
  clear bxs3'
  have bxs4' := hkN.cell bxs4 (fun h => h)
  clear bxs4
  have bxs4 := bxs4'
  clear bxs4'
  have lbs' := Nat.lt_of_lt_of_le lbs hN.size
  clear lbs
  have lbs := lbs'
  clear lbs'
  have bxx00' := hkN.cell bxx00 (fun h => h)
  clear bxx00
  have bxx00 := bxx00'
  clear bxx00'
  have bxx01' := hkN.cell bxx01 (fun h => h)
  clear bxx01
  have bxx01 := bxx01'
  clear bxx01'
  have bxx02' := hkN.cell bxx02 (fun h => h)
  clear bxx02
  have bxx02 := bxx02'
  clear bxx02'
  have bxx03' := hkN.cell bxx03 (fun h => h)
  clear bxx03
  have bxx03 := bxx03'
  clear bxx03'
  have bxx04' := hkN.cell bxx04 (fun h => h)
  clear bxx04
  have bxx04 := bxx04'
  clear bxx04'
  have lbx0' := Nat.lt_of_lt_of_le lbx0 hN.size
  clear lbx0
  have lbx0 := lbx0'
  clear lbx0'
  have bxg0' := hkN.cell bxg0 (fun h => h)
  clear bxg0
  have bxg0 := bxg0'
  clear bxg0'
  have bxg1' := hkN.cell bxg1 (fun h => h)
  clear bxg1
  have bxg1 := bxg1'
  clear bxg1'
  have bxg2' := hkN.cell bxg2 (fun h => h)
  clear bxg2
  have bxg2 := bxg2'
  clear bxg2'
  have bxg3' := hkN.cell bxg3 (fun h => h)
  clear bxg3
  have bxg3 := bxg3'
  clear bxg3'
  have bxg4' := hkN.cell bxg4 (fun h => h)
  clear bxg4
  have bxg4 := bxg4'
  clear bxg4'
  have lbg' := Nat.lt_of_lt_of_le lbg hN.size
  clear lbg
  have lbg := lbg'
  clear lbg'
  have bxl0' := hkN.cell bxl0 (fun h => h)
  clear bxl0
  have bxl0 := bxl0'
  clear bxl0'
  have bxl1' := hkN.cell bxl1 (fun h => h)
  clear bxl1
  have bxl1 := bxl1'
  clear bxl1'
  have bxl2' := hkN.cell bxl2 (fun h => h)
  clear bxl2
  have bxl2 := bxl2'
  clear bxl2'
  have bxl3' := hkN.cell bxl3 (fun h => h)
  clear bxl3
  have bxl3 := bxl3'
  clear bxl3'
  have bxl4' := hkN.cell bxl4 (fun h => h)
  clear bxl4
  have bxl4 := bxl4'
  clear bxl4'
  have lbl' := Nat.lt_of_lt_of_le lbl hN.size
  clear lbl
  have lbl := lbl'
  clear lbl'
  clear hkN
  have hzwe30 := hN.size
  clear hN
  go_wp2_with (fail)
  refine (heldWa _ RP 1 RS RA RB RE _ (HRj.out.below hBwj_31) (by omega) (by omega)).mono ?_
  rintro e wh2 ⟨rfl, hN⟩
  have hBw_32 := below_more hBw_31 hN
  clear hBw_31
  have hBwb_32 := below_more hBwb_31 hN
  clear hBwb_31
  have hBwj_32 := below_more hBwj_31 hN
  clear hBwj_31
  have hBwl0_32 := below_more hBwl0_31 hN
  clear hBwl0_31
  have hBwl_32 := below_more hBwl_31 hN
  clear hBwl_31
  have hkN := keep_of_below hN
  have bxa00' := hkN.cell bxa00 (fun h => h)
  clear bxa00
  have bxa00 := bxa00'
  clear bxa00'
  have bxa01' := hkN.cell bxa01 (fun h => h)
  clear bxa01
  have bxa01 := bxa01'
  clear bxa01'
  have bxa02' := hkN.cell bxa02 (fun h => h)
  clear bxa02
  have bxa02 := bxa02'
  clear bxa02'
  have bxa03' := hkN.cell bxa03 (fun h => h)
  clear bxa03
  have bxa03 := bxa03'
  clear bxa03'
  have bxa04' := hkN.cell bxa04 (fun h => h)
  clear bxa04
  have bxa04 := bxa04'
  clear bxa04'
  have lba0' := Nat.lt_of_lt_of_le lba0 hN.size
  clear lba0
  have lba0 := lba0'
  clear lba0'
  have bxs0' := hkN.cell bxs0 (fun h => h)
  clear bxs0
  have bxs0 := bxs0'
  clear bxs0'
  have bxs1' := hkN.cell bxs1 (fun h => h)
  clear bxs1
  have bxs1 := bxs1'
  clear bxs1'
  have bxs2' := hkN.cell bxs2 (fun h => h)
  clear bxs2
  have bxs2 := bxs2'
  clear bxs2'
  have bxs3' := hkN.cell bxs3 (fun h => h)
  clear bxs3
  have bxs3 := bxs3'
  clear bxs3'
  have bxs4' := hkN.cell bxs4 (fun h => h)
  clear bxs4
  have bxs4 := bxs4'
  clear bxs4'
  have lbs' := Nat.lt_of_lt_of_le lbs hN.size
  clear lbs
  have lbs := lbs'
  clear lbs'
  have bxx00' := hkN.cell bxx00 (fun h => h)
  clear bxx00
  have bxx00 := bxx00'
  clear bxx00'
  have bxx01' := hkN.cell bxx01 (fun h => h)
  clear bxx01
  have bxx01 := bxx01'
  clear bxx01'
  have bxx02' := hkN.cell bxx02 (fun h => h)
  clear bxx02
  have bxx02 := bxx02'
  clear bxx02'
  have bxx03' := hkN.cell bxx03 (fun h => h)
  clear bxx03
  have bxx03 := bxx03'
  clear bxx03'
  have bxx04' := hkN.cell bxx04 (fun h => h)
  clear bxx04
  have bxx04 := bxx04'
  clear bxx04'
  have lbx0' := Nat.lt_of_lt_of_le lbx0 hN.size
  clear lbx0
  have lbx0 := lbx0'
  clear lbx0'
  have bxg0' := hkN.cell bxg0 (fun h => h)
  clear bxg0
  have bxg0 := bxg0'
  clear bxg0'
  have bxg1' := hkN.cell bxg1 (fun h => h)
  clear bxg1
  have bxg1 := bxg1'
  clear bxg1'
  have bxg2' := hkN.cell bxg2 (fun h => h)
  clear bxg2
  have bxg2 := bxg2'
  clear bxg2'
  have bxg3' := hkN.cell bxg3 (fun h => h)
  clear bxg3
  have bxg3 := bxg3'
  clear bxg3'
  have bxg4' := hkN.cell bxg4 (fun h => h)
  clear bxg4
  have bxg4 := bxg4'
  clear bxg4'
  have lbg' := Nat.lt_of_lt_of_le lbg hN.size
  clear lbg
  have lbg := lbg'
  clear lbg'
  have bxl0' := hkN.cell bxl0 (fun h => h)
  clear bxl0
  have bxl0 := bxl0'
  clear bxl0'
  have bxl1' := hkN.cell bxl1 (fun h => h)
  clear bxl1
  have bxl1 := bxl1'
  clear bxl1'
  have bxl2' := hkN.cell bxl2 (fun h => h)
  clear bxl2
  have bxl2 := bxl2'
  clear bxl2'
  have bxl3' := hkN.cell bxl3 (fun h => h)
  clear bxl3
  have bxl3 := bxl3'
  clear bxl3'
  have bxl4' := hkN.cell bxl4 (fun h => h)
  clear bxl4
  have bxl4 := bxl4'
  clear bxl4'
  have lbl' := Nat.lt_of_lt_of_le lbl hN.size
  clear lbl
  have lbl := lbl'
  clear lbl'
  clear hkN
  have hzwh2 := hN.size
  clear hN
  have hpq2 : 0 ≤ 1 + (RS.length : Int) + (tot RA : Int) + (tot RB : Int) + (RE.length : Int) := by omega
  go_wp2_with (fail)
  go_ret
  exact ⟨rfl, hBw_32⟩
end Go.Proofs.Ytegkmolffemkpaa

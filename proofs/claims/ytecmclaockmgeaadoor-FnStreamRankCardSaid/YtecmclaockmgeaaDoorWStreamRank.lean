/-
  The walk of the law of StreamRank.
-/
import Derived.Test.YtecmclaockmgeaaDoorSkF
import Derived.Test.YtecmclaockmgeaaDoorSkC
import Derived.Test.YtecmclaockmgeaaDoorDrZ
namespace Go.Proofs.YtecmclaockmgeaaDoor
open Go.RowKit
theorem isRow_below {k : IntKind} {w w' : World} {a : Option Addr} {len cap : Nat} {zs : List Int} (h : IsRow k w a len cap zs) (hb : Below w.heap.size w w') : IsRow k w' a len cap zs := by
  rcases h with h | ⟨x, h1, h2, h3, h4, h5, h6⟩
  · exact .inl h
  · exact .inr ⟨x, h1, h2, h3, h4, fun i hi => (keep_of_below hb).cell (h5 i hi) (fun h => h), h6⟩
/-- a drawn recurrence -/
def DRec (w : World) (e : Ending) (w' : World) : Prop :=
  ∃ (v : Value) (q : Int) (T F : List Int), e = .returned v ∧ RO w' w.heap.size v q T F ∧ T.length ≤ 8 ∧ F.length ≤ 8 ∧ 0 ≤ q ∧ q ≤ 17 ∧ Below w.heap.size w w'
set_option maxRecDepth 100000 in
set_option maxHeartbeats 4000000 in
theorem drawStreamRank (a : Option Addr) (len cap : Nat) (zs : List Int) (w : World) (h : IsRow .u8 w a len cap zs) :
    Calls Tryd.prog 4 #[.slice a len cap] w (DRec w) := by
  have HW := Lib.hid (BxW.new w (.int .i64 0) (.slice none 0 0) (.slice none 0 0) 25)
  have hb0 := below_new w (.cells #[.int .i64 0, .slice none 0 0, .slice none 0 0] 25)
  have HI := Lib.hid (isRow_below h hb0)
  have HB0 := Lib.hid hb0
  clear h hb0
  go_enter Tryd.func4, Tryd.ntmps4
  go_wp2_with (fail)
  refine (open_any a len cap zs _ HI.out).mono ?_
  rintro e w1 ⟨rb, A, n, c, cb, co, rfl, hR, hB, hrb, hcb⟩
  have hB1 := HB0.out.trans (hB.mono HB0.out.size)
  have hs1 := hB.size
  rw [World.size_alloc] at hs1 hrb hcb
  have HW1 := Lib.hid (HW.out.below hB)
  clear hB
  go_wp2_with (fail)
  refine (rec_any rb n c cb co 0 A 6 9 _ hR (by omega) (by omega) (by decide) (by decide)).mono ?_
  rintro e w2 ⟨v, q, T, F, rfl, hO, hT, hF, hq0, hq1, hR2, hK2⟩
  have hs2 := hK2.size
  have HW2 := Lib.hid (HW1.out.keep hK2 (fun hs => by rcases hs with hs | hs <;> omega))
  have HB2 := Lib.hid (below_drw hB1 hK2 (Nat.le_refl _) (by omega) (by omega))
  obtain ⟨A1, c1, A2, c2, rfl, hO1, hO2, hap⟩ := hO
  have HO1 := Lib.hid hO1
  have HO2 := Lib.hid hO2
  have HAP := Lib.hid hap
  clear hO1 hO2 hap hR hR2 hK2 hcb hB1
  obtain ⟨r0, r1, r2⟩ := HW2.out.c
  have rf := HW2.out.fz
  go_wp2_with (fail)
  refine bodyPost_ret (v := .agg #[.int .i64 q, .slice A1 T.length c1, .slice A2 F.length c2]) (by simp [results, Tryd.f4, go_sem, r0, r1, r2]) rfl ?_
  have hk := set3_keep w2 w.heap.size (.int .i64 q) (.slice A1 T.length c1) (.slice A2 F.length c2)
  exact ⟨_, q, T, F, rfl, ⟨A1, c1, A2, c2, rfl, owns_mono (OIk HO1.out hk (fun g hg e => by have := (HO1.out.lt g hg).1; omega)) (by omega), owns_mono (OIk HO2.out hk (fun g hg e => by have := (HO2.out.lt g hg).1; omega)) (by omega), HAP.out⟩, hT, hF, hq0, hq1, HB2.out.trans (set3_far w2 w.heap.size _ _ _ (Nat.le_refl _) (by omega))⟩
theorem fieldRec1 (u v x : Value) : ∀ w, (Instr.field 25 (.agg #[u, v, x]) 2).run Tryd.prog w = .ok x w := by
  intro w
  first | kernel_rfl | rfl
theorem sqr_head {p : Int} {T F : List Int} : ((sqrL p T F 8).headD []).length = 8 := by
  have h0 : (sqrL p T F 8).headD [] = winL (trm p T F (2 * 8 - 1)) 8 0 := headD_of (tabL_get _ (by omega))
  rw [h0]
  exact winL_len (by rw [trm_len]; omega)
theorem sqr_mat {p : Int} {T F : List Int} (h : recB p T F = true) : matB p (sqrL p T F 8) = true := by
  have hx := trm_num h (2 * 8 - 1)
  rw [matB_of ⟨by rw [sqr_len]; omega, by rw [sqr_len]; omega, by rw [sqr_head]; omega, by rw [sqr_head]; omega⟩, sqr_head]
  refine List.all_eq_true.2 (fun row hr => ?_)
  obtain ⟨k, hk, rfl⟩ := List.mem_map.1 hr
  have hk := List.mem_range.1 hk
  unfold rowOk rowB
  rw [winL_len (by rw [trm_len]; omega), decide_eq_true rfl, Bool.true_and]
  refine List.all_eq_true.2 (fun x hxm => hx x ?_)
  unfold winL at hxm
  exact List.mem_of_mem_drop (List.mem_of_mem_take hxm)
theorem sqr_at {p : Int} {T F : List Int} {i j : Nat} (hi : i < 8) (hj : j < 8) : at2 (sqrL p T F 8) i j = stm p T F (i + j) := by
  have h1 : (sqrL p T F 8).getD i [] = winL (trm p T F (2 * 8 - 1)) 8 i := by
    unfold sqrL
    rw [List.getD_eq_getElem?_getD, tabL_get _ hi]; rfl
  unfold at2
  rw [h1]
  unfold winL
  rw [List.getD_eq_getElem?_getD, List.getElem?_take_of_lt hj, List.getElem?_drop, ← List.getD_eq_getElem?_getD]
  exact co_trm p T F (by omega)
theorem streamRank_law {p : Int} {T F : List Int} (h : recB p T F = true) : ∃ T' F', leastRecR p T F = (p, T', F') ∧ streamRankR p T F = (F'.length : Int) ∧ F'.length ≤ F.length := by
  obtain ⟨T', F', e, r1, r2, r3, r4⟩ := leastRec_law h
  have hm := sqr_mat h
  have hM : VM p 8 (sqrL p T F 8) := by have := VM_of_mat hm; rwa [sqr_head] at this
  have hn := sqr_len p T F 8
  have h1 := rank_span (recB_true r1).1 (recB_true r1).2.2.1 hM hn (fun i hi j hj => by rw [sqr_at hi hj, r2])
  have h2 := rank_least h (R := 8) (by have := (recB_true h).2.1; omega) r3 r4 hM hn (fun i hi j hj => sqr_at hi hj)
  have l1 := (recB_true r1).2.2.1
  have l2 := (recB_true h).2.2.1
  refine ⟨T', F', e, ?_, by omega⟩
  unfold streamRankR rankR
  rw [if_pos h, if_pos hm, sqr_head]
  omega
set_option maxRecDepth 100000 in
set_option maxHeartbeats 16000000 in
theorem walkFnStreamRank (a : Option Addr) (len cap : Nat) (zs : List Int) (w : World) (h : IsRow .u8 w a len cap zs) (ge : Addr) (hge : GE w ge) :
    Calls Tryd.prog 3 #[.slice a len cap] w fun e w' => e = .returned (.bool true) ∧ Below w.heap.size w w' := by
  have hm : len ≤ 9223372036854775807 := by have := rowBytes h; unfold maxLen at this; omega
  by_cases hb : 1048576 < len
  · go_enter Tryd.func3, Tryd.ntmps3
    go_wp2_with (fail)
    go_ret
    exact ⟨rfl, Below.refl _ _⟩
  have hd0 : decide (1048576 < (len : Int)) = false := by simp; omega
  go_enter Tryd.func3, Tryd.ntmps3
  go_wp2_with (fail)
  refine (drawStreamRank a len cap zs w h).mono ?_
  rintro e w1 ⟨v, q, T, F, rfl, hO, hT8, hF8, hq0, hq1, hB⟩
  have hge1 := hge.below hB
  obtain ⟨A1, c1, A2, c2, rfl, hO1, hO2, hap⟩ := hO
  have HRV := Lib.hid (show RV w1 (.agg #[.int .i64 q, .slice A1 T.length c1, .slice A2 F.length c2]) q T F from RO.rv (B := w.heap.size) ⟨A1, c1, A2, c2, rfl, hO1, hO2, hap⟩)
  obtain ⟨W1, hW1⟩ : ∃ W1, w1.alloc (.cells #[.int .i64 q, .slice A1 T.length c1, .slice A2 F.length c2] 25) = W1 := ⟨_, rfl⟩
  have hN : Below w1.heap.size w1 W1 := by rw [← hW1]; exact below_new _ _
  have HGE := Lib.hid (hge1.below hN)
  have BX := Lib.hid (show Bx W1 w1.heap.size (.int .i64 q) (.slice A1 T.length c1) (.slice A2 F.length c2) by rw [← hW1]; exact Bx.new _ _ _ _ _)
  have HB1 := Lib.hid (below_more hB hN)
  have HRV1 := Lib.hid (HRV.out.below hN)
  obtain ⟨G, hG⟩ : ∃ G, streamRankR q T F = G := ⟨_, rfl⟩
  have HG := Lib.hid hG
  have hq : (G != G) = false := by simp
  clear hB hN hO1 hO2 hap h hT8 hF8 hG hge hge1
  obtain ⟨x0, x1, x2⟩ := BX.out
  go_wp2_with (fail)
  clear hW1
  refine (implStreamRank _ q T F _ HRV1.out).mono ?_
  rw [HG.out]
  rintro e w2 ⟨rfl, hN⟩
  have HB2 := Lib.hid (below_more HB1.out hN)
  have BX2 := Lib.hid (BX.out.below hN)
  have HRV2 := Lib.hid (HRV1.out.below hN)
  have HGE2 := Lib.hid (HGE.out.below hN)
  clear hN x0 x1 x2
  obtain ⟨x0, x1, x2⟩ := BX2.out
  go_wp2_with (fail)
  refine (specStreamRank _ q T F _ HRV2.out).mono ?_
  rw [HG.out]
  rintro e w3 ⟨rfl, hN⟩
  have HB3 := Lib.hid (below_more HB2.out hN)
  have BX3 := Lib.hid (BX2.out.below hN)
  have HRV3 := Lib.hid (HRV2.out.below hN)
  have HGE3 := Lib.hid (HGE2.out.below hN)
  clear hN x0 x1 x2
  obtain ⟨x0, x1, x2⟩ := BX3.out
  rcases hv : recB q T F
  · have hg : G = -1 := by rw [← HG.out]; unfold streamRankR; rw [if_neg (by simp [hv])]
    subst hg
    have HV := Lib.hid hv
    clear hv
    go_wp2_with (first
      | (go_at_call 7; refine (implRecValid _ q T F _ HRV3.out).mono ?_; rw [HV.out]; rintro e w4 ⟨rfl, hN⟩; have HB4 := Lib.hid (below_more HB3.out hN); clear hN)
      | (go_at_call 8; refine (alive _).mono ?_; rintro e w6 ⟨rfl, rfl⟩))
    go_ret
    exact ⟨rfl, HB4.out⟩
  · obtain ⟨T', F', hl, hr, hle⟩ := streamRank_law hv
    have HL := Lib.hid hl
    rw [HG.out] at hr
    subst hr
    have hg0 : ¬ (F'.length : Int) < 0 := by omega
    have hle2 : (F'.length : Int) ≤ (F.length : Int) := by omega
    clear hv hl
    go_wp2_with (first
      | (go_at_call 9; refine (implRecLeast _ q T F _ HRV3.out ge HGE3.out).mono ?_; rw [HL.out]; rintro e w4 ⟨_, rfl, ⟨A3, c3, A4, c4, rfl, hO1, hO2, hap⟩, hN⟩; have HB4 := Lib.hid (below_more HB3.out hN); have BX4 := Lib.hid (BX3.out.below hN); have hfl := fieldRec1 (.int .i64 q) (.slice A3 T'.length c3) (.slice A4 F'.length c4); clear hO1 hO2 hap hN x0 x1 x2; obtain ⟨x0, x1, x2⟩ := BX4.out))
    go_ret
    exact ⟨rfl, HB4.out⟩
end Go.Proofs.YtecmclaockmgeaaDoor

/-
  The contracts of the draws of recurrences.
-/
import Derived.Test.YtjpmncpbghlkaaaDrawRd
namespace Go.Proofs.Ytjpmncpbghlkaaa
open Go.RowKit
theorem isRow_below {k : IntKind} {w w' : World} {a : Option Addr} {len cap : Nat} {zs : List Int} (h : IsRow k w a len cap zs) (hb : Below w.heap.size w w') : IsRow k w' a len cap zs := by
  rcases h with h | ⟨x, h1, h2, h3, h4, h5, h6⟩
  · exact .inl h
  · exact .inr ⟨x, h1, h2, h3, h4, fun i hi => (keep_of_below hb).cell (h5 i hi) (fun h => h), h6⟩
/-- a drawn recurrence -/
def DRec (w : World) (e : Ending) (w' : World) : Prop :=
  ∃ (v : Value) (q : Int) (T F : List Int), e = .returned v ∧ RO w' w.heap.size v q T F ∧ T.length ≤ 8 ∧ F.length ≤ 8 ∧ 0 ≤ q ∧ q ≤ 17 ∧ Below w.heap.size w w'
/-- a drawn recurrence, and a number -/
def DRecI (lo hi : Int) (w : World) (e : Ending) (w' : World) : Prop :=
  ∃ (v : Value) (q : Int) (T F : List Int) (x : Int), e = .returned (.tuple #[v, .int .i64 x]) ∧ lo ≤ x ∧ x ≤ hi ∧ RO w' w.heap.size v q T F ∧ T.length ≤ 8 ∧ F.length ≤ 8 ∧ 0 ≤ q ∧ q ≤ 17 ∧ Below w.heap.size w w'
theorem drawRecValid (a : Option Addr) (len cap : Nat) (zs : List Int) (w : World) (h : IsRow .u8 w a len cap zs) :
    Calls Try.prog 15 #[.slice a len cap] w (DRec w) := by
  have HW := Lib.hid (BxW.new w (.int .i64 0) (.slice none 0 0) (.slice none 0 0) 25)
  have hb0 := below_new w (.cells #[.int .i64 0, .slice none 0 0, .slice none 0 0] 25)
  have HI := Lib.hid (isRow_below h hb0)
  have HB0 := Lib.hid hb0
  clear h hb0
  go_enter Try.func15, Try.ntmps15
  go_wp2_with (fail)
  refine (open_any a len cap zs _ HI.out).mono ?_
  rintro e w1 ⟨rb, A, n, c, cb, co, rfl, hR, hB, hrb, hcb⟩
  have hB1 := HB0.out.trans (hB.mono HB0.out.size)
  have hs1 := hB.size
  rw [World.size_alloc] at hs1 hrb hcb
  have HW1 := Lib.hid (HW.out.below hB)
  clear hB
  go_wp2_with (fail)
  refine (rec_any rb n c cb co 0 A 6 2 _ hR (by omega) (by omega) (by decide) (by decide)).mono ?_
  rintro e w2 ⟨v, q, T, F, rfl, hO, hT, hF, hq0, hq1, hR2, hK2⟩
  have hs2 := hK2.size
  have HW2 := Lib.hid (HW1.out.keep hK2 (fun hs => by rcases hs with hs | hs <;> omega))
  have HB2 := Lib.hid (below_drw hB1 hK2 (Nat.le_refl _) (by omega) (by omega))
  obtain ⟨A1, c1, A2, c2, rfl, hO1, hO2, hap⟩ := hO
  have HO1 := Lib.hid hO1
  have HO2 := Lib.hid hO2
  have HAP := Lib.hid hap
  clear hO1 hO2 hap hR hR2 hK2 hcb hB1
  obtain ⟨r0, r1, r2⟩ := HW2.out.c
  have rf := HW2.out.fz
  go_wp2_with (fail)
  refine bodyPost_ret (v := .agg #[.int .i64 q, .slice A1 T.length c1, .slice A2 F.length c2]) (by simp [results, Try.f15, go_sem, r0, r1, r2]) rfl ?_
  have hk := set3_keep w2 w.heap.size (.int .i64 q) (.slice A1 T.length c1) (.slice A2 F.length c2)
  exact ⟨_, q, T, F, rfl, ⟨A1, c1, A2, c2, rfl, owns_mono (OIk HO1.out hk (fun g hg e => by have := (HO1.out.lt g hg).1; omega)) (by omega), owns_mono (OIk HO2.out hk (fun g hg e => by have := (HO2.out.lt g hg).1; omega)) (by omega), HAP.out⟩, hT, hF, hq0, hq1, HB2.out.trans (set3_far w2 w.heap.size _ _ _ (Nat.le_refl _) (by omega))⟩
theorem drawRecPoly (a : Option Addr) (len cap : Nat) (zs : List Int) (w : World) (h : IsRow .u8 w a len cap zs) :
    Calls Try.prog 30 #[.slice a len cap] w (DRec w) := by
  have HW := Lib.hid (BxW.new w (.int .i64 0) (.slice none 0 0) (.slice none 0 0) 25)
  have hb0 := below_new w (.cells #[.int .i64 0, .slice none 0 0, .slice none 0 0] 25)
  have HI := Lib.hid (isRow_below h hb0)
  have HB0 := Lib.hid hb0
  clear h hb0
  go_enter Try.func30, Try.ntmps30
  go_wp2_with (fail)
  refine (open_any a len cap zs _ HI.out).mono ?_
  rintro e w1 ⟨rb, A, n, c, cb, co, rfl, hR, hB, hrb, hcb⟩
  have hB1 := HB0.out.trans (hB.mono HB0.out.size)
  have hs1 := hB.size
  rw [World.size_alloc] at hs1 hrb hcb
  have HW1 := Lib.hid (HW.out.below hB)
  clear hB
  go_wp2_with (fail)
  refine (rec_any rb n c cb co 0 A 6 9 _ hR (by omega) (by omega) (by decide) (by decide)).mono ?_
  rintro e w2 ⟨v, q, T, F, rfl, hO, hT, hF, hq0, hq1, hR2, hK2⟩
  have hs2 := hK2.size
  have HW2 := Lib.hid (HW1.out.keep hK2 (fun hs => by rcases hs with hs | hs <;> omega))
  have HB2 := Lib.hid (below_drw hB1 hK2 (Nat.le_refl _) (by omega) (by omega))
  obtain ⟨A1, c1, A2, c2, rfl, hO1, hO2, hap⟩ := hO
  have HO1 := Lib.hid hO1
  have HO2 := Lib.hid hO2
  have HAP := Lib.hid hap
  clear hO1 hO2 hap hR hR2 hK2 hcb hB1
  obtain ⟨r0, r1, r2⟩ := HW2.out.c
  have rf := HW2.out.fz
  go_wp2_with (fail)
  refine bodyPost_ret (v := .agg #[.int .i64 q, .slice A1 T.length c1, .slice A2 F.length c2]) (by simp [results, Try.f30, go_sem, r0, r1, r2]) rfl ?_
  have hk := set3_keep w2 w.heap.size (.int .i64 q) (.slice A1 T.length c1) (.slice A2 F.length c2)
  exact ⟨_, q, T, F, rfl, ⟨A1, c1, A2, c2, rfl, owns_mono (OIk HO1.out hk (fun g hg e => by have := (HO1.out.lt g hg).1; omega)) (by omega), owns_mono (OIk HO2.out hk (fun g hg e => by have := (HO2.out.lt g hg).1; omega)) (by omega), HAP.out⟩, hT, hF, hq0, hq1, HB2.out.trans (set3_far w2 w.heap.size _ _ _ (Nat.le_refl _) (by omega))⟩
theorem drawRecNext (a : Option Addr) (len cap : Nat) (zs : List Int) (w : World) (h : IsRow .u8 w a len cap zs) :
    Calls Try.prog 38 #[.slice a len cap] w (DRec w) := by
  have HW := Lib.hid (BxW.new w (.int .i64 0) (.slice none 0 0) (.slice none 0 0) 25)
  have hb0 := below_new w (.cells #[.int .i64 0, .slice none 0 0, .slice none 0 0] 25)
  have HI := Lib.hid (isRow_below h hb0)
  have HB0 := Lib.hid hb0
  clear h hb0
  go_enter Try.func38, Try.ntmps38
  go_wp2_with (fail)
  refine (open_any a len cap zs _ HI.out).mono ?_
  rintro e w1 ⟨rb, A, n, c, cb, co, rfl, hR, hB, hrb, hcb⟩
  have hB1 := HB0.out.trans (hB.mono HB0.out.size)
  have hs1 := hB.size
  rw [World.size_alloc] at hs1 hrb hcb
  have HW1 := Lib.hid (HW.out.below hB)
  clear hB
  go_wp2_with (fail)
  refine (rec_any rb n c cb co 0 A 6 9 _ hR (by omega) (by omega) (by decide) (by decide)).mono ?_
  rintro e w2 ⟨v, q, T, F, rfl, hO, hT, hF, hq0, hq1, hR2, hK2⟩
  have hs2 := hK2.size
  have HW2 := Lib.hid (HW1.out.keep hK2 (fun hs => by rcases hs with hs | hs <;> omega))
  have HB2 := Lib.hid (below_drw hB1 hK2 (Nat.le_refl _) (by omega) (by omega))
  obtain ⟨A1, c1, A2, c2, rfl, hO1, hO2, hap⟩ := hO
  have HO1 := Lib.hid hO1
  have HO2 := Lib.hid hO2
  have HAP := Lib.hid hap
  clear hO1 hO2 hap hR hR2 hK2 hcb hB1
  obtain ⟨r0, r1, r2⟩ := HW2.out.c
  have rf := HW2.out.fz
  go_wp2_with (fail)
  refine bodyPost_ret (v := .agg #[.int .i64 q, .slice A1 T.length c1, .slice A2 F.length c2]) (by simp [results, Try.f38, go_sem, r0, r1, r2]) rfl ?_
  have hk := set3_keep w2 w.heap.size (.int .i64 q) (.slice A1 T.length c1) (.slice A2 F.length c2)
  exact ⟨_, q, T, F, rfl, ⟨A1, c1, A2, c2, rfl, owns_mono (OIk HO1.out hk (fun g hg e => by have := (HO1.out.lt g hg).1; omega)) (by omega), owns_mono (OIk HO2.out hk (fun g hg e => by have := (HO2.out.lt g hg).1; omega)) (by omega), HAP.out⟩, hT, hF, hq0, hq1, HB2.out.trans (set3_far w2 w.heap.size _ _ _ (Nat.le_refl _) (by omega))⟩
theorem drawRecTerms (a : Option Addr) (len cap : Nat) (zs : List Int) (w : World) (h : IsRow .u8 w a len cap zs) :
    Calls Try.prog 22 #[.slice a len cap] w (DRecI (-1) 25 w) := by
  have HW := Lib.hid (BxW.new w (.int .i64 0) (.slice none 0 0) (.slice none 0 0) 25)
  have hb0 := below_new w (.cells #[.int .i64 0, .slice none 0 0, .slice none 0 0] 25)
  have HI := Lib.hid (isRow_below h hb0)
  have HB0 := Lib.hid hb0
  clear h hb0
  go_enter Try.func22, Try.ntmps22
  go_wp2_with (fail)
  refine (open_any a len cap zs _ HI.out).mono ?_
  rintro e w1 ⟨rb, A, n, c, cb, co, rfl, hR, hB, hrb, hcb⟩
  have hB1 := HB0.out.trans (hB.mono HB0.out.size)
  have hs1 := hB.size
  rw [World.size_alloc] at hs1 hrb hcb
  have HW1 := Lib.hid (HW.out.below hB)
  clear hB
  go_wp2_with (fail)
  refine (rec_any rb n c cb co 0 A 6 9 _ hR (by omega) (by omega) (by decide) (by decide)).mono ?_
  rintro e w2 ⟨v, q, T, F, rfl, hO, hT, hF, hq0, hq1, hR2, hK2⟩
  have hs2 := hK2.size
  have hrb2 := hR2.lt
  have HW2 := Lib.hid (HW1.out.keep hK2 (fun hs => by rcases hs with hs | hs <;> omega))
  have HB2 := Lib.hid (below_drw hB1 hK2 (Nat.le_refl _) (by omega) (by omega))
  obtain ⟨A1, c1, A2, c2, rfl, hO1, hO2, hap⟩ := hO
  have hrb1 := hR.lt
  have HO1 := Lib.hid hO1
  have HO2 := Lib.hid hO2
  have HAP := Lib.hid hap
  have HR2 := Lib.hid hR2
  clear hO1 hO2 hap hR hR2 hK2 hcb hB1
  go_wp2_with (fail)
  refine (pick_any rb n c cb co _ A _ _ HR2.out (by omega)).mono ?_
  rintro e w3 ⟨j1, rfl, hj1, hR3, hK3⟩
  have hj1 := hj1 (by decide)
  have HR3 := Lib.hid hR3
  have HW3 := Lib.hid (HW2.out.keep hK3 (by omega))
  have HB3 := Lib.hid (below_of HB2.out hK3 (Nat.le_refl _) (by omega))
  have HO1' := Lib.hid (OIk HO1.out hK3 (fun g hg e => by have := (HO1.out.lt g hg).1; omega))
  have HO2' := Lib.hid (OIk HO2.out hK3 (fun g hg e => by have := (HO2.out.lt g hg).1; omega))
  have hs3 := hK3.size
  clear hR3 hK3
  go_wp2_with (fail)
  refine (pick_any rb n c cb co _ A _ _ HR3.out (by omega)).mono ?_
  rintro e w4 ⟨j2, rfl, hj2, hR4, hK4⟩
  have hj2 := hj2 (by decide)
  have HW4 := Lib.hid (HW3.out.keep hK4 (by omega))
  have HB4 := Lib.hid (below_of HB3.out hK4 (Nat.le_refl _) (by omega))
  have HO3 := Lib.hid (OIk HO1'.out hK4 (fun g hg e => by have := (HO1'.out.lt g hg).1; omega))
  have HO4 := Lib.hid (OIk HO2'.out hK4 (fun g hg e => by have := (HO2'.out.lt g hg).1; omega))
  have hs4 := hK4.size
  clear hR4 hK4
  obtain ⟨r0, r1, r2⟩ := HW4.out.c
  have rf := HW4.out.fz
  obtain ⟨d, hd, hd0, hd1⟩ : ∃ d : Int, (j2 : Int).tdiv 19 = d ∧ 0 ≤ d ∧ d ≤ 1 := ⟨_, rfl, Int.tdiv_nonneg (by omega) (by decide), by rw [Int.tdiv_eq_ediv_of_nonneg (by omega)]; omega⟩
  have hdd : (j2 : Int) / 19 = d := by rw [← hd, Int.tdiv_eq_ediv_of_nonneg (by omega)]
  have hw1 : IntKind.i64.wrap ((j1 : Int) - d) = (j1 : Int) - d := IntWalk.i64_in _ ⟨by omega, by omega⟩
  have hw0 : IntKind.i64.wrap d = d := IntWalk.i64_in _ ⟨by omega, by omega⟩
  go_wp2_with (fail)
  refine bodyPost_ret (v := .tuple #[.agg #[.int .i64 q, .slice A1 T.length c1, .slice A2 F.length c2], .int .i64 ((j1 : Int) - d)]) (by simp [results, Try.f22, go_sem, r0, r1, r2]) rfl ?_
  have hk := set3_keep w4 w.heap.size (.int .i64 q) (.slice A1 T.length c1) (.slice A2 F.length c2)
  exact ⟨_, q, T, F, _, rfl, by omega, by omega, ⟨A1, c1, A2, c2, rfl, owns_mono (OIk HO3.out hk (fun g hg e => by have := (HO3.out.lt g hg).1; omega)) (by omega), owns_mono (OIk HO4.out hk (fun g hg e => by have := (HO4.out.lt g hg).1; omega)) (by omega), HAP.out⟩, hT, hF, hq0, hq1, HB4.out.trans (set3_far w4 w.heap.size _ _ _ (Nat.le_refl _) (by omega))⟩
end Go.Proofs.Ytjpmncpbghlkaaa

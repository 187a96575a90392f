/-
  The contracts of the draws of recurrences.
-/
import Derived.Test.YtllakclbgmingaaDrawRd
namespace Go.Proofs.Ytllakclbgmingaa
open Go.RowKit
theorem isRow_below {k : IntKind} {w w' : World} {a : Option Addr} {len cap : Nat} {zs : List Int} (h : IsRow k w a len cap zs) (hb : Below w.heap.size w w') : IsRow k w' a len cap zs := by
  rcases h with h | ⟨x, h1, h2, h3, h4, h5, h6⟩
  · exact .inl h
  · exact .inr ⟨x, h1, h2, h3, h4, fun i hi => (keep_of_below hb).cell (h5 i hi) (fun h => h), h6⟩
/-- a drawn recurrence -/
def DRec (w : World) (e : Ending) (w' : World) : Prop :=
  ∃ (v : Value) (q : Int) (T F : List Int), e = .returned v ∧ RO w' w.heap.size v q T F ∧ T.length ≤ 8 ∧ F.length ≤ 8 ∧ 0 ≤ q ∧ q ≤ 17 ∧ Below w.heap.size w w'
/-- a drawn recurrence, and a number -/
def DRecI (lo hi : Int) (w : World) (e : Ending) (w' : World) : Prop :=
  ∃ (v : Value) (q : Int) (T F : List Int) (x : Int), e = .returned (.tuple #[v, .int .i64 x]) ∧ lo ≤ x ∧ x ≤ hi ∧ RO w' w.heap.size v q T F ∧ T.length ≤ 8 ∧ F.length ≤ 8 ∧ 0 ≤ q ∧ q ≤ 17 ∧ Below w.heap.size w w'
theorem drawRecValid (a : Option Addr) (len cap : Nat) (zs : List Int) (w : World) (h : IsRow .u8 w a len cap zs) :
    Calls Try.prog 11 #[.slice a len cap] w (DRec w) := by
  have HW := Lib.hid (BxW.new w (.int .i64 0) (.slice none 0 0) (.slice none 0 0) 25)
  have hb0 := below_new w (.cells #[.int .i64 0, .slice none 0 0, .slice none 0 0] 25)
  have HI := Lib.hid (isRow_below h hb0)
  have HB0 := Lib.hid hb0
  clear h hb0
  go_enter Try.func11, Try.ntmps11
  go_wp2_with (fail)
  refine (open_any a len cap zs _ HI.out).mono ?_
  rintro e w1 ⟨rb, A, n, c, cb, co, rfl, hR, hB, hrb, hcb⟩
  have hB1 := HB0.out.trans (hB.mono HB0.out.size)
  have hs1 := hB.size
  rw [World.size_alloc] at hs1 hrb hcb
  have HW1 := Lib.hid (HW.out.below hB)
  clear hB
  go_wp2_with (fail)
  refine (rec_any rb n c cb co 0 A 6 2 _ hR (by omega) (by omega) (by decide) (by decide)).mono ?_
  rintro e w2 ⟨v, q, T, F, rfl, hO, hT, hF, hq0, hq1, hR2, hK2⟩
  have hs2 := hK2.size
  have HW2 := Lib.hid (HW1.out.keep hK2 (fun hs => by rcases hs with hs | hs <;> omega))
  have HB2 := Lib.hid (below_drw hB1 hK2 (Nat.le_refl _) (by omega) (by omega))
  obtain ⟨A1, c1, A2, c2, rfl, hO1, hO2, hap⟩ := hO
  have HO1 := Lib.hid hO1
  have HO2 := Lib.hid hO2
  have HAP := Lib.hid hap
  clear hO1 hO2 hap hR hR2 hK2 hcb hB1
  obtain ⟨r0, r1, r2⟩ := HW2.out.c
  have rf := HW2.out.fz
  go_wp2_with (fail)
  refine bodyPost_ret (v := .agg #[.int .i64 q, .slice A1 T.length c1, .slice A2 F.length c2]) (by simp [results, Try.f11, go_sem, r0, r1, r2]) rfl ?_
  have hk := set3_keep w2 w.heap.size (.int .i64 q) (.slice A1 T.length c1) (.slice A2 F.length c2)
  exact ⟨_, q, T, F, rfl, ⟨A1, c1, A2, c2, rfl, owns_mono (OIk HO1.out hk (fun g hg e => by have := (HO1.out.lt g hg).1; omega)) (by omega), owns_mono (OIk HO2.out hk (fun g hg e => by have := (HO2.out.lt g hg).1; omega)) (by omega), HAP.out⟩, hT, hF, hq0, hq1, HB2.out.trans (set3_far w2 w.heap.size _ _ _ (Nat.le_refl _) (by omega))⟩
theorem drawRecNext (a : Option Addr) (len cap : Nat) (zs : List Int) (w : World) (h : IsRow .u8 w a len cap zs) :
    Calls Try.prog 18 #[.slice a len cap] w (DRec w) := by
  have HW := Lib.hid (BxW.new w (.int .i64 0) (.slice none 0 0) (.slice none 0 0) 25)
  have hb0 := below_new w (.cells #[.int .i64 0, .slice none 0 0, .slice none 0 0] 25)
  have HI := Lib.hid (isRow_below h hb0)
  have HB0 := Lib.hid hb0
  clear h hb0
  go_enter Try.func18, Try.ntmps18
  go_wp2_with (fail)
  refine (open_any a len cap zs _ HI.out).mono ?_
  rintro e w1 ⟨rb, A, n, c, cb, co, rfl, hR, hB, hrb, hcb⟩
  have hB1 := HB0.out.trans (hB.mono HB0.out.size)
  have hs1 := hB.size
  rw [World.size_alloc] at hs1 hrb hcb
  have HW1 := Lib.hid (HW.out.below hB)
  clear hB
  go_wp2_with (fail)
  refine (rec_any rb n c cb co 0 A 6 9 _ hR (by omega) (by omega) (by decide) (by decide)).mono ?_
  rintro e w2 ⟨v, q, T, F, rfl, hO, hT, hF, hq0, hq1, hR2, hK2⟩
  have hs2 := hK2.size
  have HW2 := Lib.hid (HW1.out.keep hK2 (fun hs => by rcases hs with hs | hs <;> omega))
  have HB2 := Lib.hid (below_drw hB1 hK2 (Nat.le_refl _) (by omega) (by omega))
  obtain ⟨A1, c1, A2, c2, rfl, hO1, hO2, hap⟩ := hO
  have HO1 := Lib.hid hO1
  have HO2 := Lib.hid hO2
  have HAP := Lib.hid hap
  clear hO1 hO2 hap hR hR2 hK2 hcb hB1
  obtain ⟨r0, r1, r2⟩ := HW2.out.c
  have rf := HW2.out.fz
  go_wp2_with (fail)
  refine bodyPost_ret (v := .agg #[.int .i64 q, .slice A1 T.length c1, .slice A2 F.length c2]) (by simp [results, Try.f18, go_sem, r0, r1, r2]) rfl ?_
  have hk := set3_keep w2 w.heap.size (.int .i64 q) (.slice A1 T.length c1) (.slice A2 F.length c2)
  exact ⟨_, q, T, F, rfl, ⟨A1, c1, A2, c2, rfl, owns_mono (OIk HO1.out hk (fun g hg e => by have := (HO1.out.lt g hg).1; omega)) (by omega), owns_mono (OIk HO2.out hk (fun g hg e => by have := (HO2.out.lt g hg).1; omega)) (by omega), HAP.out⟩, hT, hF, hq0, hq1, HB2.out.trans (set3_far w2 w.heap.size _ _ _ (Nat.le_refl _) (by omega))⟩
end Go.Proofs.Ytllakclbgmingaa

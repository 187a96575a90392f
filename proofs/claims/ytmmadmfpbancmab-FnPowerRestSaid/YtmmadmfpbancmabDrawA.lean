/-
  The draws of a polynomial and a number, of a polynomial and an exponent.
-/
import Derived.Test.YtmmadmfpbancmabDrawQ
namespace Go.Proofs.Ytmmadmfpbancmab
open Go.RowKit
/-- a prime, a row and a number -/
def PRN (L : Nat) (w : World) (e : Ending) (w' : World) : Prop :=
  ∃ (p : Int) (A : Option Addr) (c : Nat) (xs : List Int) (x : Int), e = .returned (.tuple #[.int .i64 p, .slice A xs.length c, .int .i64 x]) ∧ 0 ≤ p ∧ p ≤ 17 ∧ xs.length ≤ L ∧ -100000 ≤ x ∧ x ≤ 1000000 ∧ OI w' w.heap.size A xs.length c xs ∧ Below w.heap.size w w'
theorem drawPolyAt (a : Option Addr) (len cap : Nat) (zs : List Int) (w : World) (h : IsRow .u8 w a len cap zs) :
    Calls Try.prog 11 #[.slice a len cap] w (PRN 33 w) := by
  go_enter Try.func11, Try.ntmps11
  go_wp2_with (fail)
  refine (open_any a len cap zs w h).mono ?_
  rintro e w1 ⟨rb, A, n, c, cb, co, rfl, hR, hB, hrb, hcb⟩
  have hs1 := hB.size
  go_wp2_with (fail)
  refine (prime_any rb n c cb co 0 A _ _ hR (by omega) (by decide) (by decide)).mono ?_
  rintro e w2 ⟨p, rfl, ⟨hp0, hp1⟩, hR2, hK2⟩
  have hB2 := below_of hB hK2 (Nat.le_refl _) hrb
  have hs2 := hB2.size
  go_wp2_with (fail)
  refine (poly_any rb n c cb co _ A p 8 12 _ hR2 (by omega) hp0 hp1 (by omega) (by decide) (by decide)).mono ?_
  rintro e w3 ⟨A3, c3, xs, rfl, hl3, hx3, _, hO3, hR3, hK3⟩
  have hB3 := below_drw hB2 hK3 (Nat.le_refl _) hrb hs2
  have hs3 := hB3.size
  have HO3 := Lib.hid hO3
  clear hO3
  go_wp2_with (fail)
  refine (num_any rb n c cb co _ A p _ _ hR3 (by omega) (by decide) (by decide) hp0 (by omega)).mono ?_
  rintro e w4 ⟨x, rfl, ⟨hx0, hx1⟩, hR4, hK4⟩
  have hB4 := below_of hB3 hK4 (Nat.le_refl _) hrb
  have HO4 := Lib.hid (owns_keep HO3.out hK4 (fun g hg hs => by have := HO3.out.lt g hg; have := hR2.lt; omega))
  go_wp2_with (fail)
  go_ret3
  exact ⟨p, A3, c3, xs, x, rfl, hp0, hp1, hl3, by omega, hx1, owns_mono HO4.out hs2, hB4⟩
set_option maxHeartbeats 1000000 in
theorem drawPowerRest (a : Option Addr) (len cap : Nat) (zs : List Int) (w : World) (h : IsRow .u8 w a len cap zs) :
    Calls Try.prog 18 #[.slice a len cap] w (PRN 33 w) := by
  go_enter Try.func18, Try.ntmps18
  go_wp2_with (fail)
  refine (open_any a len cap zs w h).mono ?_
  rintro e w1 ⟨rb, A, n, c, cb, co, rfl, hR, hB, hrb, hcb⟩
  have hs1 := hB.size
  go_wp2_with (fail)
  refine (prime_any rb n c cb co 0 A _ _ hR (by omega) (by decide) (by decide)).mono ?_
  rintro e w2 ⟨p, rfl, ⟨hp0, hp1⟩, hR2, hK2⟩
  have hB2 := below_of hB hK2 (Nat.le_refl _) hrb
  have hs2 := hB2.size
  go_wp2_with (fail)
  refine (poly_any rb n c cb co _ A p 6 14 _ hR2 (by omega) hp0 hp1 (by omega) (by decide) (by decide)).mono ?_
  rintro e w3 ⟨A3, c3, xs, rfl, hl3, hx3, _, hO3, hR3, hK3⟩
  have hB3 := below_drw hB2 hK3 (Nat.le_refl _) hrb hs2
  have hs3 := hB3.size
  have hrl := hR2.lt
  have HO3 := Lib.hid hO3
  clear hO3
  go_wp2_with (fail)
  refine (pick_any rb n c cb co _ A _ _ hR3 (by omega)).mono ?_
  rintro e w4 ⟨j1, rfl, hj1, hR4, hK4⟩
  have hj1 := hj1 (by omega)
  have hB4 := below_of hB3 hK4 (Nat.le_refl _) hrb
  have HO4 := Lib.hid (owns_keep HO3.out hK4 (fun g hg hs => by have := HO3.out.lt g hg; omega))
  go_wp2_with (fail)
  refine (pick_any rb n c cb co _ A _ _ hR4 (by omega)).mono ?_
  rintro e w5 ⟨j2, rfl, hj2, hR5, hK5⟩
  have hj2 := hj2 (by omega)
  have hB5 := below_of hB4 hK5 (Nat.le_refl _) hrb
  have HO5 := Lib.hid (owns_keep HO4.out hK5 (fun g hg hs => by have := HO4.out.lt g hg; omega))
  have hm2 : (j1 : Int) * (1 + (j2 : Int)) ≤ 20 * 20 := Int.mul_le_mul (by omega) (by omega) (by omega) (by omega)
  have hm2' : 0 ≤ (j1 : Int) * (1 + (j2 : Int)) := Int.mul_nonneg (by omega) (by omega)
  obtain ⟨v, hv⟩ : ∃ v, (j1 : Int) * (1 + (j2 : Int)) = v := ⟨_, rfl⟩
  have hw2 : IntKind.i64.wrap ((j1 : Int) * (1 + (j2 : Int))) = v := by rw [hv]; exact IntWalk.i64_in _ ⟨by omega, by omega⟩
  rw [hv] at hm2 hm2'
  clear hv
  go_wp2_with (fail)
  refine (pick_any rb n c cb co _ A _ _ hR5 (by omega)).mono ?_
  rintro e w6 ⟨j3, rfl, hj3, hR6, hK6⟩
  have hj3 := hj3 (by omega)
  have hB6 := below_of hB5 hK6 (Nat.le_refl _) hrb
  have HO6 := Lib.hid (owns_keep HO5.out hK6 (fun g hg hs => by have := HO5.out.lt g hg; omega))
  have hm3 : v * (1 + (j3 : Int)) ≤ 400 * 40 := Int.mul_le_mul (by omega) (by omega) (by omega) (by omega)
  have hm3' : 0 ≤ v * (1 + (j3 : Int)) := Int.mul_nonneg (by omega) (by omega)
  obtain ⟨u, hu⟩ : ∃ u, v * (1 + (j3 : Int)) = u := ⟨_, rfl⟩
  have hw3 : IntKind.i64.wrap (v * (1 + (j3 : Int))) = u := by rw [hu]; exact IntWalk.i64_in _ ⟨by omega, by omega⟩
  rw [hu] at hm3 hm3'
  clear hu
  go_wp2_with (fail)
  refine (pick_any rb n c cb co _ A _ _ hR6 (by omega)).mono ?_
  rintro e w7 ⟨j4, rfl, hj4, hR7, hK7⟩
  have hj4 := hj4 (by omega)
  have hB7 := below_of hB6 hK7 (Nat.le_refl _) hrb
  have HO7 := Lib.hid (owns_keep HO6.out hK7 (fun g hg hs => by have := HO6.out.lt g hg; omega))
  go_wp2_with (fail)
  go_ret3
  exact ⟨p, A3, c3, xs, _, rfl, hp0, hp1, hl3, by omega, by omega, owns_mono HO7.out hs2, hB7⟩
end Go.Proofs.Ytmmadmfpbancmab

/-
  The contracts of the draws of one and of two beginnings or polynomials.
-/
import Derived.Test.YtmmadmfpbancmabDrawP
import Derived.OwnWalk
namespace Go.Proofs.Ytmmadmfpbancmab
open Go.RowKit
/-- a prime and a row -/
def PR (L : Nat) (w : World) (e : Ending) (w' : World) : Prop :=
  ∃ (p : Int) (A : Option Addr) (c : Nat) (xs : List Int), e = .returned (.tuple #[.int .i64 p, .slice A xs.length c]) ∧ 0 ≤ p ∧ p ≤ 17 ∧ xs.length ≤ L ∧ OI w' w.heap.size A xs.length c xs ∧ Below w.heap.size w w'
/-- a prime and two rows -/
def PRR (L : Nat) (w : World) (e : Ending) (w' : World) : Prop :=
  ∃ (p : Int) (A : Option Addr) (c : Nat) (xs : List Int) (A2 : Option Addr) (c2 : Nat) (ys : List Int), e = .returned (.tuple #[.int .i64 p, .slice A xs.length c, .slice A2 ys.length c2]) ∧ 0 ≤ p ∧ p ≤ 17 ∧ xs.length ≤ L ∧ ys.length ≤ L ∧ OI w' w.heap.size A xs.length c xs ∧ OI w' w.heap.size A2 ys.length c2 ys ∧ Below w.heap.size w w'
theorem below_drw {B rb B2 : Nat} {w w1 w2 : World} (h : Below B w w1) (hk : Keep (Drw rb B2) w1 w2) (hB : B ≤ w.heap.size) (hr : B ≤ rb) (hB2 : B ≤ B2) : Below B w w2 :=
  h.trans (hk.below (Nat.le_trans hB h.size) (fun k hk => by rcases hk with h1 | h1 <;> omega))
theorem drawSeriesBack (a : Option Addr) (len cap : Nat) (zs : List Int) (w : World) (h : IsRow .u8 w a len cap zs) :
    Calls Try.prog 29 #[.slice a len cap] w (PR 33 w) := by
  go_enter Try.func29, Try.ntmps29
  go_wp2_with (fail)
  refine (open_any a len cap zs w h).mono ?_
  rintro e w1 ⟨rb, A, n, c, cb, co, rfl, hR, hB, hrb, hcb⟩
  have hs1 := hB.size
  go_wp2_with (fail)
  refine (prime_any rb n c cb co 0 A _ _ hR (by omega) (by decide) (by decide)).mono ?_
  rintro e w2 ⟨p, rfl, ⟨hp0, hp1⟩, hR2, hK2⟩
  have hB2 := below_of hB hK2 (Nat.le_refl _) hrb
  have hs2 := hB2.size
  go_wp2_with (fail)
  refine (series_any rb n c cb co _ A p 14 12 _ hR2 (by omega) hp0 hp1 (by omega) (by decide) (by decide)).mono ?_
  rintro e w3 ⟨A3, c3, xs, rfl, hl3, hx3, _, hO3, hR3, hK3⟩
  have hB3 := below_drw hB2 hK3 (Nat.le_refl _) hrb hs2
  go_wp2_with (fail)
  go_ret2
  exact ⟨p, A3, c3, xs, rfl, hp0, hp1, by omega, owns_mono hO3 hs2, hB3⟩
theorem drawSeriesTimes (a : Option Addr) (len cap : Nat) (zs : List Int) (w : World) (h : IsRow .u8 w a len cap zs) :
    Calls Try.prog 25 #[.slice a len cap] w (PRR 33 w) := by
  go_enter Try.func25, Try.ntmps25
  go_wp2_with (fail)
  refine (open_any a len cap zs w h).mono ?_
  rintro e w1 ⟨rb, A, n, c, cb, co, rfl, hR, hB, hrb, hcb⟩
  have hs1 := hB.size
  go_wp2_with (fail)
  refine (prime_any rb n c cb co 0 A _ _ hR (by omega) (by decide) (by decide)).mono ?_
  rintro e w2 ⟨p, rfl, ⟨hp0, hp1⟩, hR2, hK2⟩
  have hB2 := below_of hB hK2 (Nat.le_refl _) hrb
  have hs2 := hB2.size
  go_wp2_with (fail)
  refine (series_any rb n c cb co _ A p 12 14 _ hR2 (by omega) hp0 hp1 (by omega) (by decide) (by decide)).mono ?_
  rintro e w3 ⟨A3, c3, xs, rfl, hl3, hx3, _, hO3, hR3, hK3⟩
  have hB3 := below_drw hB2 hK3 (Nat.le_refl _) hrb hs2
  have hs3 := hB3.size
  have HO3 := Lib.hid hO3
  go_wp2_with (fail)
  refine (series_any rb n c cb co _ A p 12 14 _ hR3 (by omega) hp0 hp1 (by omega) (by decide) (by decide)).mono ?_
  rintro e w4 ⟨A4, c4, ys, rfl, hl4, hx4, _, hO4, hR4, hK4⟩
  have hB4 := below_drw hB3 hK4 (Nat.le_refl _) hrb hs3
  have hO3' : OI w4 w.heap.size A3 xs.length c3 xs := owns_mono (owns_keep HO3.out hK4 (fun g hg hs => by have := HO3.out.lt g hg; have := hR2.lt; rcases hs with h1 | h1 <;> omega)) hs2
  have HO3' := Lib.hid hO3'
  clear hO3 hO3'
  go_wp2_with (fail)
  go_ret3
  exact ⟨p, A3, c3, xs, A4, c4, ys, rfl, hp0, hp1, by omega, by omega, HO3'.out, owns_mono hO4 hs3, hB4⟩
end Go.Proofs.Ytmmadmfpbancmab

/-
  The contract of the function that draws a matrix for determinants.
-/
import Derived.Test.YtpelokdgjdljfacDrawMM
namespace Go.Proofs.Ytpelokdgjdljfac
open Go.RowKit
theorem drawMatDet (a : Option Addr) (len cap : Nat) (zs : List Int) (w : World) (h : IsRow .u8 w a len cap zs) :
    Calls Try.prog 5 #[.slice a len cap] w (PM w) := by
  go_enter Try.func5, Try.ntmps5
  go_wp2_with (fail)
  refine (open_any a len cap zs w h).mono ?_
  rintro e w1 ⟨rb, A, n, c, cb, co, rfl, hR, hB, hrb, hcb⟩
  go_wp2_with (fail)
  refine (prime_any rb n c cb co 0 A _ _ hR (by omega) (by omega) (by omega)).mono ?_
  rintro e w2 ⟨p, rfl, ⟨hp0, hp1⟩, hR2, hK2⟩
  go_wp2_with (fail)
  refine (pick_any rb n c cb co _ A _ _ hR2 (by omega)).mono ?_
  rintro e w3 ⟨j1, rfl, hj1, hR3, hK3⟩
  have hj1 := hj1 (by omega)
  go_wp2_with (fail)
  refine (pick_any rb n c cb co _ A _ _ hR3 (by omega)).mono ?_
  rintro e w4 ⟨j2, rfl, hj2, hR4, hK4⟩
  have hj2 := hj2 (by omega)
  have hk := (hK2.trans hK3).trans hK4
  have hs := hk.size
  have hs1 := hB.size
  clear hR hR2 hR3 hK2 hK3 hK4
  go_wp2_with (fail)
  refine (mat_int rb n c cb co _ A _ _ _ _ _ hR4 (by omega) (by omega) (by omega) (by omega) (by omega) (by omega) (by omega) (by omega) (by omega)).mono ?_
  rintro e w5 ⟨Ao, co', M, vs, rfl, hM, hrow, hO, hR5, hK5⟩
  go_wp2_with (fail)
  go_ret2
  exact ⟨_, _, _, _, rfl, ⟨hp0, hp1⟩, (DM.mk hM hrow ⟨vs, hO⟩).mono (by omega), (below_of hB hk (Nat.le_refl _) hrb).trans (hK5.drwBelow (by omega) hrb (by omega))⟩
end Go.Proofs.Ytpelokdgjdljfac

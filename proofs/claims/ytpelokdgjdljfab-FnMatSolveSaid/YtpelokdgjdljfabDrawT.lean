/-
  The contracts of the functions that draw two matrices, a matrix for determinants, and equations.
-/
import Derived.Test.YtpelokdgjdljfabDrawMM
import Derived.OwnWalk
namespace Go.Proofs.Ytpelokdgjdljfab
open Go.RowKit
theorem drawMatTimes (a : Option Addr) (len cap : Nat) (zs : List Int) (w : World) (h : IsRow .u8 w a len cap zs) :
    Calls Try.prog 15 #[.slice a len cap] w (PMM w) := by
  go_enter Try.func15, Try.ntmps15
  go_wp2_with (fail)
  refine (open_any a len cap zs w h).mono ?_
  rintro e w1 ⟨rb, A, n, c, cb, co, rfl, hR, hB, hrb, hcb⟩
  go_wp2_with (fail)
  refine (prime_any rb n c cb co 0 A _ _ hR (by omega) (by omega) (by omega)).mono ?_
  rintro e w2 ⟨p, rfl, ⟨hp0, hp1⟩, hR2, hK2⟩
  go_wp2_with (fail)
  refine (pick_any rb n c cb co _ A _ _ hR2 (by omega)).mono ?_
  rintro e w3 ⟨j1, rfl, hj1, hR3, hK3⟩
  have hj1 := hj1 (by omega)
  go_wp2_with (fail)
  refine (pick_any rb n c cb co _ A _ _ hR3 (by omega)).mono ?_
  rintro e w4 ⟨j2, rfl, hj2, hR4, hK4⟩
  have hj2 := hj2 (by omega)
  have hk := (hK2.trans hK3).trans hK4
  have hs := hk.size
  have hs1 := hB.size
  clear hR hR2 hR3 hK2 hK3 hK4
  go_wp2_with (fail)
  refine (mat_int rb n c cb co _ A _ _ _ _ _ hR4 (by omega) (by omega) (by omega) (by omega) (by omega) (by omega) (by omega) (by omega) (by omega)).mono ?_
  rintro e w5 ⟨Ao, co', M, vs, rfl, hM, hrow, hO, hR5, hK5⟩
  have hD5 := (DM.mk hM hrow ⟨vs, hO⟩)
  have hlt4 := hR4.lt
  have hs5 := hK5.size
  have HK5 := Lib.hid hK5
  clear hO hR4 hK5
  go_wp2_with (fail)
  refine (pick_any rb n c cb co _ A _ _ hR5 (by omega)).mono ?_
  rintro e w6 ⟨j3, rfl, hj3, hR6, hK6⟩
  have hj3 := hj3 (by omega)
  have hD6 := hD5.keep hK6 (fun g h1 _ h2 => by omega)
  have hs6 := hK6.size
  have HK6 := Lib.hid hK6
  clear hR5 hK6 hD5
  go_wp2_with (fail)
  refine (pick_any rb n c cb co _ A _ _ hR6 (by omega)).mono ?_
  rintro e w7 ⟨j4, rfl, hj4, hR7, hK7⟩
  have hj4 := hj4 (by omega)
  have hD7 := hD6.keep hK7 (fun g h1 _ h2 => by omega)
  have hs7 := hK7.size
  have HK7 := Lib.hid hK7
  clear hR6 hK7 hD6
  go_wp2_with (fail)
  refine (mat_int rb n c cb co _ A _ _ _ _ _ hR7 (by omega) (by omega) (by omega) (by omega) (by omega) (by omega) (by omega) (by omega) (by omega)).mono ?_
  rintro e w8 ⟨Ao2, co2, M2, vs2, rfl, hM2, hrow2, hO2, hR8, hK8⟩
  have hD8 := (DM.mk hM2 hrow2 ⟨vs2, hO2⟩)
  have hD9 := hD7.keep hK8 (fun g h1 h3 h2 => by rcases h2 with h2 | h2 <;> omega)
  go_wp2_with (fail)
  go_ret3
  refine ⟨_, _, _, _, _, _, _, rfl, ⟨hp0, hp1⟩, hD9.mono (by omega), hD8.mono (by omega), ?_⟩
  have hk2 := HK6.out.trans HK7.out
  exact (((below_of hB hk (Nat.le_refl _) hrb).trans (HK5.out.drwBelow (by omega) hrb (by omega))).trans (hk2.drwR.drwBelow (B := w.heap.size) (by omega) hrb (by omega))).trans (hK8.drwBelow (by omega) hrb (by omega))
end Go.Proofs.Ytpelokdgjdljfab

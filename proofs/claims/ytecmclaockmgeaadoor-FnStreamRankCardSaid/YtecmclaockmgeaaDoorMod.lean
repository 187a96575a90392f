/-
  The contract of the model's l1Mod.
-/
import Derived.Test.YtecmclaockmgeaaDoorNum
namespace Go.Proofs.YtecmclaockmgeaaDoor
open Go.RowKit
theorem l1Mod_eq {p n : Int} : (n.tmod p + p) % p = n % p := by
  rw [Int.add_emod_right]
  have h : n = p * n.tdiv p + n.tmod p := (Int.mul_tdiv_add_tmod n p).symm
  conv => rhs; rw [h]
  rw [Int.mul_add_emod_self_left]
theorem l1Mod_any (p n : Int) (w : World) (hp : 2 ≤ p) (hp' : p ≤ 13) :
    Calls Tryd.prog 57 #[.int .i64 p, .int .i64 n] w fun e w' => e = .returned (.int .i64 (n % p)) ∧ w = w' := by
  have t1 : -p < n.tmod p := Int.lt_tmod_of_pos n (by omega)
  have t2 : n.tmod p < p := Int.tmod_lt_of_pos n (by omega)
  have HE := Lib.hid (l1Mod_eq (p := p) (n := n))
  go_enter Tryd.func57, Tryd.ntmps57
  go_wp2_with (fail)
  go_ret
  exact ⟨ret_int HE.out, rfl⟩
theorem l1Mod_is {p n u : Int} (h : n % p = u) (w : World) (hp : 2 ≤ p) (hp' : p ≤ 13) :
    Calls Tryd.prog 57 #[.int .i64 p, .int .i64 n] w fun e w' => e = .returned (.int .i64 u) ∧ w = w' := by subst h; exact l1Mod_any p n w hp hp'
end Go.Proofs.YtecmclaockmgeaaDoor

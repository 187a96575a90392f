/-
  The contracts of the draws of one and of two beginnings or polynomials.
-/
import Derived.Test.YtllakclbgmingaaDrawP
import Derived.OwnWalk
namespace Go.Proofs.Ytllakclbgmingaa
open Go.RowKit
/-- a prime and a row -/
def PR (L : Nat) (w : World) (e : Ending) (w' : World) : Prop :=
  ∃ (p : Int) (A : Option Addr) (c : Nat) (xs : List Int), e = .returned (.tuple #[.int .i64 p, .slice A xs.length c]) ∧ 0 ≤ p ∧ p ≤ 17 ∧ xs.length ≤ L ∧ OI w' w.heap.size A xs.length c xs ∧ Below w.heap.size w w'
/-- a prime and two rows -/
def PRR (L : Nat) (w : World) (e : Ending) (w' : World) : Prop :=
  ∃ (p : Int) (A : Option Addr) (c : Nat) (xs : List Int) (A2 : Option Addr) (c2 : Nat) (ys : List Int), e = .returned (.tuple #[.int .i64 p, .slice A xs.length c, .slice A2 ys.length c2]) ∧ 0 ≤ p ∧ p ≤ 17 ∧ xs.length ≤ L ∧ ys.length ≤ L ∧ OI w' w.heap.size A xs.length c xs ∧ OI w' w.heap.size A2 ys.length c2 ys ∧ Below w.heap.size w w'
theorem below_drw {B rb B2 : Nat} {w w1 w2 : World} (h : Below B w w1) (hk : Keep (Drw rb B2) w1 w2) (hB : B ≤ w.heap.size) (hr : B ≤ rb) (hB2 : B ≤ B2) : Below B w w2 :=
  h.trans (hk.below (Nat.le_trans hB h.size) (fun k hk => by rcases hk with h1 | h1 <;> omega))
end Go.Proofs.Ytllakclbgmingaa

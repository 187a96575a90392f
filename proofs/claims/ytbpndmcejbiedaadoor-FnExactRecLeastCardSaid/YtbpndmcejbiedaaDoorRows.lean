/-
  NARROWER THAN 'FOR EVERY INPUT', by the rows' own cells (each row's printed sentence says how): FnExactFracOf: ifaces, laid · FnExactRecOf: ifaces, laid · FnExactRecLeast: ifaces, laid.
  DERIVED. THE GIVEN ROWS OF THIS SEAT. 3 by the template 'for every input the law returns true; each argument reads behind the call as it read before'; 0 by the template 'total and deterministic' (their statements: YtbpndmcejbiedaaDoorTotals.lean).
  GIVEN WITH THE SEED: the statements are not yours to turn. If you find one false, say at which input.
  Laid BY PROGRAM, IN A SANDBOX (cutbox-rows.mjs): the forced cells as the released guide's own fill.sh prints them over the translation a3dae13ab9e474de… (all of the seat's roots in one cut). By AI agents, Wed Nov 11 2026. No macro, syntax, notation, axiom, sorry.
-/
import Derived.Test.YtbpndmcejbiedaaDoorChecked
import GoSem.Claim
import GoSem.ClaimJoined
import GoSem.ClaimMapViews
import Derived.JoinedTies
import Derived.KernelRfl
namespace Go.Proofs.YtbpndmcejbiedaaDoor
/- THE CELL 'sum', in the pinned program and in every row, IS THE sha256 OF THE DUMP (.gsa) THAT YtbpndmcejbiedaaDoorProg.lean LOADS. Nothing in Lean hashes anything: it is a label: what it is worth is what the hold of that sum in a sandbox is worth. -/
noncomputable def Tryd.pinned : Pinned := { name := "ytbpndmcejbiedaadoor", sum := "a3dae13ab9e474de4534f89051dc12e52e3e98cedab38b870057d4389f454c4e", checked := Tryd.checked }
namespace Rows
def none {H : Type} : Left H := { results := [], args := [] }

/- WHAT THE LISTED PACKAGE-LEVEL VARIABLES READ AS WHEN THE CALL BEGINS. Each datum BY PROGRAM (the guide's laid-datum.mjs) off the statement by which the dump's own 'gosem.cut.vars' lays the variable. In a bare row this is a premise. The card (YtbpndmcejbiedaaDoorCards.lean) ties it to the program's text. -/
def laid_loop_example_rationalstreams_impl_errNoInverse {H : Type} : DataW H := .iface "*errors.errorString" (.ptr (.agg [.lit (.string [116, 104, 101, 32, 108, 111, 119, 101, 114, 32, 112, 111, 108, 121, 110, 111, 109, 105, 97, 108, 32, 104, 97, 115, 32, 110, 111, 32, 105, 110, 118, 101, 114, 115, 101])]))

/-- 'laws.FnExactFracOf': WHATEVER THE INPUT: true; the input reads as it did. -/
def fnExactFracOfSpec : ChangeSpec := { name := "fnExactFracOf", vars := ["loop.example/rationalstreams/impl.errNoInverse"], fn := fun _ => fun
  | [d, g1] => { results := [.lit (.bool true)], args := [d], vars := [g1] }
  | _ => none }
def fnExactFracOfRow : OpenClaim := { program := "ytbpndmcejbiedaadoor", sum := "a3dae13ab9e474de4534f89051dc12e52e3e98cedab38b870057d4389f454c4e", func := "loop.example/rationalstreams/laws.FnExactFracOf", spec := "fnExactFracOf", inPlace := ["internal/reflectlite.TypeOf"], unfollowed := true, recurses := true, named := ["loop.example/rationalstreams/impl.errNoInverse"], ifaces := true, apart := false, laid := [("loop.example/rationalstreams/impl.errNoInverse", laid_loop_example_rationalstreams_impl_errNoInverse)] }
def FnExactFracOfSaid : Prop := fnExactFracOfRow.holds Tryd.pinned (OpenSpec.ofChange fnExactFracOfSpec)

/-- ITS FALSE NEIGHBOUR: 'it returns false'. Refute it at one input. -/
def fnExactFracOfWrong : ChangeSpec := { name := "fnExactFracOf", vars := ["loop.example/rationalstreams/impl.errNoInverse"], fn := fun _ => fun
  | [d, g1] => { results := [.lit (.bool false)], args := [d], vars := [g1] }
  | _ => none }
def FnExactFracOfWrongFalsely : Prop := fnExactFracOfRow.holds Tryd.pinned (OpenSpec.ofChange fnExactFracOfWrong)

/-- 'laws.FnExactRecOf': WHATEVER THE INPUT: true; the input reads as it did. -/
def fnExactRecOfSpec : ChangeSpec := { name := "fnExactRecOf", vars := ["loop.example/rationalstreams/impl.errNoInverse"], fn := fun _ => fun
  | [d, g1] => { results := [.lit (.bool true)], args := [d], vars := [g1] }
  | _ => none }
def fnExactRecOfRow : OpenClaim := { program := "ytbpndmcejbiedaadoor", sum := "a3dae13ab9e474de4534f89051dc12e52e3e98cedab38b870057d4389f454c4e", func := "loop.example/rationalstreams/laws.FnExactRecOf", spec := "fnExactRecOf", inPlace := ["internal/reflectlite.TypeOf"], unfollowed := true, recurses := true, named := ["loop.example/rationalstreams/impl.errNoInverse"], ifaces := true, apart := false, laid := [("loop.example/rationalstreams/impl.errNoInverse", laid_loop_example_rationalstreams_impl_errNoInverse)] }
def FnExactRecOfSaid : Prop := fnExactRecOfRow.holds Tryd.pinned (OpenSpec.ofChange fnExactRecOfSpec)

/-- ITS FALSE NEIGHBOUR: 'it returns false'. Refute it at one input. -/
def fnExactRecOfWrong : ChangeSpec := { name := "fnExactRecOf", vars := ["loop.example/rationalstreams/impl.errNoInverse"], fn := fun _ => fun
  | [d, g1] => { results := [.lit (.bool false)], args := [d], vars := [g1] }
  | _ => none }
def FnExactRecOfWrongFalsely : Prop := fnExactRecOfRow.holds Tryd.pinned (OpenSpec.ofChange fnExactRecOfWrong)

/-- 'laws.FnExactRecLeast': WHATEVER THE INPUT: true; the input reads as it did. -/
def fnExactRecLeastSpec : ChangeSpec := { name := "fnExactRecLeast", vars := ["loop.example/rationalstreams/impl.errNoInverse"], fn := fun _ => fun
  | [d, g1] => { results := [.lit (.bool true)], args := [d], vars := [g1] }
  | _ => none }
def fnExactRecLeastRow : OpenClaim := { program := "ytbpndmcejbiedaadoor", sum := "a3dae13ab9e474de4534f89051dc12e52e3e98cedab38b870057d4389f454c4e", func := "loop.example/rationalstreams/laws.FnExactRecLeast", spec := "fnExactRecLeast", inPlace := ["internal/reflectlite.TypeOf"], unfollowed := true, recurses := true, named := ["loop.example/rationalstreams/impl.errNoInverse"], ifaces := true, apart := false, laid := [("loop.example/rationalstreams/impl.errNoInverse", laid_loop_example_rationalstreams_impl_errNoInverse)] }
def FnExactRecLeastSaid : Prop := fnExactRecLeastRow.holds Tryd.pinned (OpenSpec.ofChange fnExactRecLeastSpec)

/-- ITS FALSE NEIGHBOUR: 'it returns false'. Refute it at one input. -/
def fnExactRecLeastWrong : ChangeSpec := { name := "fnExactRecLeast", vars := ["loop.example/rationalstreams/impl.errNoInverse"], fn := fun _ => fun
  | [d, g1] => { results := [.lit (.bool false)], args := [d], vars := [g1] }
  | _ => none }
def FnExactRecLeastWrongFalsely : Prop := fnExactRecLeastRow.holds Tryd.pinned (OpenSpec.ofChange fnExactRecLeastWrong)

/- THE SECOND FORM. 'bulk': how many values and letters a reading holds, each counted each time it is reached (what is shared counts as often as it is met; a slice's spare places count too). A statement '..UptoSaid' is the law's where the arguments, and the package variables that the reading takes, are together of bulk at most 1048576: NARROWER than '..Said'. Prove '..Said' where nothing that the law and all that it calls make is longer than what came in: it says more and counts as full. Else prove '..UptoSaid'. A law counts once. -/
mutual
def uptoBulk {H : Type} : DataW H → Nat
  | .lit (.string bytes) => bytes.length + 1
  | .lit _ => 1
  | .nil => 1
  | .ptr d => uptoBulk d + 1
  | .slice elems spare => uptoBulkAll elems + uptoBulkAll spare + 1
  | .agg parts => uptoBulkAll parts + 1
  | .iface _ d => uptoBulk d + 1
  | .map entries => uptoBulkEntries entries + 1
  | .held _ => 1
def uptoBulkAll {H : Type} : List (DataW H) → Nat
  | [] => 0
  | d :: r => uptoBulk d + uptoBulkAll r
def uptoBulkEntries {H : Type} : List (Lit × DataW H) → Nat
  | [] => 0
  | x :: r => uptoBulkEntry x + uptoBulkEntries r
def uptoBulkEntry {H : Type} : Lit × DataW H → Nat
  | (.string bytes, d) => bytes.length + uptoBulk d + 1
  | (_, d) => uptoBulk d + 1
 end
def uptoSmall : (H : Type) → List (DataW H) → Bool := fun _ ds => decide (uptoBulkAll ds ≤ 1048576)
def OpenSpec.upto (s : _root_.Go.ChangeSpec) : _root_.Go.OpenSpec := { _root_.Go.OpenSpec.ofChange s with cond := some uptoSmall }

/-- 'laws.FnExactFracOf', WHERE WHAT IT READS IS OF BULK AT MOST 1048576: true; the input reads as it did. -/
def fnExactFracOfUptoRow : OpenClaim := { program := "ytbpndmcejbiedaadoor", sum := "a3dae13ab9e474de4534f89051dc12e52e3e98cedab38b870057d4389f454c4e", func := "loop.example/rationalstreams/laws.FnExactFracOf", spec := "fnExactFracOf", inPlace := ["internal/reflectlite.TypeOf"], unfollowed := true, recurses := true, named := ["loop.example/rationalstreams/impl.errNoInverse"], ifaces := true, apart := false, laid := [("loop.example/rationalstreams/impl.errNoInverse", laid_loop_example_rationalstreams_impl_errNoInverse)], narrowed := true }
def FnExactFracOfUptoSaid : Prop := fnExactFracOfUptoRow.holds Tryd.pinned (OpenSpec.upto fnExactFracOfSpec)

/-- 'laws.FnExactRecOf', WHERE WHAT IT READS IS OF BULK AT MOST 1048576: true; the input reads as it did. -/
def fnExactRecOfUptoRow : OpenClaim := { program := "ytbpndmcejbiedaadoor", sum := "a3dae13ab9e474de4534f89051dc12e52e3e98cedab38b870057d4389f454c4e", func := "loop.example/rationalstreams/laws.FnExactRecOf", spec := "fnExactRecOf", inPlace := ["internal/reflectlite.TypeOf"], unfollowed := true, recurses := true, named := ["loop.example/rationalstreams/impl.errNoInverse"], ifaces := true, apart := false, laid := [("loop.example/rationalstreams/impl.errNoInverse", laid_loop_example_rationalstreams_impl_errNoInverse)], narrowed := true }
def FnExactRecOfUptoSaid : Prop := fnExactRecOfUptoRow.holds Tryd.pinned (OpenSpec.upto fnExactRecOfSpec)

/-- 'laws.FnExactRecLeast', WHERE WHAT IT READS IS OF BULK AT MOST 1048576: true; the input reads as it did. -/
def fnExactRecLeastUptoRow : OpenClaim := { program := "ytbpndmcejbiedaadoor", sum := "a3dae13ab9e474de4534f89051dc12e52e3e98cedab38b870057d4389f454c4e", func := "loop.example/rationalstreams/laws.FnExactRecLeast", spec := "fnExactRecLeast", inPlace := ["internal/reflectlite.TypeOf"], unfollowed := true, recurses := true, named := ["loop.example/rationalstreams/impl.errNoInverse"], ifaces := true, apart := false, laid := [("loop.example/rationalstreams/impl.errNoInverse", laid_loop_example_rationalstreams_impl_errNoInverse)], narrowed := true }
def FnExactRecLeastUptoSaid : Prop := fnExactRecLeastUptoRow.holds Tryd.pinned (OpenSpec.upto fnExactRecLeastSpec)

end Rows
end Go.Proofs.YtbpndmcejbiedaaDoor

/-
  NARROWER THAN 'FOR EVERY INPUT', by the rows' own cells (each row's printed sentence says how): FnFracLeast: ifaces, laid · FnExactFracLeast: ifaces, laid · FnFracSame: ifaces, laid · FnExactFracSame: ifaces, laid · FnFracBack: ifaces, laid · FnExactFracBack: ifaces, laid.
  DERIVED. THE GIVEN ROWS OF THIS SEAT. 6 by the template 'for every input the law returns true; each argument reads behind the call as it read before'; 0 by the template 'total and deterministic' (their statements: YtllakclbgmingabDoorTotals.lean).
  GIVEN WITH THE SEED: the statements are not yours to turn. If you find one false, say at which input.
  Laid BY PROGRAM, IN A SANDBOX (cutbox-rows.mjs): the forced cells as the released guide's own fill.sh prints them over the translation 330278ddbbf34bf6… (all of the seat's roots in one cut). By AI agents, Wed Nov 11 2026. No macro, syntax, notation, axiom, sorry.
-/
import Derived.Test.YtllakclbgmingabDoorChecked
import GoSem.Claim
import GoSem.ClaimJoined
import GoSem.ClaimMapViews
import Derived.JoinedTies
import Derived.KernelRfl
namespace Go.Proofs.YtllakclbgmingabDoor
/- THE CELL 'sum', in the pinned program and in every row, IS THE sha256 OF THE DUMP (.gsa) THAT YtllakclbgmingabDoorProg.lean LOADS. Nothing in Lean hashes anything: it is a label: what it is worth is what the hold of that sum in a sandbox is worth. -/
noncomputable def Tryd.pinned : Pinned := { name := "ytllakclbgmingabdoor", sum := "330278ddbbf34bf65b03eb42ce067bae3590c7addd7c53fffa27600728c5bada", checked := Tryd.checked }
namespace Rows
def none {H : Type} : Left H := { results := [], args := [] }

/- WHAT THE LISTED PACKAGE-LEVEL VARIABLES READ AS WHEN THE CALL BEGINS. Each datum BY PROGRAM (the guide's laid-datum.mjs) off the statement by which the dump's own 'gosem.cut.vars' lays the variable. In a bare row this is a premise. The card (YtllakclbgmingabDoorCards.lean) ties it to the program's text. -/
def laid_loop_example_rationalstreams_impl_errNoInverse {H : Type} : DataW H := .iface "*errors.errorString" (.ptr (.agg [.lit (.string [116, 104, 101, 32, 108, 111, 119, 101, 114, 32, 112, 111, 108, 121, 110, 111, 109, 105, 97, 108, 32, 104, 97, 115, 32, 110, 111, 32, 105, 110, 118, 101, 114, 115, 101])]))

/-- 'laws.FnFracLeast': WHATEVER THE INPUT: true; the input reads as it did. -/
def fnFracLeastSpec : ChangeSpec := { name := "fnFracLeast", vars := ["loop.example/rationalstreams/impl.errNoInverse"], fn := fun _ => fun
  | [d, g1] => { results := [.lit (.bool true)], args := [d], vars := [g1] }
  | _ => none }
def fnFracLeastRow : OpenClaim := { program := "ytllakclbgmingabdoor", sum := "330278ddbbf34bf65b03eb42ce067bae3590c7addd7c53fffa27600728c5bada", func := "loop.example/rationalstreams/laws.FnFracLeast", spec := "fnFracLeast", inPlace := ["internal/reflectlite.TypeOf"], unfollowed := true, recurses := true, named := ["loop.example/rationalstreams/impl.errNoInverse"], ifaces := true, apart := false, laid := [("loop.example/rationalstreams/impl.errNoInverse", laid_loop_example_rationalstreams_impl_errNoInverse)] }
def FnFracLeastSaid : Prop := fnFracLeastRow.holds Tryd.pinned (OpenSpec.ofChange fnFracLeastSpec)

/-- ITS FALSE NEIGHBOUR: 'it returns false'. Refute it at one input. -/
def fnFracLeastWrong : ChangeSpec := { name := "fnFracLeast", vars := ["loop.example/rationalstreams/impl.errNoInverse"], fn := fun _ => fun
  | [d, g1] => { results := [.lit (.bool false)], args := [d], vars := [g1] }
  | _ => none }
def FnFracLeastWrongFalsely : Prop := fnFracLeastRow.holds Tryd.pinned (OpenSpec.ofChange fnFracLeastWrong)

/-- 'laws.FnExactFracLeast': WHATEVER THE INPUT: true; the input reads as it did. -/
def fnExactFracLeastSpec : ChangeSpec := { name := "fnExactFracLeast", vars := ["loop.example/rationalstreams/impl.errNoInverse"], fn := fun _ => fun
  | [d, g1] => { results := [.lit (.bool true)], args := [d], vars := [g1] }
  | _ => none }
def fnExactFracLeastRow : OpenClaim := { program := "ytllakclbgmingabdoor", sum := "330278ddbbf34bf65b03eb42ce067bae3590c7addd7c53fffa27600728c5bada", func := "loop.example/rationalstreams/laws.FnExactFracLeast", spec := "fnExactFracLeast", inPlace := ["internal/reflectlite.TypeOf"], unfollowed := true, recurses := true, named := ["loop.example/rationalstreams/impl.errNoInverse"], ifaces := true, apart := false, laid := [("loop.example/rationalstreams/impl.errNoInverse", laid_loop_example_rationalstreams_impl_errNoInverse)] }
def FnExactFracLeastSaid : Prop := fnExactFracLeastRow.holds Tryd.pinned (OpenSpec.ofChange fnExactFracLeastSpec)

/-- ITS FALSE NEIGHBOUR: 'it returns false'. Refute it at one input. -/
def fnExactFracLeastWrong : ChangeSpec := { name := "fnExactFracLeast", vars := ["loop.example/rationalstreams/impl.errNoInverse"], fn := fun _ => fun
  | [d, g1] => { results := [.lit (.bool false)], args := [d], vars := [g1] }
  | _ => none }
def FnExactFracLeastWrongFalsely : Prop := fnExactFracLeastRow.holds Tryd.pinned (OpenSpec.ofChange fnExactFracLeastWrong)

/-- 'laws.FnFracSame': WHATEVER THE INPUT: true; the input reads as it did. -/
def fnFracSameSpec : ChangeSpec := { name := "fnFracSame", vars := ["loop.example/rationalstreams/impl.errNoInverse"], fn := fun _ => fun
  | [d, g1] => { results := [.lit (.bool true)], args := [d], vars := [g1] }
  | _ => none }
def fnFracSameRow : OpenClaim := { program := "ytllakclbgmingabdoor", sum := "330278ddbbf34bf65b03eb42ce067bae3590c7addd7c53fffa27600728c5bada", func := "loop.example/rationalstreams/laws.FnFracSame", spec := "fnFracSame", inPlace := ["internal/reflectlite.TypeOf"], unfollowed := true, recurses := true, named := ["loop.example/rationalstreams/impl.errNoInverse"], ifaces := true, apart := false, laid := [("loop.example/rationalstreams/impl.errNoInverse", laid_loop_example_rationalstreams_impl_errNoInverse)] }
def FnFracSameSaid : Prop := fnFracSameRow.holds Tryd.pinned (OpenSpec.ofChange fnFracSameSpec)

/-- ITS FALSE NEIGHBOUR: 'it returns false'. Refute it at one input. -/
def fnFracSameWrong : ChangeSpec := { name := "fnFracSame", vars := ["loop.example/rationalstreams/impl.errNoInverse"], fn := fun _ => fun
  | [d, g1] => { results := [.lit (.bool false)], args := [d], vars := [g1] }
  | _ => none }
def FnFracSameWrongFalsely : Prop := fnFracSameRow.holds Tryd.pinned (OpenSpec.ofChange fnFracSameWrong)

/-- 'laws.FnExactFracSame': WHATEVER THE INPUT: true; the input reads as it did. -/
def fnExactFracSameSpec : ChangeSpec := { name := "fnExactFracSame", vars := ["loop.example/rationalstreams/impl.errNoInverse"], fn := fun _ => fun
  | [d1, d2, g1] => { results := [.lit (.bool true)], args := [d1, d2], vars := [g1] }
  | _ => none }
def fnExactFracSameRow : OpenClaim := { program := "ytllakclbgmingabdoor", sum := "330278ddbbf34bf65b03eb42ce067bae3590c7addd7c53fffa27600728c5bada", func := "loop.example/rationalstreams/laws.FnExactFracSame", spec := "fnExactFracSame", inPlace := ["internal/reflectlite.TypeOf"], unfollowed := true, recurses := true, named := ["loop.example/rationalstreams/impl.errNoInverse"], ifaces := true, apart := false, laid := [("loop.example/rationalstreams/impl.errNoInverse", laid_loop_example_rationalstreams_impl_errNoInverse)] }
def FnExactFracSameSaid : Prop := fnExactFracSameRow.holds Tryd.pinned (OpenSpec.ofChange fnExactFracSameSpec)

/-- ITS FALSE NEIGHBOUR: 'it returns false'. Refute it at one input. -/
def fnExactFracSameWrong : ChangeSpec := { name := "fnExactFracSame", vars := ["loop.example/rationalstreams/impl.errNoInverse"], fn := fun _ => fun
  | [d1, d2, g1] => { results := [.lit (.bool false)], args := [d1, d2], vars := [g1] }
  | _ => none }
def FnExactFracSameWrongFalsely : Prop := fnExactFracSameRow.holds Tryd.pinned (OpenSpec.ofChange fnExactFracSameWrong)

/-- 'laws.FnFracBack': WHATEVER THE INPUT: true; the input reads as it did. -/
def fnFracBackSpec : ChangeSpec := { name := "fnFracBack", vars := ["loop.example/rationalstreams/impl.errNoInverse"], fn := fun _ => fun
  | [d, g1] => { results := [.lit (.bool true)], args := [d], vars := [g1] }
  | _ => none }
def fnFracBackRow : OpenClaim := { program := "ytllakclbgmingabdoor", sum := "330278ddbbf34bf65b03eb42ce067bae3590c7addd7c53fffa27600728c5bada", func := "loop.example/rationalstreams/laws.FnFracBack", spec := "fnFracBack", inPlace := ["internal/reflectlite.TypeOf"], unfollowed := true, recurses := true, named := ["loop.example/rationalstreams/impl.errNoInverse"], ifaces := true, apart := false, laid := [("loop.example/rationalstreams/impl.errNoInverse", laid_loop_example_rationalstreams_impl_errNoInverse)] }
def FnFracBackSaid : Prop := fnFracBackRow.holds Tryd.pinned (OpenSpec.ofChange fnFracBackSpec)

/-- ITS FALSE NEIGHBOUR: 'it returns false'. Refute it at one input. -/
def fnFracBackWrong : ChangeSpec := { name := "fnFracBack", vars := ["loop.example/rationalstreams/impl.errNoInverse"], fn := fun _ => fun
  | [d, g1] => { results := [.lit (.bool false)], args := [d], vars := [g1] }
  | _ => none }
def FnFracBackWrongFalsely : Prop := fnFracBackRow.holds Tryd.pinned (OpenSpec.ofChange fnFracBackWrong)

/-- 'laws.FnExactFracBack': WHATEVER THE INPUT: true; the input reads as it did. -/
def fnExactFracBackSpec : ChangeSpec := { name := "fnExactFracBack", vars := ["loop.example/rationalstreams/impl.errNoInverse"], fn := fun _ => fun
  | [d, g1] => { results := [.lit (.bool true)], args := [d], vars := [g1] }
  | _ => none }
def fnExactFracBackRow : OpenClaim := { program := "ytllakclbgmingabdoor", sum := "330278ddbbf34bf65b03eb42ce067bae3590c7addd7c53fffa27600728c5bada", func := "loop.example/rationalstreams/laws.FnExactFracBack", spec := "fnExactFracBack", inPlace := ["internal/reflectlite.TypeOf"], unfollowed := true, recurses := true, named := ["loop.example/rationalstreams/impl.errNoInverse"], ifaces := true, apart := false, laid := [("loop.example/rationalstreams/impl.errNoInverse", laid_loop_example_rationalstreams_impl_errNoInverse)] }
def FnExactFracBackSaid : Prop := fnExactFracBackRow.holds Tryd.pinned (OpenSpec.ofChange fnExactFracBackSpec)

/-- ITS FALSE NEIGHBOUR: 'it returns false'. Refute it at one input. -/
def fnExactFracBackWrong : ChangeSpec := { name := "fnExactFracBack", vars := ["loop.example/rationalstreams/impl.errNoInverse"], fn := fun _ => fun
  | [d, g1] => { results := [.lit (.bool false)], args := [d], vars := [g1] }
  | _ => none }
def FnExactFracBackWrongFalsely : Prop := fnExactFracBackRow.holds Tryd.pinned (OpenSpec.ofChange fnExactFracBackWrong)

/- THE SECOND FORM. 'bulk': how many values and letters a reading holds, each counted each time it is reached (what is shared counts as often as it is met; a slice's spare places count too). A statement '..UptoSaid' is the law's where the arguments, and the package variables that the reading takes, are together of bulk at most 1048576: NARROWER than '..Said'. Prove '..Said' where nothing that the law and all that it calls make is longer than what came in: it says more and counts as full. Else prove '..UptoSaid'. A law counts once. -/
mutual
def uptoBulk {H : Type} : DataW H → Nat
  | .lit (.string bytes) => bytes.length + 1
  | .lit _ => 1
  | .nil => 1
  | .ptr d => uptoBulk d + 1
  | .slice elems spare => uptoBulkAll elems + uptoBulkAll spare + 1
  | .agg parts => uptoBulkAll parts + 1
  | .iface _ d => uptoBulk d + 1
  | .map entries => uptoBulkEntries entries + 1
  | .held _ => 1
def uptoBulkAll {H : Type} : List (DataW H) → Nat
  | [] => 0
  | d :: r => uptoBulk d + uptoBulkAll r
def uptoBulkEntries {H : Type} : List (Lit × DataW H) → Nat
  | [] => 0
  | x :: r => uptoBulkEntry x + uptoBulkEntries r
def uptoBulkEntry {H : Type} : Lit × DataW H → Nat
  | (.string bytes, d) => bytes.length + uptoBulk d + 1
  | (_, d) => uptoBulk d + 1
 end
def uptoSmall : (H : Type) → List (DataW H) → Bool := fun _ ds => decide (uptoBulkAll ds ≤ 1048576)
def OpenSpec.upto (s : _root_.Go.ChangeSpec) : _root_.Go.OpenSpec := { _root_.Go.OpenSpec.ofChange s with cond := some uptoSmall }

/-- 'laws.FnFracLeast', WHERE WHAT IT READS IS OF BULK AT MOST 1048576: true; the input reads as it did. -/
def fnFracLeastUptoRow : OpenClaim := { program := "ytllakclbgmingabdoor", sum := "330278ddbbf34bf65b03eb42ce067bae3590c7addd7c53fffa27600728c5bada", func := "loop.example/rationalstreams/laws.FnFracLeast", spec := "fnFracLeast", inPlace := ["internal/reflectlite.TypeOf"], unfollowed := true, recurses := true, named := ["loop.example/rationalstreams/impl.errNoInverse"], ifaces := true, apart := false, laid := [("loop.example/rationalstreams/impl.errNoInverse", laid_loop_example_rationalstreams_impl_errNoInverse)], narrowed := true }
def FnFracLeastUptoSaid : Prop := fnFracLeastUptoRow.holds Tryd.pinned (OpenSpec.upto fnFracLeastSpec)

/-- 'laws.FnExactFracLeast', WHERE WHAT IT READS IS OF BULK AT MOST 1048576: true; the input reads as it did. -/
def fnExactFracLeastUptoRow : OpenClaim := { program := "ytllakclbgmingabdoor", sum := "330278ddbbf34bf65b03eb42ce067bae3590c7addd7c53fffa27600728c5bada", func := "loop.example/rationalstreams/laws.FnExactFracLeast", spec := "fnExactFracLeast", inPlace := ["internal/reflectlite.TypeOf"], unfollowed := true, recurses := true, named := ["loop.example/rationalstreams/impl.errNoInverse"], ifaces := true, apart := false, laid := [("loop.example/rationalstreams/impl.errNoInverse", laid_loop_example_rationalstreams_impl_errNoInverse)], narrowed := true }
def FnExactFracLeastUptoSaid : Prop := fnExactFracLeastUptoRow.holds Tryd.pinned (OpenSpec.upto fnExactFracLeastSpec)

/-- 'laws.FnFracSame', WHERE WHAT IT READS IS OF BULK AT MOST 1048576: true; the input reads as it did. -/
def fnFracSameUptoRow : OpenClaim := { program := "ytllakclbgmingabdoor", sum := "330278ddbbf34bf65b03eb42ce067bae3590c7addd7c53fffa27600728c5bada", func := "loop.example/rationalstreams/laws.FnFracSame", spec := "fnFracSame", inPlace := ["internal/reflectlite.TypeOf"], unfollowed := true, recurses := true, named := ["loop.example/rationalstreams/impl.errNoInverse"], ifaces := true, apart := false, laid := [("loop.example/rationalstreams/impl.errNoInverse", laid_loop_example_rationalstreams_impl_errNoInverse)], narrowed := true }
def FnFracSameUptoSaid : Prop := fnFracSameUptoRow.holds Tryd.pinned (OpenSpec.upto fnFracSameSpec)

/-- 'laws.FnExactFracSame', WHERE WHAT IT READS IS OF BULK AT MOST 1048576: true; the input reads as it did. -/
def fnExactFracSameUptoRow : OpenClaim := { program := "ytllakclbgmingabdoor", sum := "330278ddbbf34bf65b03eb42ce067bae3590c7addd7c53fffa27600728c5bada", func := "loop.example/rationalstreams/laws.FnExactFracSame", spec := "fnExactFracSame", inPlace := ["internal/reflectlite.TypeOf"], unfollowed := true, recurses := true, named := ["loop.example/rationalstreams/impl.errNoInverse"], ifaces := true, apart := false, laid := [("loop.example/rationalstreams/impl.errNoInverse", laid_loop_example_rationalstreams_impl_errNoInverse)], narrowed := true }
def FnExactFracSameUptoSaid : Prop := fnExactFracSameUptoRow.holds Tryd.pinned (OpenSpec.upto fnExactFracSameSpec)

/-- 'laws.FnFracBack', WHERE WHAT IT READS IS OF BULK AT MOST 1048576: true; the input reads as it did. -/
def fnFracBackUptoRow : OpenClaim := { program := "ytllakclbgmingabdoor", sum := "330278ddbbf34bf65b03eb42ce067bae3590c7addd7c53fffa27600728c5bada", func := "loop.example/rationalstreams/laws.FnFracBack", spec := "fnFracBack", inPlace := ["internal/reflectlite.TypeOf"], unfollowed := true, recurses := true, named := ["loop.example/rationalstreams/impl.errNoInverse"], ifaces := true, apart := false, laid := [("loop.example/rationalstreams/impl.errNoInverse", laid_loop_example_rationalstreams_impl_errNoInverse)], narrowed := true }
def FnFracBackUptoSaid : Prop := fnFracBackUptoRow.holds Tryd.pinned (OpenSpec.upto fnFracBackSpec)

/-- 'laws.FnExactFracBack', WHERE WHAT IT READS IS OF BULK AT MOST 1048576: true; the input reads as it did. -/
def fnExactFracBackUptoRow : OpenClaim := { program := "ytllakclbgmingabdoor", sum := "330278ddbbf34bf65b03eb42ce067bae3590c7addd7c53fffa27600728c5bada", func := "loop.example/rationalstreams/laws.FnExactFracBack", spec := "fnExactFracBack", inPlace := ["internal/reflectlite.TypeOf"], unfollowed := true, recurses := true, named := ["loop.example/rationalstreams/impl.errNoInverse"], ifaces := true, apart := false, laid := [("loop.example/rationalstreams/impl.errNoInverse", laid_loop_example_rationalstreams_impl_errNoInverse)], narrowed := true }
def FnExactFracBackUptoSaid : Prop := fnExactFracBackUptoRow.holds Tryd.pinned (OpenSpec.upto fnExactFracBackSpec)

end Rows
end Go.Proofs.YtllakclbgmingabDoor

/-
  No cell of these rows narrows 'for every input' (looked for: loops, veiled, ifaces, maps, wideKeys, modest, calm, conditions, laid).
  DERIVED. THE GIVEN ROWS OF THIS SEAT. 8 by the template 'for every input the law returns true; each argument reads behind the call as it read before'; 0 by the template 'total and deterministic' (their statements: YtjpmncpbghlkaabTotals.lean).
  GIVEN WITH THE SEED: the statements are not yours to turn. If you find one false, say at which input.
  Laid BY PROGRAM, IN A SANDBOX (cutbox-rows.mjs): the forced cells as the released guide's own fill.sh prints them over the translation c6d49a2cf815d78c… (all of the seat's roots in one cut). By AI agents, Wed Nov 11 2026. No macro, syntax, notation, axiom, sorry.
-/
import Derived.Test.YtjpmncpbghlkaabChecked
import GoSem.Claim
import GoSem.ClaimJoined
import GoSem.ClaimMapViews
import Derived.JoinedTies
import Derived.KernelRfl
namespace Go.Proofs.Ytjpmncpbghlkaab
/- THE CELL 'sum', in the pinned program and in every row, IS THE sha256 OF THE DUMP (.gsa) THAT YtjpmncpbghlkaabProg.lean LOADS. Nothing in Lean hashes anything: it is a label: what it is worth is what the hold of that sum in a sandbox is worth. -/
noncomputable def Try.pinned : Pinned := { name := "ytjpmncpbghlkaab", sum := "c6d49a2cf815d78cf8d2518db6160163bee9c7ca8ccccc067f21fb46987ccf60", checked := Try.checked }
namespace Rows
def none {H : Type} : Left H := { results := [], args := [] }

/-- 'laws.FnRecFar': WHATEVER THE INPUT: true; the input reads as it did. -/
def fnRecFarSpec : ChangeSpec := { name := "fnRecFar", fn := fun _ => fun
  | [d] => { results := [.lit (.bool true)], args := [d] }
  | _ => none }
def fnRecFarRow : OpenClaim := { program := "ytjpmncpbghlkaab", sum := "c6d49a2cf815d78cf8d2518db6160163bee9c7ca8ccccc067f21fb46987ccf60", func := "loop.example/rationalstreams/laws.FnRecFar", spec := "fnRecFar", unfollowed := true, recurses := true, plainKeys := false, apart := false }
def FnRecFarSaid : Prop := fnRecFarRow.holds Try.pinned (OpenSpec.ofChange fnRecFarSpec)

/-- ITS FALSE NEIGHBOUR: 'it returns false'. Refute it at one input. -/
def fnRecFarWrong : ChangeSpec := { name := "fnRecFar", fn := fun _ => fun
  | [d] => { results := [.lit (.bool false)], args := [d] }
  | _ => none }
def FnRecFarWrongFalsely : Prop := fnRecFarRow.holds Try.pinned (OpenSpec.ofChange fnRecFarWrong)

/-- 'laws.FnExactRecFar': WHATEVER THE INPUT: true; the input reads as it did. -/
def fnExactRecFarSpec : ChangeSpec := { name := "fnExactRecFar", fn := fun _ => fun
  | [d1, d2] => { results := [.lit (.bool true)], args := [d1, d2] }
  | _ => none }
def fnExactRecFarRow : OpenClaim := { program := "ytjpmncpbghlkaab", sum := "c6d49a2cf815d78cf8d2518db6160163bee9c7ca8ccccc067f21fb46987ccf60", func := "loop.example/rationalstreams/laws.FnExactRecFar", spec := "fnExactRecFar", unfollowed := true, recurses := true, plainKeys := false, apart := false }
def FnExactRecFarSaid : Prop := fnExactRecFarRow.holds Try.pinned (OpenSpec.ofChange fnExactRecFarSpec)

/-- ITS FALSE NEIGHBOUR: 'it returns false'. Refute it at one input. -/
def fnExactRecFarWrong : ChangeSpec := { name := "fnExactRecFar", fn := fun _ => fun
  | [d1, d2] => { results := [.lit (.bool false)], args := [d1, d2] }
  | _ => none }
def FnExactRecFarWrongFalsely : Prop := fnExactRecFarRow.holds Try.pinned (OpenSpec.ofChange fnExactRecFarWrong)

/-- 'laws.FnRecAdd': WHATEVER THE INPUT: true; the input reads as it did. -/
def fnRecAddSpec : ChangeSpec := { name := "fnRecAdd", fn := fun _ => fun
  | [d] => { results := [.lit (.bool true)], args := [d] }
  | _ => none }
def fnRecAddRow : OpenClaim := { program := "ytjpmncpbghlkaab", sum := "c6d49a2cf815d78cf8d2518db6160163bee9c7ca8ccccc067f21fb46987ccf60", func := "loop.example/rationalstreams/laws.FnRecAdd", spec := "fnRecAdd", unfollowed := true, recurses := true, plainKeys := false, apart := false }
def FnRecAddSaid : Prop := fnRecAddRow.holds Try.pinned (OpenSpec.ofChange fnRecAddSpec)

/-- ITS FALSE NEIGHBOUR: 'it returns false'. Refute it at one input. -/
def fnRecAddWrong : ChangeSpec := { name := "fnRecAdd", fn := fun _ => fun
  | [d] => { results := [.lit (.bool false)], args := [d] }
  | _ => none }
def FnRecAddWrongFalsely : Prop := fnRecAddRow.holds Try.pinned (OpenSpec.ofChange fnRecAddWrong)

/-- 'laws.FnExactRecAdd': WHATEVER THE INPUT: true; the input reads as it did. -/
def fnExactRecAddSpec : ChangeSpec := { name := "fnExactRecAdd", fn := fun _ => fun
  | [d1, d2] => { results := [.lit (.bool true)], args := [d1, d2] }
  | _ => none }
def fnExactRecAddRow : OpenClaim := { program := "ytjpmncpbghlkaab", sum := "c6d49a2cf815d78cf8d2518db6160163bee9c7ca8ccccc067f21fb46987ccf60", func := "loop.example/rationalstreams/laws.FnExactRecAdd", spec := "fnExactRecAdd", unfollowed := true, recurses := true, plainKeys := false, apart := false }
def FnExactRecAddSaid : Prop := fnExactRecAddRow.holds Try.pinned (OpenSpec.ofChange fnExactRecAddSpec)

/-- ITS FALSE NEIGHBOUR: 'it returns false'. Refute it at one input. -/
def fnExactRecAddWrong : ChangeSpec := { name := "fnExactRecAdd", fn := fun _ => fun
  | [d1, d2] => { results := [.lit (.bool false)], args := [d1, d2] }
  | _ => none }
def FnExactRecAddWrongFalsely : Prop := fnExactRecAddRow.holds Try.pinned (OpenSpec.ofChange fnExactRecAddWrong)

/-- 'laws.FnRecCircle': WHATEVER THE INPUT: true; the input reads as it did. -/
def fnRecCircleSpec : ChangeSpec := { name := "fnRecCircle", fn := fun _ => fun
  | [d] => { results := [.lit (.bool true)], args := [d] }
  | _ => none }
def fnRecCircleRow : OpenClaim := { program := "ytjpmncpbghlkaab", sum := "c6d49a2cf815d78cf8d2518db6160163bee9c7ca8ccccc067f21fb46987ccf60", func := "loop.example/rationalstreams/laws.FnRecCircle", spec := "fnRecCircle", unfollowed := true, recurses := true, plainKeys := false, apart := false }
def FnRecCircleSaid : Prop := fnRecCircleRow.holds Try.pinned (OpenSpec.ofChange fnRecCircleSpec)

/-- ITS FALSE NEIGHBOUR: 'it returns false'. Refute it at one input. -/
def fnRecCircleWrong : ChangeSpec := { name := "fnRecCircle", fn := fun _ => fun
  | [d] => { results := [.lit (.bool false)], args := [d] }
  | _ => none }
def FnRecCircleWrongFalsely : Prop := fnRecCircleRow.holds Try.pinned (OpenSpec.ofChange fnRecCircleWrong)

/-- 'laws.FnExactRecCircle': WHATEVER THE INPUT: true; the input reads as it did. -/
def fnExactRecCircleSpec : ChangeSpec := { name := "fnExactRecCircle", fn := fun _ => fun
  | [d] => { results := [.lit (.bool true)], args := [d] }
  | _ => none }
def fnExactRecCircleRow : OpenClaim := { program := "ytjpmncpbghlkaab", sum := "c6d49a2cf815d78cf8d2518db6160163bee9c7ca8ccccc067f21fb46987ccf60", func := "loop.example/rationalstreams/laws.FnExactRecCircle", spec := "fnExactRecCircle", unfollowed := true, recurses := true, plainKeys := false, apart := false }
def FnExactRecCircleSaid : Prop := fnExactRecCircleRow.holds Try.pinned (OpenSpec.ofChange fnExactRecCircleSpec)

/-- ITS FALSE NEIGHBOUR: 'it returns false'. Refute it at one input. -/
def fnExactRecCircleWrong : ChangeSpec := { name := "fnExactRecCircle", fn := fun _ => fun
  | [d] => { results := [.lit (.bool false)], args := [d] }
  | _ => none }
def FnExactRecCircleWrongFalsely : Prop := fnExactRecCircleRow.holds Try.pinned (OpenSpec.ofChange fnExactRecCircleWrong)

/-- 'laws.FnPolyCommon': WHATEVER THE INPUT: true; the input reads as it did. -/
def fnPolyCommonSpec : ChangeSpec := { name := "fnPolyCommon", fn := fun _ => fun
  | [d] => { results := [.lit (.bool true)], args := [d] }
  | _ => none }
def fnPolyCommonRow : OpenClaim := { program := "ytjpmncpbghlkaab", sum := "c6d49a2cf815d78cf8d2518db6160163bee9c7ca8ccccc067f21fb46987ccf60", func := "loop.example/rationalstreams/laws.FnPolyCommon", spec := "fnPolyCommon", unfollowed := true, recurses := true, plainKeys := false, apart := false }
def FnPolyCommonSaid : Prop := fnPolyCommonRow.holds Try.pinned (OpenSpec.ofChange fnPolyCommonSpec)

/-- ITS FALSE NEIGHBOUR: 'it returns false'. Refute it at one input. -/
def fnPolyCommonWrong : ChangeSpec := { name := "fnPolyCommon", fn := fun _ => fun
  | [d] => { results := [.lit (.bool false)], args := [d] }
  | _ => none }
def FnPolyCommonWrongFalsely : Prop := fnPolyCommonRow.holds Try.pinned (OpenSpec.ofChange fnPolyCommonWrong)

/-- 'laws.FnExactPolyCommon': WHATEVER THE INPUT: true; the input reads as it did. -/
def fnExactPolyCommonSpec : ChangeSpec := { name := "fnExactPolyCommon", fn := fun _ => fun
  | [d1, d2, d3] => { results := [.lit (.bool true)], args := [d1, d2, d3] }
  | _ => none }
def fnExactPolyCommonRow : OpenClaim := { program := "ytjpmncpbghlkaab", sum := "c6d49a2cf815d78cf8d2518db6160163bee9c7ca8ccccc067f21fb46987ccf60", func := "loop.example/rationalstreams/laws.FnExactPolyCommon", spec := "fnExactPolyCommon", unfollowed := true, recurses := true, plainKeys := false, apart := false }
def FnExactPolyCommonSaid : Prop := fnExactPolyCommonRow.holds Try.pinned (OpenSpec.ofChange fnExactPolyCommonSpec)

/-- ITS FALSE NEIGHBOUR: 'it returns false'. Refute it at one input. -/
def fnExactPolyCommonWrong : ChangeSpec := { name := "fnExactPolyCommon", fn := fun _ => fun
  | [d1, d2, d3] => { results := [.lit (.bool false)], args := [d1, d2, d3] }
  | _ => none }
def FnExactPolyCommonWrongFalsely : Prop := fnExactPolyCommonRow.holds Try.pinned (OpenSpec.ofChange fnExactPolyCommonWrong)

/- THE SECOND FORM. 'bulk': how many values and letters a reading holds, each counted each time it is reached (what is shared counts as often as it is met; a slice's spare places count too). A statement '..UptoSaid' is the law's where the arguments, and the package variables that the reading takes, are together of bulk at most 1048576: NARROWER than '..Said'. Prove '..Said' where nothing that the law and all that it calls make is longer than what came in: it says more and counts as full. Else prove '..UptoSaid'. A law counts once. -/
mutual
def uptoBulk {H : Type} : DataW H → Nat
  | .lit (.string bytes) => bytes.length + 1
  | .lit _ => 1
  | .nil => 1
  | .ptr d => uptoBulk d + 1
  | .slice elems spare => uptoBulkAll elems + uptoBulkAll spare + 1
  | .agg parts => uptoBulkAll parts + 1
  | .iface _ d => uptoBulk d + 1
  | .map entries => uptoBulkEntries entries + 1
  | .held _ => 1
def uptoBulkAll {H : Type} : List (DataW H) → Nat
  | [] => 0
  | d :: r => uptoBulk d + uptoBulkAll r
def uptoBulkEntries {H : Type} : List (Lit × DataW H) → Nat
  | [] => 0
  | x :: r => uptoBulkEntry x + uptoBulkEntries r
def uptoBulkEntry {H : Type} : Lit × DataW H → Nat
  | (.string bytes, d) => bytes.length + uptoBulk d + 1
  | (_, d) => uptoBulk d + 1
 end
def uptoSmall : (H : Type) → List (DataW H) → Bool := fun _ ds => decide (uptoBulkAll ds ≤ 1048576)
def OpenSpec.upto (s : _root_.Go.ChangeSpec) : _root_.Go.OpenSpec := { _root_.Go.OpenSpec.ofChange s with cond := some uptoSmall }

/-- 'laws.FnRecFar', WHERE WHAT IT READS IS OF BULK AT MOST 1048576: true; the input reads as it did. -/
def fnRecFarUptoRow : OpenClaim := { program := "ytjpmncpbghlkaab", sum := "c6d49a2cf815d78cf8d2518db6160163bee9c7ca8ccccc067f21fb46987ccf60", func := "loop.example/rationalstreams/laws.FnRecFar", spec := "fnRecFar", unfollowed := true, recurses := true, plainKeys := false, apart := false, narrowed := true }
def FnRecFarUptoSaid : Prop := fnRecFarUptoRow.holds Try.pinned (OpenSpec.upto fnRecFarSpec)

/-- 'laws.FnExactRecFar', WHERE WHAT IT READS IS OF BULK AT MOST 1048576: true; the input reads as it did. -/
def fnExactRecFarUptoRow : OpenClaim := { program := "ytjpmncpbghlkaab", sum := "c6d49a2cf815d78cf8d2518db6160163bee9c7ca8ccccc067f21fb46987ccf60", func := "loop.example/rationalstreams/laws.FnExactRecFar", spec := "fnExactRecFar", unfollowed := true, recurses := true, plainKeys := false, apart := false, narrowed := true }
def FnExactRecFarUptoSaid : Prop := fnExactRecFarUptoRow.holds Try.pinned (OpenSpec.upto fnExactRecFarSpec)

/-- 'laws.FnRecAdd', WHERE WHAT IT READS IS OF BULK AT MOST 1048576: true; the input reads as it did. -/
def fnRecAddUptoRow : OpenClaim := { program := "ytjpmncpbghlkaab", sum := "c6d49a2cf815d78cf8d2518db6160163bee9c7ca8ccccc067f21fb46987ccf60", func := "loop.example/rationalstreams/laws.FnRecAdd", spec := "fnRecAdd", unfollowed := true, recurses := true, plainKeys := false, apart := false, narrowed := true }
def FnRecAddUptoSaid : Prop := fnRecAddUptoRow.holds Try.pinned (OpenSpec.upto fnRecAddSpec)

/-- 'laws.FnExactRecAdd', WHERE WHAT IT READS IS OF BULK AT MOST 1048576: true; the input reads as it did. -/
def fnExactRecAddUptoRow : OpenClaim := { program := "ytjpmncpbghlkaab", sum := "c6d49a2cf815d78cf8d2518db6160163bee9c7ca8ccccc067f21fb46987ccf60", func := "loop.example/rationalstreams/laws.FnExactRecAdd", spec := "fnExactRecAdd", unfollowed := true, recurses := true, plainKeys := false, apart := false, narrowed := true }
def FnExactRecAddUptoSaid : Prop := fnExactRecAddUptoRow.holds Try.pinned (OpenSpec.upto fnExactRecAddSpec)

/-- 'laws.FnRecCircle', WHERE WHAT IT READS IS OF BULK AT MOST 1048576: true; the input reads as it did. -/
def fnRecCircleUptoRow : OpenClaim := { program := "ytjpmncpbghlkaab", sum := "c6d49a2cf815d78cf8d2518db6160163bee9c7ca8ccccc067f21fb46987ccf60", func := "loop.example/rationalstreams/laws.FnRecCircle", spec := "fnRecCircle", unfollowed := true, recurses := true, plainKeys := false, apart := false, narrowed := true }
def FnRecCircleUptoSaid : Prop := fnRecCircleUptoRow.holds Try.pinned (OpenSpec.upto fnRecCircleSpec)

/-- 'laws.FnExactRecCircle', WHERE WHAT IT READS IS OF BULK AT MOST 1048576: true; the input reads as it did. -/
def fnExactRecCircleUptoRow : OpenClaim := { program := "ytjpmncpbghlkaab", sum := "c6d49a2cf815d78cf8d2518db6160163bee9c7ca8ccccc067f21fb46987ccf60", func := "loop.example/rationalstreams/laws.FnExactRecCircle", spec := "fnExactRecCircle", unfollowed := true, recurses := true, plainKeys := false, apart := false, narrowed := true }
def FnExactRecCircleUptoSaid : Prop := fnExactRecCircleUptoRow.holds Try.pinned (OpenSpec.upto fnExactRecCircleSpec)

/-- 'laws.FnPolyCommon', WHERE WHAT IT READS IS OF BULK AT MOST 1048576: true; the input reads as it did. -/
def fnPolyCommonUptoRow : OpenClaim := { program := "ytjpmncpbghlkaab", sum := "c6d49a2cf815d78cf8d2518db6160163bee9c7ca8ccccc067f21fb46987ccf60", func := "loop.example/rationalstreams/laws.FnPolyCommon", spec := "fnPolyCommon", unfollowed := true, recurses := true, plainKeys := false, apart := false, narrowed := true }
def FnPolyCommonUptoSaid : Prop := fnPolyCommonUptoRow.holds Try.pinned (OpenSpec.upto fnPolyCommonSpec)

/-- 'laws.FnExactPolyCommon', WHERE WHAT IT READS IS OF BULK AT MOST 1048576: true; the input reads as it did. -/
def fnExactPolyCommonUptoRow : OpenClaim := { program := "ytjpmncpbghlkaab", sum := "c6d49a2cf815d78cf8d2518db6160163bee9c7ca8ccccc067f21fb46987ccf60", func := "loop.example/rationalstreams/laws.FnExactPolyCommon", spec := "fnExactPolyCommon", unfollowed := true, recurses := true, plainKeys := false, apart := false, narrowed := true }
def FnExactPolyCommonUptoSaid : Prop := fnExactPolyCommonUptoRow.holds Try.pinned (OpenSpec.upto fnExactPolyCommonSpec)

end Rows
end Go.Proofs.Ytjpmncpbghlkaab

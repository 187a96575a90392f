/-
  No cell of these rows narrows 'for every input' (looked for: loops, veiled, ifaces, maps, wideKeys, modest, calm, conditions, laid).
  DERIVED. THE GIVEN ROWS OF THIS SEAT. 12 by the template 'for every input the law returns true; each argument reads behind the call as it read before'; 0 by the template 'total and deterministic' (their statements: YtmmadmfpbancmaaTotals.lean).
  GIVEN WITH THE SEED: the statements are not yours to turn. If you find one false, say at which input.
  Laid BY PROGRAM, IN A SANDBOX (cutbox-rows.mjs): the forced cells as the released guide's own fill.sh prints them over the translation 19708ec331658357… (all of the seat's roots in one cut). By AI agents, Wed Nov 11 2026. No macro, syntax, notation, axiom, sorry.
-/
import Derived.Test.YtmmadmfpbancmaaChecked
import GoSem.Claim
import GoSem.ClaimJoined
import GoSem.ClaimMapViews
import Derived.JoinedTies
import Derived.KernelRfl
namespace Go.Proofs.Ytmmadmfpbancmaa
/- THE CELL 'sum', in the pinned program and in every row, IS THE sha256 OF THE DUMP (.gsa) THAT YtmmadmfpbancmaaProg.lean LOADS. Nothing in Lean hashes anything: it is a label: what it is worth is what the hold of that sum in a sandbox is worth. -/
noncomputable def Try.pinned : Pinned := { name := "ytmmadmfpbancmaa", sum := "19708ec331658357f68468a310a115cc6463b97cc028ff6a4ecc53fc5a019309", checked := Try.checked }
namespace Rows
def none {H : Type} : Left H := { results := [], args := [] }

/-- 'laws.FnPolyValid': WHATEVER THE INPUT: true; the input reads as it did. -/
def fnPolyValidSpec : ChangeSpec := { name := "fnPolyValid", fn := fun _ => fun
  | [d] => { results := [.lit (.bool true)], args := [d] }
  | _ => none }
def fnPolyValidRow : OpenClaim := { program := "ytmmadmfpbancmaa", sum := "19708ec331658357f68468a310a115cc6463b97cc028ff6a4ecc53fc5a019309", func := "loop.example/rationalstreams/laws.FnPolyValid", spec := "fnPolyValid", apart := false }
def FnPolyValidSaid : Prop := fnPolyValidRow.holds Try.pinned (OpenSpec.ofChange fnPolyValidSpec)

/-- ITS FALSE NEIGHBOUR: 'it returns false'. Refute it at one input. -/
def fnPolyValidWrong : ChangeSpec := { name := "fnPolyValid", fn := fun _ => fun
  | [d] => { results := [.lit (.bool false)], args := [d] }
  | _ => none }
def FnPolyValidWrongFalsely : Prop := fnPolyValidRow.holds Try.pinned (OpenSpec.ofChange fnPolyValidWrong)

/-- 'laws.FnExactPolyValid': WHATEVER THE INPUT: true; the input reads as it did. -/
def fnExactPolyValidSpec : ChangeSpec := { name := "fnExactPolyValid", fn := fun _ => fun
  | [d1, d2] => { results := [.lit (.bool true)], args := [d1, d2] }
  | _ => none }
def fnExactPolyValidRow : OpenClaim := { program := "ytmmadmfpbancmaa", sum := "19708ec331658357f68468a310a115cc6463b97cc028ff6a4ecc53fc5a019309", func := "loop.example/rationalstreams/laws.FnExactPolyValid", spec := "fnExactPolyValid", apart := false }
def FnExactPolyValidSaid : Prop := fnExactPolyValidRow.holds Try.pinned (OpenSpec.ofChange fnExactPolyValidSpec)

/-- ITS FALSE NEIGHBOUR: 'it returns false'. Refute it at one input. -/
def fnExactPolyValidWrong : ChangeSpec := { name := "fnExactPolyValid", fn := fun _ => fun
  | [d1, d2] => { results := [.lit (.bool false)], args := [d1, d2] }
  | _ => none }
def FnExactPolyValidWrongFalsely : Prop := fnExactPolyValidRow.holds Try.pinned (OpenSpec.ofChange fnExactPolyValidWrong)

/-- 'laws.FnSeriesValid': WHATEVER THE INPUT: true; the input reads as it did. -/
def fnSeriesValidSpec : ChangeSpec := { name := "fnSeriesValid", fn := fun _ => fun
  | [d] => { results := [.lit (.bool true)], args := [d] }
  | _ => none }
def fnSeriesValidRow : OpenClaim := { program := "ytmmadmfpbancmaa", sum := "19708ec331658357f68468a310a115cc6463b97cc028ff6a4ecc53fc5a019309", func := "loop.example/rationalstreams/laws.FnSeriesValid", spec := "fnSeriesValid", apart := false }
def FnSeriesValidSaid : Prop := fnSeriesValidRow.holds Try.pinned (OpenSpec.ofChange fnSeriesValidSpec)

/-- ITS FALSE NEIGHBOUR: 'it returns false'. Refute it at one input. -/
def fnSeriesValidWrong : ChangeSpec := { name := "fnSeriesValid", fn := fun _ => fun
  | [d] => { results := [.lit (.bool false)], args := [d] }
  | _ => none }
def FnSeriesValidWrongFalsely : Prop := fnSeriesValidRow.holds Try.pinned (OpenSpec.ofChange fnSeriesValidWrong)

/-- 'laws.FnExactSeriesValid': WHATEVER THE INPUT: true; the input reads as it did. -/
def fnExactSeriesValidSpec : ChangeSpec := { name := "fnExactSeriesValid", fn := fun _ => fun
  | [d1, d2] => { results := [.lit (.bool true)], args := [d1, d2] }
  | _ => none }
def fnExactSeriesValidRow : OpenClaim := { program := "ytmmadmfpbancmaa", sum := "19708ec331658357f68468a310a115cc6463b97cc028ff6a4ecc53fc5a019309", func := "loop.example/rationalstreams/laws.FnExactSeriesValid", spec := "fnExactSeriesValid", apart := false }
def FnExactSeriesValidSaid : Prop := fnExactSeriesValidRow.holds Try.pinned (OpenSpec.ofChange fnExactSeriesValidSpec)

/-- ITS FALSE NEIGHBOUR: 'it returns false'. Refute it at one input. -/
def fnExactSeriesValidWrong : ChangeSpec := { name := "fnExactSeriesValid", fn := fun _ => fun
  | [d1, d2] => { results := [.lit (.bool false)], args := [d1, d2] }
  | _ => none }
def FnExactSeriesValidWrongFalsely : Prop := fnExactSeriesValidRow.holds Try.pinned (OpenSpec.ofChange fnExactSeriesValidWrong)

/-- 'laws.FnPolyAdd': WHATEVER THE INPUT: true; the input reads as it did. -/
def fnPolyAddSpec : ChangeSpec := { name := "fnPolyAdd", fn := fun _ => fun
  | [d] => { results := [.lit (.bool true)], args := [d] }
  | _ => none }
def fnPolyAddRow : OpenClaim := { program := "ytmmadmfpbancmaa", sum := "19708ec331658357f68468a310a115cc6463b97cc028ff6a4ecc53fc5a019309", func := "loop.example/rationalstreams/laws.FnPolyAdd", spec := "fnPolyAdd", unfollowed := true, recurses := true, apart := false }
def FnPolyAddSaid : Prop := fnPolyAddRow.holds Try.pinned (OpenSpec.ofChange fnPolyAddSpec)

/-- ITS FALSE NEIGHBOUR: 'it returns false'. Refute it at one input. -/
def fnPolyAddWrong : ChangeSpec := { name := "fnPolyAdd", fn := fun _ => fun
  | [d] => { results := [.lit (.bool false)], args := [d] }
  | _ => none }
def FnPolyAddWrongFalsely : Prop := fnPolyAddRow.holds Try.pinned (OpenSpec.ofChange fnPolyAddWrong)

/-- 'laws.FnExactPolyAdd': WHATEVER THE INPUT: true; the input reads as it did. -/
def fnExactPolyAddSpec : ChangeSpec := { name := "fnExactPolyAdd", fn := fun _ => fun
  | [d1, d2, d3] => { results := [.lit (.bool true)], args := [d1, d2, d3] }
  | _ => none }
def fnExactPolyAddRow : OpenClaim := { program := "ytmmadmfpbancmaa", sum := "19708ec331658357f68468a310a115cc6463b97cc028ff6a4ecc53fc5a019309", func := "loop.example/rationalstreams/laws.FnExactPolyAdd", spec := "fnExactPolyAdd", unfollowed := true, recurses := true, apart := false }
def FnExactPolyAddSaid : Prop := fnExactPolyAddRow.holds Try.pinned (OpenSpec.ofChange fnExactPolyAddSpec)

/-- ITS FALSE NEIGHBOUR: 'it returns false'. Refute it at one input. -/
def fnExactPolyAddWrong : ChangeSpec := { name := "fnExactPolyAdd", fn := fun _ => fun
  | [d1, d2, d3] => { results := [.lit (.bool false)], args := [d1, d2, d3] }
  | _ => none }
def FnExactPolyAddWrongFalsely : Prop := fnExactPolyAddRow.holds Try.pinned (OpenSpec.ofChange fnExactPolyAddWrong)

/-- 'laws.FnPolyTimes': WHATEVER THE INPUT: true; the input reads as it did. -/
def fnPolyTimesSpec : ChangeSpec := { name := "fnPolyTimes", fn := fun _ => fun
  | [d] => { results := [.lit (.bool true)], args := [d] }
  | _ => none }
def fnPolyTimesRow : OpenClaim := { program := "ytmmadmfpbancmaa", sum := "19708ec331658357f68468a310a115cc6463b97cc028ff6a4ecc53fc5a019309", func := "loop.example/rationalstreams/laws.FnPolyTimes", spec := "fnPolyTimes", unfollowed := true, recurses := true, apart := false }
def FnPolyTimesSaid : Prop := fnPolyTimesRow.holds Try.pinned (OpenSpec.ofChange fnPolyTimesSpec)

/-- ITS FALSE NEIGHBOUR: 'it returns false'. Refute it at one input. -/
def fnPolyTimesWrong : ChangeSpec := { name := "fnPolyTimes", fn := fun _ => fun
  | [d] => { results := [.lit (.bool false)], args := [d] }
  | _ => none }
def FnPolyTimesWrongFalsely : Prop := fnPolyTimesRow.holds Try.pinned (OpenSpec.ofChange fnPolyTimesWrong)

/-- 'laws.FnExactPolyTimes': WHATEVER THE INPUT: true; the input reads as it did. -/
def fnExactPolyTimesSpec : ChangeSpec := { name := "fnExactPolyTimes", fn := fun _ => fun
  | [d1, d2, d3] => { results := [.lit (.bool true)], args := [d1, d2, d3] }
  | _ => none }
def fnExactPolyTimesRow : OpenClaim := { program := "ytmmadmfpbancmaa", sum := "19708ec331658357f68468a310a115cc6463b97cc028ff6a4ecc53fc5a019309", func := "loop.example/rationalstreams/laws.FnExactPolyTimes", spec := "fnExactPolyTimes", unfollowed := true, recurses := true, apart := false }
def FnExactPolyTimesSaid : Prop := fnExactPolyTimesRow.holds Try.pinned (OpenSpec.ofChange fnExactPolyTimesSpec)

/-- ITS FALSE NEIGHBOUR: 'it returns false'. Refute it at one input. -/
def fnExactPolyTimesWrong : ChangeSpec := { name := "fnExactPolyTimes", fn := fun _ => fun
  | [d1, d2, d3] => { results := [.lit (.bool false)], args := [d1, d2, d3] }
  | _ => none }
def FnExactPolyTimesWrongFalsely : Prop := fnExactPolyTimesRow.holds Try.pinned (OpenSpec.ofChange fnExactPolyTimesWrong)

/-- 'laws.FnPolyDivide': WHATEVER THE INPUT: true; the input reads as it did. -/
def fnPolyDivideSpec : ChangeSpec := { name := "fnPolyDivide", fn := fun _ => fun
  | [d] => { results := [.lit (.bool true)], args := [d] }
  | _ => none }
def fnPolyDivideRow : OpenClaim := { program := "ytmmadmfpbancmaa", sum := "19708ec331658357f68468a310a115cc6463b97cc028ff6a4ecc53fc5a019309", func := "loop.example/rationalstreams/laws.FnPolyDivide", spec := "fnPolyDivide", unfollowed := true, recurses := true, apart := false }
def FnPolyDivideSaid : Prop := fnPolyDivideRow.holds Try.pinned (OpenSpec.ofChange fnPolyDivideSpec)

/-- ITS FALSE NEIGHBOUR: 'it returns false'. Refute it at one input. -/
def fnPolyDivideWrong : ChangeSpec := { name := "fnPolyDivide", fn := fun _ => fun
  | [d] => { results := [.lit (.bool false)], args := [d] }
  | _ => none }
def FnPolyDivideWrongFalsely : Prop := fnPolyDivideRow.holds Try.pinned (OpenSpec.ofChange fnPolyDivideWrong)

/-- 'laws.FnExactPolyDivide': WHATEVER THE INPUT: true; the input reads as it did. -/
def fnExactPolyDivideSpec : ChangeSpec := { name := "fnExactPolyDivide", fn := fun _ => fun
  | [d1, d2, d3] => { results := [.lit (.bool true)], args := [d1, d2, d3] }
  | _ => none }
def fnExactPolyDivideRow : OpenClaim := { program := "ytmmadmfpbancmaa", sum := "19708ec331658357f68468a310a115cc6463b97cc028ff6a4ecc53fc5a019309", func := "loop.example/rationalstreams/laws.FnExactPolyDivide", spec := "fnExactPolyDivide", unfollowed := true, recurses := true, apart := false }
def FnExactPolyDivideSaid : Prop := fnExactPolyDivideRow.holds Try.pinned (OpenSpec.ofChange fnExactPolyDivideSpec)

/-- ITS FALSE NEIGHBOUR: 'it returns false'. Refute it at one input. -/
def fnExactPolyDivideWrong : ChangeSpec := { name := "fnExactPolyDivide", fn := fun _ => fun
  | [d1, d2, d3] => { results := [.lit (.bool false)], args := [d1, d2, d3] }
  | _ => none }
def FnExactPolyDivideWrongFalsely : Prop := fnExactPolyDivideRow.holds Try.pinned (OpenSpec.ofChange fnExactPolyDivideWrong)

/-- 'laws.FnPolyCommon': WHATEVER THE INPUT: true; the input reads as it did. -/
def fnPolyCommonSpec : ChangeSpec := { name := "fnPolyCommon", fn := fun _ => fun
  | [d] => { results := [.lit (.bool true)], args := [d] }
  | _ => none }
def fnPolyCommonRow : OpenClaim := { program := "ytmmadmfpbancmaa", sum := "19708ec331658357f68468a310a115cc6463b97cc028ff6a4ecc53fc5a019309", func := "loop.example/rationalstreams/laws.FnPolyCommon", spec := "fnPolyCommon", unfollowed := true, recurses := true, apart := false }
def FnPolyCommonSaid : Prop := fnPolyCommonRow.holds Try.pinned (OpenSpec.ofChange fnPolyCommonSpec)

/-- ITS FALSE NEIGHBOUR: 'it returns false'. Refute it at one input. -/
def fnPolyCommonWrong : ChangeSpec := { name := "fnPolyCommon", fn := fun _ => fun
  | [d] => { results := [.lit (.bool false)], args := [d] }
  | _ => none }
def FnPolyCommonWrongFalsely : Prop := fnPolyCommonRow.holds Try.pinned (OpenSpec.ofChange fnPolyCommonWrong)

/-- 'laws.FnExactPolyCommon': WHATEVER THE INPUT: true; the input reads as it did. -/
def fnExactPolyCommonSpec : ChangeSpec := { name := "fnExactPolyCommon", fn := fun _ => fun
  | [d1, d2, d3] => { results := [.lit (.bool true)], args := [d1, d2, d3] }
  | _ => none }
def fnExactPolyCommonRow : OpenClaim := { program := "ytmmadmfpbancmaa", sum := "19708ec331658357f68468a310a115cc6463b97cc028ff6a4ecc53fc5a019309", func := "loop.example/rationalstreams/laws.FnExactPolyCommon", spec := "fnExactPolyCommon", unfollowed := true, recurses := true, apart := false }
def FnExactPolyCommonSaid : Prop := fnExactPolyCommonRow.holds Try.pinned (OpenSpec.ofChange fnExactPolyCommonSpec)

/-- ITS FALSE NEIGHBOUR: 'it returns false'. Refute it at one input. -/
def fnExactPolyCommonWrong : ChangeSpec := { name := "fnExactPolyCommon", fn := fun _ => fun
  | [d1, d2, d3] => { results := [.lit (.bool false)], args := [d1, d2, d3] }
  | _ => none }
def FnExactPolyCommonWrongFalsely : Prop := fnExactPolyCommonRow.holds Try.pinned (OpenSpec.ofChange fnExactPolyCommonWrong)

/- THE SECOND FORM. 'bulk': how many values and letters a reading holds, each counted each time it is reached (what is shared counts as often as it is met; a slice's spare places count too). A statement '..UptoSaid' is the law's where the arguments, and the package variables that the reading takes, are together of bulk at most 1048576: NARROWER than '..Said'. Prove '..Said' where nothing that the law and all that it calls make is longer than what came in: it says more and counts as full. Else prove '..UptoSaid'. A law counts once. -/
mutual
def uptoBulk {H : Type} : DataW H → Nat
  | .lit (.string bytes) => bytes.length + 1
  | .lit _ => 1
  | .nil => 1
  | .ptr d => uptoBulk d + 1
  | .slice elems spare => uptoBulkAll elems + uptoBulkAll spare + 1
  | .agg parts => uptoBulkAll parts + 1
  | .iface _ d => uptoBulk d + 1
  | .map entries => uptoBulkEntries entries + 1
  | .held _ => 1
def uptoBulkAll {H : Type} : List (DataW H) → Nat
  | [] => 0
  | d :: r => uptoBulk d + uptoBulkAll r
def uptoBulkEntries {H : Type} : List (Lit × DataW H) → Nat
  | [] => 0
  | x :: r => uptoBulkEntry x + uptoBulkEntries r
def uptoBulkEntry {H : Type} : Lit × DataW H → Nat
  | (.string bytes, d) => bytes.length + uptoBulk d + 1
  | (_, d) => uptoBulk d + 1
 end
def uptoSmall : (H : Type) → List (DataW H) → Bool := fun _ ds => decide (uptoBulkAll ds ≤ 1048576)
def OpenSpec.upto (s : _root_.Go.ChangeSpec) : _root_.Go.OpenSpec := { _root_.Go.OpenSpec.ofChange s with cond := some uptoSmall }

/-- 'laws.FnPolyValid', WHERE WHAT IT READS IS OF BULK AT MOST 1048576: true; the input reads as it did. -/
def fnPolyValidUptoRow : OpenClaim := { program := "ytmmadmfpbancmaa", sum := "19708ec331658357f68468a310a115cc6463b97cc028ff6a4ecc53fc5a019309", func := "loop.example/rationalstreams/laws.FnPolyValid", spec := "fnPolyValid", apart := false, narrowed := true }
def FnPolyValidUptoSaid : Prop := fnPolyValidUptoRow.holds Try.pinned (OpenSpec.upto fnPolyValidSpec)

/-- 'laws.FnExactPolyValid', WHERE WHAT IT READS IS OF BULK AT MOST 1048576: true; the input reads as it did. -/
def fnExactPolyValidUptoRow : OpenClaim := { program := "ytmmadmfpbancmaa", sum := "19708ec331658357f68468a310a115cc6463b97cc028ff6a4ecc53fc5a019309", func := "loop.example/rationalstreams/laws.FnExactPolyValid", spec := "fnExactPolyValid", apart := false, narrowed := true }
def FnExactPolyValidUptoSaid : Prop := fnExactPolyValidUptoRow.holds Try.pinned (OpenSpec.upto fnExactPolyValidSpec)

/-- 'laws.FnSeriesValid', WHERE WHAT IT READS IS OF BULK AT MOST 1048576: true; the input reads as it did. -/
def fnSeriesValidUptoRow : OpenClaim := { program := "ytmmadmfpbancmaa", sum := "19708ec331658357f68468a310a115cc6463b97cc028ff6a4ecc53fc5a019309", func := "loop.example/rationalstreams/laws.FnSeriesValid", spec := "fnSeriesValid", apart := false, narrowed := true }
def FnSeriesValidUptoSaid : Prop := fnSeriesValidUptoRow.holds Try.pinned (OpenSpec.upto fnSeriesValidSpec)

/-- 'laws.FnExactSeriesValid', WHERE WHAT IT READS IS OF BULK AT MOST 1048576: true; the input reads as it did. -/
def fnExactSeriesValidUptoRow : OpenClaim := { program := "ytmmadmfpbancmaa", sum := "19708ec331658357f68468a310a115cc6463b97cc028ff6a4ecc53fc5a019309", func := "loop.example/rationalstreams/laws.FnExactSeriesValid", spec := "fnExactSeriesValid", apart := false, narrowed := true }
def FnExactSeriesValidUptoSaid : Prop := fnExactSeriesValidUptoRow.holds Try.pinned (OpenSpec.upto fnExactSeriesValidSpec)

/-- 'laws.FnPolyAdd', WHERE WHAT IT READS IS OF BULK AT MOST 1048576: true; the input reads as it did. -/
def fnPolyAddUptoRow : OpenClaim := { program := "ytmmadmfpbancmaa", sum := "19708ec331658357f68468a310a115cc6463b97cc028ff6a4ecc53fc5a019309", func := "loop.example/rationalstreams/laws.FnPolyAdd", spec := "fnPolyAdd", unfollowed := true, recurses := true, apart := false, narrowed := true }
def FnPolyAddUptoSaid : Prop := fnPolyAddUptoRow.holds Try.pinned (OpenSpec.upto fnPolyAddSpec)

/-- 'laws.FnExactPolyAdd', WHERE WHAT IT READS IS OF BULK AT MOST 1048576: true; the input reads as it did. -/
def fnExactPolyAddUptoRow : OpenClaim := { program := "ytmmadmfpbancmaa", sum := "19708ec331658357f68468a310a115cc6463b97cc028ff6a4ecc53fc5a019309", func := "loop.example/rationalstreams/laws.FnExactPolyAdd", spec := "fnExactPolyAdd", unfollowed := true, recurses := true, apart := false, narrowed := true }
def FnExactPolyAddUptoSaid : Prop := fnExactPolyAddUptoRow.holds Try.pinned (OpenSpec.upto fnExactPolyAddSpec)

/-- 'laws.FnPolyTimes', WHERE WHAT IT READS IS OF BULK AT MOST 1048576: true; the input reads as it did. -/
def fnPolyTimesUptoRow : OpenClaim := { program := "ytmmadmfpbancmaa", sum := "19708ec331658357f68468a310a115cc6463b97cc028ff6a4ecc53fc5a019309", func := "loop.example/rationalstreams/laws.FnPolyTimes", spec := "fnPolyTimes", unfollowed := true, recurses := true, apart := false, narrowed := true }
def FnPolyTimesUptoSaid : Prop := fnPolyTimesUptoRow.holds Try.pinned (OpenSpec.upto fnPolyTimesSpec)

/-- 'laws.FnExactPolyTimes', WHERE WHAT IT READS IS OF BULK AT MOST 1048576: true; the input reads as it did. -/
def fnExactPolyTimesUptoRow : OpenClaim := { program := "ytmmadmfpbancmaa", sum := "19708ec331658357f68468a310a115cc6463b97cc028ff6a4ecc53fc5a019309", func := "loop.example/rationalstreams/laws.FnExactPolyTimes", spec := "fnExactPolyTimes", unfollowed := true, recurses := true, apart := false, narrowed := true }
def FnExactPolyTimesUptoSaid : Prop := fnExactPolyTimesUptoRow.holds Try.pinned (OpenSpec.upto fnExactPolyTimesSpec)

/-- 'laws.FnPolyDivide', WHERE WHAT IT READS IS OF BULK AT MOST 1048576: true; the input reads as it did. -/
def fnPolyDivideUptoRow : OpenClaim := { program := "ytmmadmfpbancmaa", sum := "19708ec331658357f68468a310a115cc6463b97cc028ff6a4ecc53fc5a019309", func := "loop.example/rationalstreams/laws.FnPolyDivide", spec := "fnPolyDivide", unfollowed := true, recurses := true, apart := false, narrowed := true }
def FnPolyDivideUptoSaid : Prop := fnPolyDivideUptoRow.holds Try.pinned (OpenSpec.upto fnPolyDivideSpec)

/-- 'laws.FnExactPolyDivide', WHERE WHAT IT READS IS OF BULK AT MOST 1048576: true; the input reads as it did. -/
def fnExactPolyDivideUptoRow : OpenClaim := { program := "ytmmadmfpbancmaa", sum := "19708ec331658357f68468a310a115cc6463b97cc028ff6a4ecc53fc5a019309", func := "loop.example/rationalstreams/laws.FnExactPolyDivide", spec := "fnExactPolyDivide", unfollowed := true, recurses := true, apart := false, narrowed := true }
def FnExactPolyDivideUptoSaid : Prop := fnExactPolyDivideUptoRow.holds Try.pinned (OpenSpec.upto fnExactPolyDivideSpec)

/-- 'laws.FnPolyCommon', WHERE WHAT IT READS IS OF BULK AT MOST 1048576: true; the input reads as it did. -/
def fnPolyCommonUptoRow : OpenClaim := { program := "ytmmadmfpbancmaa", sum := "19708ec331658357f68468a310a115cc6463b97cc028ff6a4ecc53fc5a019309", func := "loop.example/rationalstreams/laws.FnPolyCommon", spec := "fnPolyCommon", unfollowed := true, recurses := true, apart := false, narrowed := true }
def FnPolyCommonUptoSaid : Prop := fnPolyCommonUptoRow.holds Try.pinned (OpenSpec.upto fnPolyCommonSpec)

/-- 'laws.FnExactPolyCommon', WHERE WHAT IT READS IS OF BULK AT MOST 1048576: true; the input reads as it did. -/
def fnExactPolyCommonUptoRow : OpenClaim := { program := "ytmmadmfpbancmaa", sum := "19708ec331658357f68468a310a115cc6463b97cc028ff6a4ecc53fc5a019309", func := "loop.example/rationalstreams/laws.FnExactPolyCommon", spec := "fnExactPolyCommon", unfollowed := true, recurses := true, apart := false, narrowed := true }
def FnExactPolyCommonUptoSaid : Prop := fnExactPolyCommonUptoRow.holds Try.pinned (OpenSpec.upto fnExactPolyCommonSpec)

end Rows
end Go.Proofs.Ytmmadmfpbancmaa

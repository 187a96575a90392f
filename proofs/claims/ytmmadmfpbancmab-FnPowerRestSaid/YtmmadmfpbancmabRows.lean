/-
  No cell of these rows narrows 'for every input' (looked for: loops, veiled, ifaces, maps, wideKeys, modest, calm, conditions, laid).
  DERIVED. THE GIVEN ROWS OF THIS SEAT. 8 by the template 'for every input the law returns true; each argument reads behind the call as it read before'; 0 by the template 'total and deterministic' (their statements: YtmmadmfpbancmabTotals.lean).
  GIVEN WITH THE SEED: the statements are not yours to turn. If you find one false, say at which input.
  Laid BY PROGRAM, IN A SANDBOX (cutbox-rows.mjs): the forced cells as the released guide's own fill.sh prints them over the translation 28cd817c3be897ce… (all of the seat's roots in one cut). By AI agents, Wed Nov 11 2026. No macro, syntax, notation, axiom, sorry.
-/
import Derived.Test.YtmmadmfpbancmabChecked
import GoSem.Claim
import GoSem.ClaimJoined
import GoSem.ClaimMapViews
import Derived.JoinedTies
import Derived.KernelRfl
namespace Go.Proofs.Ytmmadmfpbancmab
/- THE CELL 'sum', in the pinned program and in every row, IS THE sha256 OF THE DUMP (.gsa) THAT YtmmadmfpbancmabProg.lean LOADS. Nothing in Lean hashes anything: it is a label: what it is worth is what the hold of that sum in a sandbox is worth. -/
noncomputable def Try.pinned : Pinned := { name := "ytmmadmfpbancmab", sum := "28cd817c3be897ceb935bfe2d62338ce455a147bd4455f591bda578cef1cd319", checked := Try.checked }
namespace Rows
def none {H : Type} : Left H := { results := [], args := [] }

/-- 'laws.FnPolyAt': WHATEVER THE INPUT: true; the input reads as it did. -/
def fnPolyAtSpec : ChangeSpec := { name := "fnPolyAt", fn := fun _ => fun
  | [d] => { results := [.lit (.bool true)], args := [d] }
  | _ => none }
def fnPolyAtRow : OpenClaim := { program := "ytmmadmfpbancmab", sum := "28cd817c3be897ceb935bfe2d62338ce455a147bd4455f591bda578cef1cd319", func := "loop.example/rationalstreams/laws.FnPolyAt", spec := "fnPolyAt", unfollowed := true, recurses := true, apart := false }
def FnPolyAtSaid : Prop := fnPolyAtRow.holds Try.pinned (OpenSpec.ofChange fnPolyAtSpec)

/-- ITS FALSE NEIGHBOUR: 'it returns false'. Refute it at one input. -/
def fnPolyAtWrong : ChangeSpec := { name := "fnPolyAt", fn := fun _ => fun
  | [d] => { results := [.lit (.bool false)], args := [d] }
  | _ => none }
def FnPolyAtWrongFalsely : Prop := fnPolyAtRow.holds Try.pinned (OpenSpec.ofChange fnPolyAtWrong)

/-- 'laws.FnExactPolyAt': WHATEVER THE INPUT: true; the input reads as it did. -/
def fnExactPolyAtSpec : ChangeSpec := { name := "fnExactPolyAt", fn := fun _ => fun
  | [d1, d2, d3] => { results := [.lit (.bool true)], args := [d1, d2, d3] }
  | _ => none }
def fnExactPolyAtRow : OpenClaim := { program := "ytmmadmfpbancmab", sum := "28cd817c3be897ceb935bfe2d62338ce455a147bd4455f591bda578cef1cd319", func := "loop.example/rationalstreams/laws.FnExactPolyAt", spec := "fnExactPolyAt", unfollowed := true, recurses := true, apart := false }
def FnExactPolyAtSaid : Prop := fnExactPolyAtRow.holds Try.pinned (OpenSpec.ofChange fnExactPolyAtSpec)

/-- ITS FALSE NEIGHBOUR: 'it returns false'. Refute it at one input. -/
def fnExactPolyAtWrong : ChangeSpec := { name := "fnExactPolyAt", fn := fun _ => fun
  | [d1, d2, d3] => { results := [.lit (.bool false)], args := [d1, d2, d3] }
  | _ => none }
def FnExactPolyAtWrongFalsely : Prop := fnExactPolyAtRow.holds Try.pinned (OpenSpec.ofChange fnExactPolyAtWrong)

/-- 'laws.FnPowerRest': WHATEVER THE INPUT: true; the input reads as it did. -/
def fnPowerRestSpec : ChangeSpec := { name := "fnPowerRest", fn := fun _ => fun
  | [d] => { results := [.lit (.bool true)], args := [d] }
  | _ => none }
def fnPowerRestRow : OpenClaim := { program := "ytmmadmfpbancmab", sum := "28cd817c3be897ceb935bfe2d62338ce455a147bd4455f591bda578cef1cd319", func := "loop.example/rationalstreams/laws.FnPowerRest", spec := "fnPowerRest", unfollowed := true, recurses := true, apart := false }
def FnPowerRestSaid : Prop := fnPowerRestRow.holds Try.pinned (OpenSpec.ofChange fnPowerRestSpec)

/-- ITS FALSE NEIGHBOUR: 'it returns false'. Refute it at one input. -/
def fnPowerRestWrong : ChangeSpec := { name := "fnPowerRest", fn := fun _ => fun
  | [d] => { results := [.lit (.bool false)], args := [d] }
  | _ => none }
def FnPowerRestWrongFalsely : Prop := fnPowerRestRow.holds Try.pinned (OpenSpec.ofChange fnPowerRestWrong)

/-- 'laws.FnExactPowerRest': WHATEVER THE INPUT: true; the input reads as it did. -/
def fnExactPowerRestSpec : ChangeSpec := { name := "fnExactPowerRest", fn := fun _ => fun
  | [d1, d2, d3] => { results := [.lit (.bool true)], args := [d1, d2, d3] }
  | _ => none }
def fnExactPowerRestRow : OpenClaim := { program := "ytmmadmfpbancmab", sum := "28cd817c3be897ceb935bfe2d62338ce455a147bd4455f591bda578cef1cd319", func := "loop.example/rationalstreams/laws.FnExactPowerRest", spec := "fnExactPowerRest", unfollowed := true, recurses := true, apart := false }
def FnExactPowerRestSaid : Prop := fnExactPowerRestRow.holds Try.pinned (OpenSpec.ofChange fnExactPowerRestSpec)

/-- ITS FALSE NEIGHBOUR: 'it returns false'. Refute it at one input. -/
def fnExactPowerRestWrong : ChangeSpec := { name := "fnExactPowerRest", fn := fun _ => fun
  | [d1, d2, d3] => { results := [.lit (.bool false)], args := [d1, d2, d3] }
  | _ => none }
def FnExactPowerRestWrongFalsely : Prop := fnExactPowerRestRow.holds Try.pinned (OpenSpec.ofChange fnExactPowerRestWrong)

/-- 'laws.FnSeriesTimes': WHATEVER THE INPUT: true; the input reads as it did. -/
def fnSeriesTimesSpec : ChangeSpec := { name := "fnSeriesTimes", fn := fun _ => fun
  | [d] => { results := [.lit (.bool true)], args := [d] }
  | _ => none }
def fnSeriesTimesRow : OpenClaim := { program := "ytmmadmfpbancmab", sum := "28cd817c3be897ceb935bfe2d62338ce455a147bd4455f591bda578cef1cd319", func := "loop.example/rationalstreams/laws.FnSeriesTimes", spec := "fnSeriesTimes", unfollowed := true, recurses := true, apart := false }
def FnSeriesTimesSaid : Prop := fnSeriesTimesRow.holds Try.pinned (OpenSpec.ofChange fnSeriesTimesSpec)

/-- ITS FALSE NEIGHBOUR: 'it returns false'. Refute it at one input. -/
def fnSeriesTimesWrong : ChangeSpec := { name := "fnSeriesTimes", fn := fun _ => fun
  | [d] => { results := [.lit (.bool false)], args := [d] }
  | _ => none }
def FnSeriesTimesWrongFalsely : Prop := fnSeriesTimesRow.holds Try.pinned (OpenSpec.ofChange fnSeriesTimesWrong)

/-- 'laws.FnExactSeriesTimes': WHATEVER THE INPUT: true; the input reads as it did. -/
def fnExactSeriesTimesSpec : ChangeSpec := { name := "fnExactSeriesTimes", fn := fun _ => fun
  | [d1, d2, d3] => { results := [.lit (.bool true)], args := [d1, d2, d3] }
  | _ => none }
def fnExactSeriesTimesRow : OpenClaim := { program := "ytmmadmfpbancmab", sum := "28cd817c3be897ceb935bfe2d62338ce455a147bd4455f591bda578cef1cd319", func := "loop.example/rationalstreams/laws.FnExactSeriesTimes", spec := "fnExactSeriesTimes", unfollowed := true, recurses := true, apart := false }
def FnExactSeriesTimesSaid : Prop := fnExactSeriesTimesRow.holds Try.pinned (OpenSpec.ofChange fnExactSeriesTimesSpec)

/-- ITS FALSE NEIGHBOUR: 'it returns false'. Refute it at one input. -/
def fnExactSeriesTimesWrong : ChangeSpec := { name := "fnExactSeriesTimes", fn := fun _ => fun
  | [d1, d2, d3] => { results := [.lit (.bool false)], args := [d1, d2, d3] }
  | _ => none }
def FnExactSeriesTimesWrongFalsely : Prop := fnExactSeriesTimesRow.holds Try.pinned (OpenSpec.ofChange fnExactSeriesTimesWrong)

/-- 'laws.FnSeriesBack': WHATEVER THE INPUT: true; the input reads as it did. -/
def fnSeriesBackSpec : ChangeSpec := { name := "fnSeriesBack", fn := fun _ => fun
  | [d] => { results := [.lit (.bool true)], args := [d] }
  | _ => none }
def fnSeriesBackRow : OpenClaim := { program := "ytmmadmfpbancmab", sum := "28cd817c3be897ceb935bfe2d62338ce455a147bd4455f591bda578cef1cd319", func := "loop.example/rationalstreams/laws.FnSeriesBack", spec := "fnSeriesBack", unfollowed := true, recurses := true, apart := false }
def FnSeriesBackSaid : Prop := fnSeriesBackRow.holds Try.pinned (OpenSpec.ofChange fnSeriesBackSpec)

/-- ITS FALSE NEIGHBOUR: 'it returns false'. Refute it at one input. -/
def fnSeriesBackWrong : ChangeSpec := { name := "fnSeriesBack", fn := fun _ => fun
  | [d] => { results := [.lit (.bool false)], args := [d] }
  | _ => none }
def FnSeriesBackWrongFalsely : Prop := fnSeriesBackRow.holds Try.pinned (OpenSpec.ofChange fnSeriesBackWrong)

/-- 'laws.FnExactSeriesBack': WHATEVER THE INPUT: true; the input reads as it did. -/
def fnExactSeriesBackSpec : ChangeSpec := { name := "fnExactSeriesBack", fn := fun _ => fun
  | [d1, d2] => { results := [.lit (.bool true)], args := [d1, d2] }
  | _ => none }
def fnExactSeriesBackRow : OpenClaim := { program := "ytmmadmfpbancmab", sum := "28cd817c3be897ceb935bfe2d62338ce455a147bd4455f591bda578cef1cd319", func := "loop.example/rationalstreams/laws.FnExactSeriesBack", spec := "fnExactSeriesBack", unfollowed := true, recurses := true, apart := false }
def FnExactSeriesBackSaid : Prop := fnExactSeriesBackRow.holds Try.pinned (OpenSpec.ofChange fnExactSeriesBackSpec)

/-- ITS FALSE NEIGHBOUR: 'it returns false'. Refute it at one input. -/
def fnExactSeriesBackWrong : ChangeSpec := { name := "fnExactSeriesBack", fn := fun _ => fun
  | [d1, d2] => { results := [.lit (.bool false)], args := [d1, d2] }
  | _ => none }
def FnExactSeriesBackWrongFalsely : Prop := fnExactSeriesBackRow.holds Try.pinned (OpenSpec.ofChange fnExactSeriesBackWrong)

/- THE SECOND FORM. 'bulk': how many values and letters a reading holds, each counted each time it is reached (what is shared counts as often as it is met; a slice's spare places count too). A statement '..UptoSaid' is the law's where the arguments, and the package variables that the reading takes, are together of bulk at most 1048576: NARROWER than '..Said'. Prove '..Said' where nothing that the law and all that it calls make is longer than what came in: it says more and counts as full. Else prove '..UptoSaid'. A law counts once. -/
mutual
def uptoBulk {H : Type} : DataW H → Nat
  | .lit (.string bytes) => bytes.length + 1
  | .lit _ => 1
  | .nil => 1
  | .ptr d => uptoBulk d + 1
  | .slice elems spare => uptoBulkAll elems + uptoBulkAll spare + 1
  | .agg parts => uptoBulkAll parts + 1
  | .iface _ d => uptoBulk d + 1
  | .map entries => uptoBulkEntries entries + 1
  | .held _ => 1
def uptoBulkAll {H : Type} : List (DataW H) → Nat
  | [] => 0
  | d :: r => uptoBulk d + uptoBulkAll r
def uptoBulkEntries {H : Type} : List (Lit × DataW H) → Nat
  | [] => 0
  | x :: r => uptoBulkEntry x + uptoBulkEntries r
def uptoBulkEntry {H : Type} : Lit × DataW H → Nat
  | (.string bytes, d) => bytes.length + uptoBulk d + 1
  | (_, d) => uptoBulk d + 1
 end
def uptoSmall : (H : Type) → List (DataW H) → Bool := fun _ ds => decide (uptoBulkAll ds ≤ 1048576)
def OpenSpec.upto (s : _root_.Go.ChangeSpec) : _root_.Go.OpenSpec := { _root_.Go.OpenSpec.ofChange s with cond := some uptoSmall }

/-- 'laws.FnPolyAt', WHERE WHAT IT READS IS OF BULK AT MOST 1048576: true; the input reads as it did. -/
def fnPolyAtUptoRow : OpenClaim := { program := "ytmmadmfpbancmab", sum := "28cd817c3be897ceb935bfe2d62338ce455a147bd4455f591bda578cef1cd319", func := "loop.example/rationalstreams/laws.FnPolyAt", spec := "fnPolyAt", unfollowed := true, recurses := true, apart := false, narrowed := true }
def FnPolyAtUptoSaid : Prop := fnPolyAtUptoRow.holds Try.pinned (OpenSpec.upto fnPolyAtSpec)

/-- 'laws.FnExactPolyAt', WHERE WHAT IT READS IS OF BULK AT MOST 1048576: true; the input reads as it did. -/
def fnExactPolyAtUptoRow : OpenClaim := { program := "ytmmadmfpbancmab", sum := "28cd817c3be897ceb935bfe2d62338ce455a147bd4455f591bda578cef1cd319", func := "loop.example/rationalstreams/laws.FnExactPolyAt", spec := "fnExactPolyAt", unfollowed := true, recurses := true, apart := false, narrowed := true }
def FnExactPolyAtUptoSaid : Prop := fnExactPolyAtUptoRow.holds Try.pinned (OpenSpec.upto fnExactPolyAtSpec)

/-- 'laws.FnPowerRest', WHERE WHAT IT READS IS OF BULK AT MOST 1048576: true; the input reads as it did. -/
def fnPowerRestUptoRow : OpenClaim := { program := "ytmmadmfpbancmab", sum := "28cd817c3be897ceb935bfe2d62338ce455a147bd4455f591bda578cef1cd319", func := "loop.example/rationalstreams/laws.FnPowerRest", spec := "fnPowerRest", unfollowed := true, recurses := true, apart := false, narrowed := true }
def FnPowerRestUptoSaid : Prop := fnPowerRestUptoRow.holds Try.pinned (OpenSpec.upto fnPowerRestSpec)

/-- 'laws.FnExactPowerRest', WHERE WHAT IT READS IS OF BULK AT MOST 1048576: true; the input reads as it did. -/
def fnExactPowerRestUptoRow : OpenClaim := { program := "ytmmadmfpbancmab", sum := "28cd817c3be897ceb935bfe2d62338ce455a147bd4455f591bda578cef1cd319", func := "loop.example/rationalstreams/laws.FnExactPowerRest", spec := "fnExactPowerRest", unfollowed := true, recurses := true, apart := false, narrowed := true }
def FnExactPowerRestUptoSaid : Prop := fnExactPowerRestUptoRow.holds Try.pinned (OpenSpec.upto fnExactPowerRestSpec)

/-- 'laws.FnSeriesTimes', WHERE WHAT IT READS IS OF BULK AT MOST 1048576: true; the input reads as it did. -/
def fnSeriesTimesUptoRow : OpenClaim := { program := "ytmmadmfpbancmab", sum := "28cd817c3be897ceb935bfe2d62338ce455a147bd4455f591bda578cef1cd319", func := "loop.example/rationalstreams/laws.FnSeriesTimes", spec := "fnSeriesTimes", unfollowed := true, recurses := true, apart := false, narrowed := true }
def FnSeriesTimesUptoSaid : Prop := fnSeriesTimesUptoRow.holds Try.pinned (OpenSpec.upto fnSeriesTimesSpec)

/-- 'laws.FnExactSeriesTimes', WHERE WHAT IT READS IS OF BULK AT MOST 1048576: true; the input reads as it did. -/
def fnExactSeriesTimesUptoRow : OpenClaim := { program := "ytmmadmfpbancmab", sum := "28cd817c3be897ceb935bfe2d62338ce455a147bd4455f591bda578cef1cd319", func := "loop.example/rationalstreams/laws.FnExactSeriesTimes", spec := "fnExactSeriesTimes", unfollowed := true, recurses := true, apart := false, narrowed := true }
def FnExactSeriesTimesUptoSaid : Prop := fnExactSeriesTimesUptoRow.holds Try.pinned (OpenSpec.upto fnExactSeriesTimesSpec)

/-- 'laws.FnSeriesBack', WHERE WHAT IT READS IS OF BULK AT MOST 1048576: true; the input reads as it did. -/
def fnSeriesBackUptoRow : OpenClaim := { program := "ytmmadmfpbancmab", sum := "28cd817c3be897ceb935bfe2d62338ce455a147bd4455f591bda578cef1cd319", func := "loop.example/rationalstreams/laws.FnSeriesBack", spec := "fnSeriesBack", unfollowed := true, recurses := true, apart := false, narrowed := true }
def FnSeriesBackUptoSaid : Prop := fnSeriesBackUptoRow.holds Try.pinned (OpenSpec.upto fnSeriesBackSpec)

/-- 'laws.FnExactSeriesBack', WHERE WHAT IT READS IS OF BULK AT MOST 1048576: true; the input reads as it did. -/
def fnExactSeriesBackUptoRow : OpenClaim := { program := "ytmmadmfpbancmab", sum := "28cd817c3be897ceb935bfe2d62338ce455a147bd4455f591bda578cef1cd319", func := "loop.example/rationalstreams/laws.FnExactSeriesBack", spec := "fnExactSeriesBack", unfollowed := true, recurses := true, apart := false, narrowed := true }
def FnExactSeriesBackUptoSaid : Prop := fnExactSeriesBackUptoRow.holds Try.pinned (OpenSpec.upto fnExactSeriesBackSpec)

end Rows
end Go.Proofs.Ytmmadmfpbancmab

/-
  No cell of these rows narrows 'for every input' (looked for: loops, veiled, ifaces, maps, wideKeys, modest, calm, conditions, laid).
  DERIVED. THE GIVEN ROWS OF THIS SEAT. 12 by the template 'for every input the law returns true; each argument reads behind the call as it read before'; 0 by the template 'total and deterministic' (their statements: YtpelokdgjdljfaaTotals.lean).
  GIVEN WITH THE SEED: the statements are not yours to turn. If you find one false, say at which input.
  Laid BY PROGRAM, IN A SANDBOX (cutbox-rows.mjs): the forced cells as the released guide's own fill.sh prints them over the translation e32796a4ff534c1d… (all of the seat's roots in one cut). By AI agents, Wed Nov 11 2026. No macro, syntax, notation, axiom, sorry.
-/
import Derived.Test.YtpelokdgjdljfaaChecked
import GoSem.Claim
import GoSem.ClaimJoined
import GoSem.ClaimMapViews
import Derived.JoinedTies
import Derived.KernelRfl
namespace Go.Proofs.Ytpelokdgjdljfaa
/- THE CELL 'sum', in the pinned program and in every row, IS THE sha256 OF THE DUMP (.gsa) THAT YtpelokdgjdljfaaProg.lean LOADS. Nothing in Lean hashes anything: it is a label: what it is worth is what the hold of that sum in a sandbox is worth. -/
noncomputable def Try.pinned : Pinned := { name := "ytpelokdgjdljfaa", sum := "e32796a4ff534c1d6b8c923831d34ec90c1b69f450ccfb99b090937d37b28037", checked := Try.checked }
namespace Rows
def none {H : Type} : Left H := { results := [], args := [] }

/-- 'laws.FnPrimeOk': WHATEVER THE INPUT: true; the input reads as it did. -/
def fnPrimeOkSpec : ChangeSpec := { name := "fnPrimeOk", fn := fun _ => fun
  | [d] => { results := [.lit (.bool true)], args := [d] }
  | _ => none }
def fnPrimeOkRow : OpenClaim := { program := "ytpelokdgjdljfaa", sum := "e32796a4ff534c1d6b8c923831d34ec90c1b69f450ccfb99b090937d37b28037", func := "loop.example/rationalstreams/laws.FnPrimeOk", spec := "fnPrimeOk", apart := false }
def FnPrimeOkSaid : Prop := fnPrimeOkRow.holds Try.pinned (OpenSpec.ofChange fnPrimeOkSpec)

/-- ITS FALSE NEIGHBOUR: 'it returns false'. Refute it at one input. -/
def fnPrimeOkWrong : ChangeSpec := { name := "fnPrimeOk", fn := fun _ => fun
  | [d] => { results := [.lit (.bool false)], args := [d] }
  | _ => none }
def FnPrimeOkWrongFalsely : Prop := fnPrimeOkRow.holds Try.pinned (OpenSpec.ofChange fnPrimeOkWrong)

/-- 'laws.FnExactPrimeOk': WHATEVER THE INPUT: true; the input reads as it did. -/
def fnExactPrimeOkSpec : ChangeSpec := { name := "fnExactPrimeOk", fn := fun _ => fun
  | [d] => { results := [.lit (.bool true)], args := [d] }
  | _ => none }
def fnExactPrimeOkRow : OpenClaim := { program := "ytpelokdgjdljfaa", sum := "e32796a4ff534c1d6b8c923831d34ec90c1b69f450ccfb99b090937d37b28037", func := "loop.example/rationalstreams/laws.FnExactPrimeOk", spec := "fnExactPrimeOk", apart := false }
def FnExactPrimeOkSaid : Prop := fnExactPrimeOkRow.holds Try.pinned (OpenSpec.ofChange fnExactPrimeOkSpec)

/-- ITS FALSE NEIGHBOUR: 'it returns false'. Refute it at one input. -/
def fnExactPrimeOkWrong : ChangeSpec := { name := "fnExactPrimeOk", fn := fun _ => fun
  | [d] => { results := [.lit (.bool false)], args := [d] }
  | _ => none }
def FnExactPrimeOkWrongFalsely : Prop := fnExactPrimeOkRow.holds Try.pinned (OpenSpec.ofChange fnExactPrimeOkWrong)

/-- 'laws.FnNumValid': WHATEVER THE INPUT: true; the input reads as it did. -/
def fnNumValidSpec : ChangeSpec := { name := "fnNumValid", fn := fun _ => fun
  | [d] => { results := [.lit (.bool true)], args := [d] }
  | _ => none }
def fnNumValidRow : OpenClaim := { program := "ytpelokdgjdljfaa", sum := "e32796a4ff534c1d6b8c923831d34ec90c1b69f450ccfb99b090937d37b28037", func := "loop.example/rationalstreams/laws.FnNumValid", spec := "fnNumValid", apart := false }
def FnNumValidSaid : Prop := fnNumValidRow.holds Try.pinned (OpenSpec.ofChange fnNumValidSpec)

/-- ITS FALSE NEIGHBOUR: 'it returns false'. Refute it at one input. -/
def fnNumValidWrong : ChangeSpec := { name := "fnNumValid", fn := fun _ => fun
  | [d] => { results := [.lit (.bool false)], args := [d] }
  | _ => none }
def FnNumValidWrongFalsely : Prop := fnNumValidRow.holds Try.pinned (OpenSpec.ofChange fnNumValidWrong)

/-- 'laws.FnExactNumValid': WHATEVER THE INPUT: true; the input reads as it did. -/
def fnExactNumValidSpec : ChangeSpec := { name := "fnExactNumValid", fn := fun _ => fun
  | [d1, d2] => { results := [.lit (.bool true)], args := [d1, d2] }
  | _ => none }
def fnExactNumValidRow : OpenClaim := { program := "ytpelokdgjdljfaa", sum := "e32796a4ff534c1d6b8c923831d34ec90c1b69f450ccfb99b090937d37b28037", func := "loop.example/rationalstreams/laws.FnExactNumValid", spec := "fnExactNumValid", apart := false }
def FnExactNumValidSaid : Prop := fnExactNumValidRow.holds Try.pinned (OpenSpec.ofChange fnExactNumValidSpec)

/-- ITS FALSE NEIGHBOUR: 'it returns false'. Refute it at one input. -/
def fnExactNumValidWrong : ChangeSpec := { name := "fnExactNumValid", fn := fun _ => fun
  | [d1, d2] => { results := [.lit (.bool false)], args := [d1, d2] }
  | _ => none }
def FnExactNumValidWrongFalsely : Prop := fnExactNumValidRow.holds Try.pinned (OpenSpec.ofChange fnExactNumValidWrong)

/-- 'laws.FnNumAdd': WHATEVER THE INPUT: true; the input reads as it did. -/
def fnNumAddSpec : ChangeSpec := { name := "fnNumAdd", fn := fun _ => fun
  | [d1, d2] => { results := [.lit (.bool true)], args := [d1, d2] }
  | _ => none }
def fnNumAddRow : OpenClaim := { program := "ytpelokdgjdljfaa", sum := "e32796a4ff534c1d6b8c923831d34ec90c1b69f450ccfb99b090937d37b28037", func := "loop.example/rationalstreams/laws.FnNumAdd", spec := "fnNumAdd", apart := false }
def FnNumAddSaid : Prop := fnNumAddRow.holds Try.pinned (OpenSpec.ofChange fnNumAddSpec)

/-- ITS FALSE NEIGHBOUR: 'it returns false'. Refute it at one input. -/
def fnNumAddWrong : ChangeSpec := { name := "fnNumAdd", fn := fun _ => fun
  | [d1, d2] => { results := [.lit (.bool false)], args := [d1, d2] }
  | _ => none }
def FnNumAddWrongFalsely : Prop := fnNumAddRow.holds Try.pinned (OpenSpec.ofChange fnNumAddWrong)

/-- 'laws.FnExactNumAdd': WHATEVER THE INPUT: true; the input reads as it did. -/
def fnExactNumAddSpec : ChangeSpec := { name := "fnExactNumAdd", fn := fun _ => fun
  | [d1, d2, d3] => { results := [.lit (.bool true)], args := [d1, d2, d3] }
  | _ => none }
def fnExactNumAddRow : OpenClaim := { program := "ytpelokdgjdljfaa", sum := "e32796a4ff534c1d6b8c923831d34ec90c1b69f450ccfb99b090937d37b28037", func := "loop.example/rationalstreams/laws.FnExactNumAdd", spec := "fnExactNumAdd", apart := false }
def FnExactNumAddSaid : Prop := fnExactNumAddRow.holds Try.pinned (OpenSpec.ofChange fnExactNumAddSpec)

/-- ITS FALSE NEIGHBOUR: 'it returns false'. Refute it at one input. -/
def fnExactNumAddWrong : ChangeSpec := { name := "fnExactNumAdd", fn := fun _ => fun
  | [d1, d2, d3] => { results := [.lit (.bool false)], args := [d1, d2, d3] }
  | _ => none }
def FnExactNumAddWrongFalsely : Prop := fnExactNumAddRow.holds Try.pinned (OpenSpec.ofChange fnExactNumAddWrong)

/-- 'laws.FnNumTimes': WHATEVER THE INPUT: true; the input reads as it did. -/
def fnNumTimesSpec : ChangeSpec := { name := "fnNumTimes", fn := fun _ => fun
  | [d1, d2] => { results := [.lit (.bool true)], args := [d1, d2] }
  | _ => none }
def fnNumTimesRow : OpenClaim := { program := "ytpelokdgjdljfaa", sum := "e32796a4ff534c1d6b8c923831d34ec90c1b69f450ccfb99b090937d37b28037", func := "loop.example/rationalstreams/laws.FnNumTimes", spec := "fnNumTimes", apart := false }
def FnNumTimesSaid : Prop := fnNumTimesRow.holds Try.pinned (OpenSpec.ofChange fnNumTimesSpec)

/-- ITS FALSE NEIGHBOUR: 'it returns false'. Refute it at one input. -/
def fnNumTimesWrong : ChangeSpec := { name := "fnNumTimes", fn := fun _ => fun
  | [d1, d2] => { results := [.lit (.bool false)], args := [d1, d2] }
  | _ => none }
def FnNumTimesWrongFalsely : Prop := fnNumTimesRow.holds Try.pinned (OpenSpec.ofChange fnNumTimesWrong)

/-- 'laws.FnExactNumTimes': WHATEVER THE INPUT: true; the input reads as it did. -/
def fnExactNumTimesSpec : ChangeSpec := { name := "fnExactNumTimes", fn := fun _ => fun
  | [d1, d2, d3] => { results := [.lit (.bool true)], args := [d1, d2, d3] }
  | _ => none }
def fnExactNumTimesRow : OpenClaim := { program := "ytpelokdgjdljfaa", sum := "e32796a4ff534c1d6b8c923831d34ec90c1b69f450ccfb99b090937d37b28037", func := "loop.example/rationalstreams/laws.FnExactNumTimes", spec := "fnExactNumTimes", apart := false }
def FnExactNumTimesSaid : Prop := fnExactNumTimesRow.holds Try.pinned (OpenSpec.ofChange fnExactNumTimesSpec)

/-- ITS FALSE NEIGHBOUR: 'it returns false'. Refute it at one input. -/
def fnExactNumTimesWrong : ChangeSpec := { name := "fnExactNumTimes", fn := fun _ => fun
  | [d1, d2, d3] => { results := [.lit (.bool false)], args := [d1, d2, d3] }
  | _ => none }
def FnExactNumTimesWrongFalsely : Prop := fnExactNumTimesRow.holds Try.pinned (OpenSpec.ofChange fnExactNumTimesWrong)

/-- 'laws.FnNumBack': WHATEVER THE INPUT: true; the input reads as it did. -/
def fnNumBackSpec : ChangeSpec := { name := "fnNumBack", fn := fun _ => fun
  | [d] => { results := [.lit (.bool true)], args := [d] }
  | _ => none }
def fnNumBackRow : OpenClaim := { program := "ytpelokdgjdljfaa", sum := "e32796a4ff534c1d6b8c923831d34ec90c1b69f450ccfb99b090937d37b28037", func := "loop.example/rationalstreams/laws.FnNumBack", spec := "fnNumBack", apart := false }
def FnNumBackSaid : Prop := fnNumBackRow.holds Try.pinned (OpenSpec.ofChange fnNumBackSpec)

/-- ITS FALSE NEIGHBOUR: 'it returns false'. Refute it at one input. -/
def fnNumBackWrong : ChangeSpec := { name := "fnNumBack", fn := fun _ => fun
  | [d] => { results := [.lit (.bool false)], args := [d] }
  | _ => none }
def FnNumBackWrongFalsely : Prop := fnNumBackRow.holds Try.pinned (OpenSpec.ofChange fnNumBackWrong)

/-- 'laws.FnExactNumBack': WHATEVER THE INPUT: true; the input reads as it did. -/
def fnExactNumBackSpec : ChangeSpec := { name := "fnExactNumBack", fn := fun _ => fun
  | [d1, d2] => { results := [.lit (.bool true)], args := [d1, d2] }
  | _ => none }
def fnExactNumBackRow : OpenClaim := { program := "ytpelokdgjdljfaa", sum := "e32796a4ff534c1d6b8c923831d34ec90c1b69f450ccfb99b090937d37b28037", func := "loop.example/rationalstreams/laws.FnExactNumBack", spec := "fnExactNumBack", apart := false }
def FnExactNumBackSaid : Prop := fnExactNumBackRow.holds Try.pinned (OpenSpec.ofChange fnExactNumBackSpec)

/-- ITS FALSE NEIGHBOUR: 'it returns false'. Refute it at one input. -/
def fnExactNumBackWrong : ChangeSpec := { name := "fnExactNumBack", fn := fun _ => fun
  | [d1, d2] => { results := [.lit (.bool false)], args := [d1, d2] }
  | _ => none }
def FnExactNumBackWrongFalsely : Prop := fnExactNumBackRow.holds Try.pinned (OpenSpec.ofChange fnExactNumBackWrong)

/-- 'laws.FnMatValid': WHATEVER THE INPUT: true; the input reads as it did. -/
def fnMatValidSpec : ChangeSpec := { name := "fnMatValid", fn := fun _ => fun
  | [d] => { results := [.lit (.bool true)], args := [d] }
  | _ => none }
def fnMatValidRow : OpenClaim := { program := "ytpelokdgjdljfaa", sum := "e32796a4ff534c1d6b8c923831d34ec90c1b69f450ccfb99b090937d37b28037", func := "loop.example/rationalstreams/laws.FnMatValid", spec := "fnMatValid", apart := false }
def FnMatValidSaid : Prop := fnMatValidRow.holds Try.pinned (OpenSpec.ofChange fnMatValidSpec)

/-- ITS FALSE NEIGHBOUR: 'it returns false'. Refute it at one input. -/
def fnMatValidWrong : ChangeSpec := { name := "fnMatValid", fn := fun _ => fun
  | [d] => { results := [.lit (.bool false)], args := [d] }
  | _ => none }
def FnMatValidWrongFalsely : Prop := fnMatValidRow.holds Try.pinned (OpenSpec.ofChange fnMatValidWrong)

/-- 'laws.FnExactMatValid': WHATEVER THE INPUT: true; the input reads as it did. -/
def fnExactMatValidSpec : ChangeSpec := { name := "fnExactMatValid", fn := fun _ => fun
  | [d1, d2] => { results := [.lit (.bool true)], args := [d1, d2] }
  | _ => none }
def fnExactMatValidRow : OpenClaim := { program := "ytpelokdgjdljfaa", sum := "e32796a4ff534c1d6b8c923831d34ec90c1b69f450ccfb99b090937d37b28037", func := "loop.example/rationalstreams/laws.FnExactMatValid", spec := "fnExactMatValid", apart := false }
def FnExactMatValidSaid : Prop := fnExactMatValidRow.holds Try.pinned (OpenSpec.ofChange fnExactMatValidSpec)

/-- ITS FALSE NEIGHBOUR: 'it returns false'. Refute it at one input. -/
def fnExactMatValidWrong : ChangeSpec := { name := "fnExactMatValid", fn := fun _ => fun
  | [d1, d2] => { results := [.lit (.bool false)], args := [d1, d2] }
  | _ => none }
def FnExactMatValidWrongFalsely : Prop := fnExactMatValidRow.holds Try.pinned (OpenSpec.ofChange fnExactMatValidWrong)

/- THE SECOND FORM. 'bulk': how many values and letters a reading holds, each counted each time it is reached (what is shared counts as often as it is met; a slice's spare places count too). A statement '..UptoSaid' is the law's where the arguments, and the package variables that the reading takes, are together of bulk at most 1048576: NARROWER than '..Said'. Prove '..Said' where nothing that the law and all that it calls make is longer than what came in: it says more and counts as full. Else prove '..UptoSaid'. A law counts once. -/
mutual
def uptoBulk {H : Type} : DataW H → Nat
  | .lit (.string bytes) => bytes.length + 1
  | .lit _ => 1
  | .nil => 1
  | .ptr d => uptoBulk d + 1
  | .slice elems spare => uptoBulkAll elems + uptoBulkAll spare + 1
  | .agg parts => uptoBulkAll parts + 1
  | .iface _ d => uptoBulk d + 1
  | .map entries => uptoBulkEntries entries + 1
  | .held _ => 1
def uptoBulkAll {H : Type} : List (DataW H) → Nat
  | [] => 0
  | d :: r => uptoBulk d + uptoBulkAll r
def uptoBulkEntries {H : Type} : List (Lit × DataW H) → Nat
  | [] => 0
  | x :: r => uptoBulkEntry x + uptoBulkEntries r
def uptoBulkEntry {H : Type} : Lit × DataW H → Nat
  | (.string bytes, d) => bytes.length + uptoBulk d + 1
  | (_, d) => uptoBulk d + 1
 end
def uptoSmall : (H : Type) → List (DataW H) → Bool := fun _ ds => decide (uptoBulkAll ds ≤ 1048576)
def OpenSpec.upto (s : _root_.Go.ChangeSpec) : _root_.Go.OpenSpec := { _root_.Go.OpenSpec.ofChange s with cond := some uptoSmall }

/-- 'laws.FnPrimeOk', WHERE WHAT IT READS IS OF BULK AT MOST 1048576: true; the input reads as it did. -/
def fnPrimeOkUptoRow : OpenClaim := { program := "ytpelokdgjdljfaa", sum := "e32796a4ff534c1d6b8c923831d34ec90c1b69f450ccfb99b090937d37b28037", func := "loop.example/rationalstreams/laws.FnPrimeOk", spec := "fnPrimeOk", apart := false, narrowed := true }
def FnPrimeOkUptoSaid : Prop := fnPrimeOkUptoRow.holds Try.pinned (OpenSpec.upto fnPrimeOkSpec)

/-- 'laws.FnExactPrimeOk', WHERE WHAT IT READS IS OF BULK AT MOST 1048576: true; the input reads as it did. -/
def fnExactPrimeOkUptoRow : OpenClaim := { program := "ytpelokdgjdljfaa", sum := "e32796a4ff534c1d6b8c923831d34ec90c1b69f450ccfb99b090937d37b28037", func := "loop.example/rationalstreams/laws.FnExactPrimeOk", spec := "fnExactPrimeOk", apart := false, narrowed := true }
def FnExactPrimeOkUptoSaid : Prop := fnExactPrimeOkUptoRow.holds Try.pinned (OpenSpec.upto fnExactPrimeOkSpec)

/-- 'laws.FnNumValid', WHERE WHAT IT READS IS OF BULK AT MOST 1048576: true; the input reads as it did. -/
def fnNumValidUptoRow : OpenClaim := { program := "ytpelokdgjdljfaa", sum := "e32796a4ff534c1d6b8c923831d34ec90c1b69f450ccfb99b090937d37b28037", func := "loop.example/rationalstreams/laws.FnNumValid", spec := "fnNumValid", apart := false, narrowed := true }
def FnNumValidUptoSaid : Prop := fnNumValidUptoRow.holds Try.pinned (OpenSpec.upto fnNumValidSpec)

/-- 'laws.FnExactNumValid', WHERE WHAT IT READS IS OF BULK AT MOST 1048576: true; the input reads as it did. -/
def fnExactNumValidUptoRow : OpenClaim := { program := "ytpelokdgjdljfaa", sum := "e32796a4ff534c1d6b8c923831d34ec90c1b69f450ccfb99b090937d37b28037", func := "loop.example/rationalstreams/laws.FnExactNumValid", spec := "fnExactNumValid", apart := false, narrowed := true }
def FnExactNumValidUptoSaid : Prop := fnExactNumValidUptoRow.holds Try.pinned (OpenSpec.upto fnExactNumValidSpec)

/-- 'laws.FnNumAdd', WHERE WHAT IT READS IS OF BULK AT MOST 1048576: true; the input reads as it did. -/
def fnNumAddUptoRow : OpenClaim := { program := "ytpelokdgjdljfaa", sum := "e32796a4ff534c1d6b8c923831d34ec90c1b69f450ccfb99b090937d37b28037", func := "loop.example/rationalstreams/laws.FnNumAdd", spec := "fnNumAdd", apart := false, narrowed := true }
def FnNumAddUptoSaid : Prop := fnNumAddUptoRow.holds Try.pinned (OpenSpec.upto fnNumAddSpec)

/-- 'laws.FnExactNumAdd', WHERE WHAT IT READS IS OF BULK AT MOST 1048576: true; the input reads as it did. -/
def fnExactNumAddUptoRow : OpenClaim := { program := "ytpelokdgjdljfaa", sum := "e32796a4ff534c1d6b8c923831d34ec90c1b69f450ccfb99b090937d37b28037", func := "loop.example/rationalstreams/laws.FnExactNumAdd", spec := "fnExactNumAdd", apart := false, narrowed := true }
def FnExactNumAddUptoSaid : Prop := fnExactNumAddUptoRow.holds Try.pinned (OpenSpec.upto fnExactNumAddSpec)

/-- 'laws.FnNumTimes', WHERE WHAT IT READS IS OF BULK AT MOST 1048576: true; the input reads as it did. -/
def fnNumTimesUptoRow : OpenClaim := { program := "ytpelokdgjdljfaa", sum := "e32796a4ff534c1d6b8c923831d34ec90c1b69f450ccfb99b090937d37b28037", func := "loop.example/rationalstreams/laws.FnNumTimes", spec := "fnNumTimes", apart := false, narrowed := true }
def FnNumTimesUptoSaid : Prop := fnNumTimesUptoRow.holds Try.pinned (OpenSpec.upto fnNumTimesSpec)

/-- 'laws.FnExactNumTimes', WHERE WHAT IT READS IS OF BULK AT MOST 1048576: true; the input reads as it did. -/
def fnExactNumTimesUptoRow : OpenClaim := { program := "ytpelokdgjdljfaa", sum := "e32796a4ff534c1d6b8c923831d34ec90c1b69f450ccfb99b090937d37b28037", func := "loop.example/rationalstreams/laws.FnExactNumTimes", spec := "fnExactNumTimes", apart := false, narrowed := true }
def FnExactNumTimesUptoSaid : Prop := fnExactNumTimesUptoRow.holds Try.pinned (OpenSpec.upto fnExactNumTimesSpec)

/-- 'laws.FnNumBack', WHERE WHAT IT READS IS OF BULK AT MOST 1048576: true; the input reads as it did. -/
def fnNumBackUptoRow : OpenClaim := { program := "ytpelokdgjdljfaa", sum := "e32796a4ff534c1d6b8c923831d34ec90c1b69f450ccfb99b090937d37b28037", func := "loop.example/rationalstreams/laws.FnNumBack", spec := "fnNumBack", apart := false, narrowed := true }
def FnNumBackUptoSaid : Prop := fnNumBackUptoRow.holds Try.pinned (OpenSpec.upto fnNumBackSpec)

/-- 'laws.FnExactNumBack', WHERE WHAT IT READS IS OF BULK AT MOST 1048576: true; the input reads as it did. -/
def fnExactNumBackUptoRow : OpenClaim := { program := "ytpelokdgjdljfaa", sum := "e32796a4ff534c1d6b8c923831d34ec90c1b69f450ccfb99b090937d37b28037", func := "loop.example/rationalstreams/laws.FnExactNumBack", spec := "fnExactNumBack", apart := false, narrowed := true }
def FnExactNumBackUptoSaid : Prop := fnExactNumBackUptoRow.holds Try.pinned (OpenSpec.upto fnExactNumBackSpec)

/-- 'laws.FnMatValid', WHERE WHAT IT READS IS OF BULK AT MOST 1048576: true; the input reads as it did. -/
def fnMatValidUptoRow : OpenClaim := { program := "ytpelokdgjdljfaa", sum := "e32796a4ff534c1d6b8c923831d34ec90c1b69f450ccfb99b090937d37b28037", func := "loop.example/rationalstreams/laws.FnMatValid", spec := "fnMatValid", apart := false, narrowed := true }
def FnMatValidUptoSaid : Prop := fnMatValidUptoRow.holds Try.pinned (OpenSpec.upto fnMatValidSpec)

/-- 'laws.FnExactMatValid', WHERE WHAT IT READS IS OF BULK AT MOST 1048576: true; the input reads as it did. -/
def fnExactMatValidUptoRow : OpenClaim := { program := "ytpelokdgjdljfaa", sum := "e32796a4ff534c1d6b8c923831d34ec90c1b69f450ccfb99b090937d37b28037", func := "loop.example/rationalstreams/laws.FnExactMatValid", spec := "fnExactMatValid", apart := false, narrowed := true }
def FnExactMatValidUptoSaid : Prop := fnExactMatValidUptoRow.holds Try.pinned (OpenSpec.upto fnExactMatValidSpec)

end Rows
end Go.Proofs.Ytpelokdgjdljfaa

/-
  No cell of these rows narrows 'for every input' (looked for: loops, veiled, ifaces, maps, wideKeys, modest, calm, conditions, laid).
  DERIVED. THE GIVEN ROWS OF THIS SEAT. 12 by the template 'for every input the law returns true; each argument reads behind the call as it read before'; 0 by the template 'total and deterministic' (their statements: YtpelokdgjdljfabTotals.lean).
  GIVEN WITH THE SEED: the statements are not yours to turn. If you find one false, say at which input.
  Laid BY PROGRAM, IN A SANDBOX (cutbox-rows.mjs): the forced cells as the released guide's own fill.sh prints them over the translation 7f4ad675370fbc09… (all of the seat's roots in one cut). By AI agents, Wed Nov 11 2026. No macro, syntax, notation, axiom, sorry.
-/
import Derived.Test.YtpelokdgjdljfabChecked
import GoSem.Claim
import GoSem.ClaimJoined
import GoSem.ClaimMapViews
import Derived.JoinedTies
import Derived.KernelRfl
namespace Go.Proofs.Ytpelokdgjdljfab
/- THE CELL 'sum', in the pinned program and in every row, IS THE sha256 OF THE DUMP (.gsa) THAT YtpelokdgjdljfabProg.lean LOADS. Nothing in Lean hashes anything: it is a label: what it is worth is what the hold of that sum in a sandbox is worth. -/
noncomputable def Try.pinned : Pinned := { name := "ytpelokdgjdljfab", sum := "7f4ad675370fbc096d9f4e0e1d1803332965e798a1186eae3291ecb3f9b2be23", checked := Try.checked }
namespace Rows
def none {H : Type} : Left H := { results := [], args := [] }

/-- 'laws.FnMatTimes': WHATEVER THE INPUT: true; the input reads as it did. -/
def fnMatTimesSpec : ChangeSpec := { name := "fnMatTimes", fn := fun _ => fun
  | [d1, d2] => { results := [.lit (.bool true)], args := [d1, d2] }
  | _ => none }
def fnMatTimesRow : OpenClaim := { program := "ytpelokdgjdljfab", sum := "7f4ad675370fbc096d9f4e0e1d1803332965e798a1186eae3291ecb3f9b2be23", func := "loop.example/rationalstreams/laws.FnMatTimes", spec := "fnMatTimes", apart := false }
def FnMatTimesSaid : Prop := fnMatTimesRow.holds Try.pinned (OpenSpec.ofChange fnMatTimesSpec)

/-- ITS FALSE NEIGHBOUR: 'it returns false'. Refute it at one input. -/
def fnMatTimesWrong : ChangeSpec := { name := "fnMatTimes", fn := fun _ => fun
  | [d1, d2] => { results := [.lit (.bool false)], args := [d1, d2] }
  | _ => none }
def FnMatTimesWrongFalsely : Prop := fnMatTimesRow.holds Try.pinned (OpenSpec.ofChange fnMatTimesWrong)

/-- 'laws.FnExactMatTimes': WHATEVER THE INPUT: true; the input reads as it did. -/
def fnExactMatTimesSpec : ChangeSpec := { name := "fnExactMatTimes", fn := fun _ => fun
  | [d1, d2, d3] => { results := [.lit (.bool true)], args := [d1, d2, d3] }
  | _ => none }
def fnExactMatTimesRow : OpenClaim := { program := "ytpelokdgjdljfab", sum := "7f4ad675370fbc096d9f4e0e1d1803332965e798a1186eae3291ecb3f9b2be23", func := "loop.example/rationalstreams/laws.FnExactMatTimes", spec := "fnExactMatTimes", apart := false }
def FnExactMatTimesSaid : Prop := fnExactMatTimesRow.holds Try.pinned (OpenSpec.ofChange fnExactMatTimesSpec)

/-- ITS FALSE NEIGHBOUR: 'it returns false'. Refute it at one input. -/
def fnExactMatTimesWrong : ChangeSpec := { name := "fnExactMatTimes", fn := fun _ => fun
  | [d1, d2, d3] => { results := [.lit (.bool false)], args := [d1, d2, d3] }
  | _ => none }
def FnExactMatTimesWrongFalsely : Prop := fnExactMatTimesRow.holds Try.pinned (OpenSpec.ofChange fnExactMatTimesWrong)

/-- 'laws.FnMatTurn': WHATEVER THE INPUT: true; the input reads as it did. -/
def fnMatTurnSpec : ChangeSpec := { name := "fnMatTurn", fn := fun _ => fun
  | [d] => { results := [.lit (.bool true)], args := [d] }
  | _ => none }
def fnMatTurnRow : OpenClaim := { program := "ytpelokdgjdljfab", sum := "7f4ad675370fbc096d9f4e0e1d1803332965e798a1186eae3291ecb3f9b2be23", func := "loop.example/rationalstreams/laws.FnMatTurn", spec := "fnMatTurn", apart := false }
def FnMatTurnSaid : Prop := fnMatTurnRow.holds Try.pinned (OpenSpec.ofChange fnMatTurnSpec)

/-- ITS FALSE NEIGHBOUR: 'it returns false'. Refute it at one input. -/
def fnMatTurnWrong : ChangeSpec := { name := "fnMatTurn", fn := fun _ => fun
  | [d] => { results := [.lit (.bool false)], args := [d] }
  | _ => none }
def FnMatTurnWrongFalsely : Prop := fnMatTurnRow.holds Try.pinned (OpenSpec.ofChange fnMatTurnWrong)

/-- 'laws.FnExactMatTurn': WHATEVER THE INPUT: true; the input reads as it did. -/
def fnExactMatTurnSpec : ChangeSpec := { name := "fnExactMatTurn", fn := fun _ => fun
  | [d1, d2] => { results := [.lit (.bool true)], args := [d1, d2] }
  | _ => none }
def fnExactMatTurnRow : OpenClaim := { program := "ytpelokdgjdljfab", sum := "7f4ad675370fbc096d9f4e0e1d1803332965e798a1186eae3291ecb3f9b2be23", func := "loop.example/rationalstreams/laws.FnExactMatTurn", spec := "fnExactMatTurn", apart := false }
def FnExactMatTurnSaid : Prop := fnExactMatTurnRow.holds Try.pinned (OpenSpec.ofChange fnExactMatTurnSpec)

/-- ITS FALSE NEIGHBOUR: 'it returns false'. Refute it at one input. -/
def fnExactMatTurnWrong : ChangeSpec := { name := "fnExactMatTurn", fn := fun _ => fun
  | [d1, d2] => { results := [.lit (.bool false)], args := [d1, d2] }
  | _ => none }
def FnExactMatTurnWrongFalsely : Prop := fnExactMatTurnRow.holds Try.pinned (OpenSpec.ofChange fnExactMatTurnWrong)

/-- 'laws.FnMatForm': WHATEVER THE INPUT: true; the input reads as it did. -/
def fnMatFormSpec : ChangeSpec := { name := "fnMatForm", fn := fun _ => fun
  | [d] => { results := [.lit (.bool true)], args := [d] }
  | _ => none }
def fnMatFormRow : OpenClaim := { program := "ytpelokdgjdljfab", sum := "7f4ad675370fbc096d9f4e0e1d1803332965e798a1186eae3291ecb3f9b2be23", func := "loop.example/rationalstreams/laws.FnMatForm", spec := "fnMatForm", apart := false }
def FnMatFormSaid : Prop := fnMatFormRow.holds Try.pinned (OpenSpec.ofChange fnMatFormSpec)

/-- ITS FALSE NEIGHBOUR: 'it returns false'. Refute it at one input. -/
def fnMatFormWrong : ChangeSpec := { name := "fnMatForm", fn := fun _ => fun
  | [d] => { results := [.lit (.bool false)], args := [d] }
  | _ => none }
def FnMatFormWrongFalsely : Prop := fnMatFormRow.holds Try.pinned (OpenSpec.ofChange fnMatFormWrong)

/-- 'laws.FnExactMatForm': WHATEVER THE INPUT: true; the input reads as it did. -/
def fnExactMatFormSpec : ChangeSpec := { name := "fnExactMatForm", fn := fun _ => fun
  | [d1, d2] => { results := [.lit (.bool true)], args := [d1, d2] }
  | _ => none }
def fnExactMatFormRow : OpenClaim := { program := "ytpelokdgjdljfab", sum := "7f4ad675370fbc096d9f4e0e1d1803332965e798a1186eae3291ecb3f9b2be23", func := "loop.example/rationalstreams/laws.FnExactMatForm", spec := "fnExactMatForm", apart := false }
def FnExactMatFormSaid : Prop := fnExactMatFormRow.holds Try.pinned (OpenSpec.ofChange fnExactMatFormSpec)

/-- ITS FALSE NEIGHBOUR: 'it returns false'. Refute it at one input. -/
def fnExactMatFormWrong : ChangeSpec := { name := "fnExactMatForm", fn := fun _ => fun
  | [d1, d2] => { results := [.lit (.bool false)], args := [d1, d2] }
  | _ => none }
def FnExactMatFormWrongFalsely : Prop := fnExactMatFormRow.holds Try.pinned (OpenSpec.ofChange fnExactMatFormWrong)

/-- 'laws.FnMatRank': WHATEVER THE INPUT: true; the input reads as it did. -/
def fnMatRankSpec : ChangeSpec := { name := "fnMatRank", fn := fun _ => fun
  | [d1, d2] => { results := [.lit (.bool true)], args := [d1, d2] }
  | _ => none }
def fnMatRankRow : OpenClaim := { program := "ytpelokdgjdljfab", sum := "7f4ad675370fbc096d9f4e0e1d1803332965e798a1186eae3291ecb3f9b2be23", func := "loop.example/rationalstreams/laws.FnMatRank", spec := "fnMatRank", apart := false }
def FnMatRankSaid : Prop := fnMatRankRow.holds Try.pinned (OpenSpec.ofChange fnMatRankSpec)

/-- ITS FALSE NEIGHBOUR: 'it returns false'. Refute it at one input. -/
def fnMatRankWrong : ChangeSpec := { name := "fnMatRank", fn := fun _ => fun
  | [d1, d2] => { results := [.lit (.bool false)], args := [d1, d2] }
  | _ => none }
def FnMatRankWrongFalsely : Prop := fnMatRankRow.holds Try.pinned (OpenSpec.ofChange fnMatRankWrong)

/-- 'laws.FnExactMatRank': WHATEVER THE INPUT: true; the input reads as it did. -/
def fnExactMatRankSpec : ChangeSpec := { name := "fnExactMatRank", fn := fun _ => fun
  | [d1, d2] => { results := [.lit (.bool true)], args := [d1, d2] }
  | _ => none }
def fnExactMatRankRow : OpenClaim := { program := "ytpelokdgjdljfab", sum := "7f4ad675370fbc096d9f4e0e1d1803332965e798a1186eae3291ecb3f9b2be23", func := "loop.example/rationalstreams/laws.FnExactMatRank", spec := "fnExactMatRank", apart := false }
def FnExactMatRankSaid : Prop := fnExactMatRankRow.holds Try.pinned (OpenSpec.ofChange fnExactMatRankSpec)

/-- ITS FALSE NEIGHBOUR: 'it returns false'. Refute it at one input. -/
def fnExactMatRankWrong : ChangeSpec := { name := "fnExactMatRank", fn := fun _ => fun
  | [d1, d2] => { results := [.lit (.bool false)], args := [d1, d2] }
  | _ => none }
def FnExactMatRankWrongFalsely : Prop := fnExactMatRankRow.holds Try.pinned (OpenSpec.ofChange fnExactMatRankWrong)

/-- 'laws.FnMatKernel': WHATEVER THE INPUT: true; the input reads as it did. -/
def fnMatKernelSpec : ChangeSpec := { name := "fnMatKernel", fn := fun _ => fun
  | [d] => { results := [.lit (.bool true)], args := [d] }
  | _ => none }
def fnMatKernelRow : OpenClaim := { program := "ytpelokdgjdljfab", sum := "7f4ad675370fbc096d9f4e0e1d1803332965e798a1186eae3291ecb3f9b2be23", func := "loop.example/rationalstreams/laws.FnMatKernel", spec := "fnMatKernel", apart := false }
def FnMatKernelSaid : Prop := fnMatKernelRow.holds Try.pinned (OpenSpec.ofChange fnMatKernelSpec)

/-- ITS FALSE NEIGHBOUR: 'it returns false'. Refute it at one input. -/
def fnMatKernelWrong : ChangeSpec := { name := "fnMatKernel", fn := fun _ => fun
  | [d] => { results := [.lit (.bool false)], args := [d] }
  | _ => none }
def FnMatKernelWrongFalsely : Prop := fnMatKernelRow.holds Try.pinned (OpenSpec.ofChange fnMatKernelWrong)

/-- 'laws.FnExactMatKernel': WHATEVER THE INPUT: true; the input reads as it did. -/
def fnExactMatKernelSpec : ChangeSpec := { name := "fnExactMatKernel", fn := fun _ => fun
  | [d1, d2] => { results := [.lit (.bool true)], args := [d1, d2] }
  | _ => none }
def fnExactMatKernelRow : OpenClaim := { program := "ytpelokdgjdljfab", sum := "7f4ad675370fbc096d9f4e0e1d1803332965e798a1186eae3291ecb3f9b2be23", func := "loop.example/rationalstreams/laws.FnExactMatKernel", spec := "fnExactMatKernel", apart := false }
def FnExactMatKernelSaid : Prop := fnExactMatKernelRow.holds Try.pinned (OpenSpec.ofChange fnExactMatKernelSpec)

/-- ITS FALSE NEIGHBOUR: 'it returns false'. Refute it at one input. -/
def fnExactMatKernelWrong : ChangeSpec := { name := "fnExactMatKernel", fn := fun _ => fun
  | [d1, d2] => { results := [.lit (.bool false)], args := [d1, d2] }
  | _ => none }
def FnExactMatKernelWrongFalsely : Prop := fnExactMatKernelRow.holds Try.pinned (OpenSpec.ofChange fnExactMatKernelWrong)

/-- 'laws.FnMatSolve': WHATEVER THE INPUT: true; the input reads as it did. -/
def fnMatSolveSpec : ChangeSpec := { name := "fnMatSolve", fn := fun _ => fun
  | [d] => { results := [.lit (.bool true)], args := [d] }
  | _ => none }
def fnMatSolveRow : OpenClaim := { program := "ytpelokdgjdljfab", sum := "7f4ad675370fbc096d9f4e0e1d1803332965e798a1186eae3291ecb3f9b2be23", func := "loop.example/rationalstreams/laws.FnMatSolve", spec := "fnMatSolve", apart := false }
def FnMatSolveSaid : Prop := fnMatSolveRow.holds Try.pinned (OpenSpec.ofChange fnMatSolveSpec)

/-- ITS FALSE NEIGHBOUR: 'it returns false'. Refute it at one input. -/
def fnMatSolveWrong : ChangeSpec := { name := "fnMatSolve", fn := fun _ => fun
  | [d] => { results := [.lit (.bool false)], args := [d] }
  | _ => none }
def FnMatSolveWrongFalsely : Prop := fnMatSolveRow.holds Try.pinned (OpenSpec.ofChange fnMatSolveWrong)

/-- 'laws.FnExactMatSolve': WHATEVER THE INPUT: true; the input reads as it did. -/
def fnExactMatSolveSpec : ChangeSpec := { name := "fnExactMatSolve", fn := fun _ => fun
  | [d1, d2, d3] => { results := [.lit (.bool true)], args := [d1, d2, d3] }
  | _ => none }
def fnExactMatSolveRow : OpenClaim := { program := "ytpelokdgjdljfab", sum := "7f4ad675370fbc096d9f4e0e1d1803332965e798a1186eae3291ecb3f9b2be23", func := "loop.example/rationalstreams/laws.FnExactMatSolve", spec := "fnExactMatSolve", apart := false }
def FnExactMatSolveSaid : Prop := fnExactMatSolveRow.holds Try.pinned (OpenSpec.ofChange fnExactMatSolveSpec)

/-- ITS FALSE NEIGHBOUR: 'it returns false'. Refute it at one input. -/
def fnExactMatSolveWrong : ChangeSpec := { name := "fnExactMatSolve", fn := fun _ => fun
  | [d1, d2, d3] => { results := [.lit (.bool false)], args := [d1, d2, d3] }
  | _ => none }
def FnExactMatSolveWrongFalsely : Prop := fnExactMatSolveRow.holds Try.pinned (OpenSpec.ofChange fnExactMatSolveWrong)

/- THE SECOND FORM. 'bulk': how many values and letters a reading holds, each counted each time it is reached (what is shared counts as often as it is met; a slice's spare places count too). A statement '..UptoSaid' is the law's where the arguments, and the package variables that the reading takes, are together of bulk at most 1048576: NARROWER than '..Said'. Prove '..Said' where nothing that the law and all that it calls make is longer than what came in: it says more and counts as full. Else prove '..UptoSaid'. A law counts once. -/
mutual
def uptoBulk {H : Type} : DataW H → Nat
  | .lit (.string bytes) => bytes.length + 1
  | .lit _ => 1
  | .nil => 1
  | .ptr d => uptoBulk d + 1
  | .slice elems spare => uptoBulkAll elems + uptoBulkAll spare + 1
  | .agg parts => uptoBulkAll parts + 1
  | .iface _ d => uptoBulk d + 1
  | .map entries => uptoBulkEntries entries + 1
  | .held _ => 1
def uptoBulkAll {H : Type} : List (DataW H) → Nat
  | [] => 0
  | d :: r => uptoBulk d + uptoBulkAll r
def uptoBulkEntries {H : Type} : List (Lit × DataW H) → Nat
  | [] => 0
  | x :: r => uptoBulkEntry x + uptoBulkEntries r
def uptoBulkEntry {H : Type} : Lit × DataW H → Nat
  | (.string bytes, d) => bytes.length + uptoBulk d + 1
  | (_, d) => uptoBulk d + 1
 end
def uptoSmall : (H : Type) → List (DataW H) → Bool := fun _ ds => decide (uptoBulkAll ds ≤ 1048576)
def OpenSpec.upto (s : _root_.Go.ChangeSpec) : _root_.Go.OpenSpec := { _root_.Go.OpenSpec.ofChange s with cond := some uptoSmall }

/-- 'laws.FnMatTimes', WHERE WHAT IT READS IS OF BULK AT MOST 1048576: true; the input reads as it did. -/
def fnMatTimesUptoRow : OpenClaim := { program := "ytpelokdgjdljfab", sum := "7f4ad675370fbc096d9f4e0e1d1803332965e798a1186eae3291ecb3f9b2be23", func := "loop.example/rationalstreams/laws.FnMatTimes", spec := "fnMatTimes", apart := false, narrowed := true }
def FnMatTimesUptoSaid : Prop := fnMatTimesUptoRow.holds Try.pinned (OpenSpec.upto fnMatTimesSpec)

/-- 'laws.FnExactMatTimes', WHERE WHAT IT READS IS OF BULK AT MOST 1048576: true; the input reads as it did. -/
def fnExactMatTimesUptoRow : OpenClaim := { program := "ytpelokdgjdljfab", sum := "7f4ad675370fbc096d9f4e0e1d1803332965e798a1186eae3291ecb3f9b2be23", func := "loop.example/rationalstreams/laws.FnExactMatTimes", spec := "fnExactMatTimes", apart := false, narrowed := true }
def FnExactMatTimesUptoSaid : Prop := fnExactMatTimesUptoRow.holds Try.pinned (OpenSpec.upto fnExactMatTimesSpec)

/-- 'laws.FnMatTurn', WHERE WHAT IT READS IS OF BULK AT MOST 1048576: true; the input reads as it did. -/
def fnMatTurnUptoRow : OpenClaim := { program := "ytpelokdgjdljfab", sum := "7f4ad675370fbc096d9f4e0e1d1803332965e798a1186eae3291ecb3f9b2be23", func := "loop.example/rationalstreams/laws.FnMatTurn", spec := "fnMatTurn", apart := false, narrowed := true }
def FnMatTurnUptoSaid : Prop := fnMatTurnUptoRow.holds Try.pinned (OpenSpec.upto fnMatTurnSpec)

/-- 'laws.FnExactMatTurn', WHERE WHAT IT READS IS OF BULK AT MOST 1048576: true; the input reads as it did. -/
def fnExactMatTurnUptoRow : OpenClaim := { program := "ytpelokdgjdljfab", sum := "7f4ad675370fbc096d9f4e0e1d1803332965e798a1186eae3291ecb3f9b2be23", func := "loop.example/rationalstreams/laws.FnExactMatTurn", spec := "fnExactMatTurn", apart := false, narrowed := true }
def FnExactMatTurnUptoSaid : Prop := fnExactMatTurnUptoRow.holds Try.pinned (OpenSpec.upto fnExactMatTurnSpec)

/-- 'laws.FnMatForm', WHERE WHAT IT READS IS OF BULK AT MOST 1048576: true; the input reads as it did. -/
def fnMatFormUptoRow : OpenClaim := { program := "ytpelokdgjdljfab", sum := "7f4ad675370fbc096d9f4e0e1d1803332965e798a1186eae3291ecb3f9b2be23", func := "loop.example/rationalstreams/laws.FnMatForm", spec := "fnMatForm", apart := false, narrowed := true }
def FnMatFormUptoSaid : Prop := fnMatFormUptoRow.holds Try.pinned (OpenSpec.upto fnMatFormSpec)

/-- 'laws.FnExactMatForm', WHERE WHAT IT READS IS OF BULK AT MOST 1048576: true; the input reads as it did. -/
def fnExactMatFormUptoRow : OpenClaim := { program := "ytpelokdgjdljfab", sum := "7f4ad675370fbc096d9f4e0e1d1803332965e798a1186eae3291ecb3f9b2be23", func := "loop.example/rationalstreams/laws.FnExactMatForm", spec := "fnExactMatForm", apart := false, narrowed := true }
def FnExactMatFormUptoSaid : Prop := fnExactMatFormUptoRow.holds Try.pinned (OpenSpec.upto fnExactMatFormSpec)

/-- 'laws.FnMatRank', WHERE WHAT IT READS IS OF BULK AT MOST 1048576: true; the input reads as it did. -/
def fnMatRankUptoRow : OpenClaim := { program := "ytpelokdgjdljfab", sum := "7f4ad675370fbc096d9f4e0e1d1803332965e798a1186eae3291ecb3f9b2be23", func := "loop.example/rationalstreams/laws.FnMatRank", spec := "fnMatRank", apart := false, narrowed := true }
def FnMatRankUptoSaid : Prop := fnMatRankUptoRow.holds Try.pinned (OpenSpec.upto fnMatRankSpec)

/-- 'laws.FnExactMatRank', WHERE WHAT IT READS IS OF BULK AT MOST 1048576: true; the input reads as it did. -/
def fnExactMatRankUptoRow : OpenClaim := { program := "ytpelokdgjdljfab", sum := "7f4ad675370fbc096d9f4e0e1d1803332965e798a1186eae3291ecb3f9b2be23", func := "loop.example/rationalstreams/laws.FnExactMatRank", spec := "fnExactMatRank", apart := false, narrowed := true }
def FnExactMatRankUptoSaid : Prop := fnExactMatRankUptoRow.holds Try.pinned (OpenSpec.upto fnExactMatRankSpec)

/-- 'laws.FnMatKernel', WHERE WHAT IT READS IS OF BULK AT MOST 1048576: true; the input reads as it did. -/
def fnMatKernelUptoRow : OpenClaim := { program := "ytpelokdgjdljfab", sum := "7f4ad675370fbc096d9f4e0e1d1803332965e798a1186eae3291ecb3f9b2be23", func := "loop.example/rationalstreams/laws.FnMatKernel", spec := "fnMatKernel", apart := false, narrowed := true }
def FnMatKernelUptoSaid : Prop := fnMatKernelUptoRow.holds Try.pinned (OpenSpec.upto fnMatKernelSpec)

/-- 'laws.FnExactMatKernel', WHERE WHAT IT READS IS OF BULK AT MOST 1048576: true; the input reads as it did. -/
def fnExactMatKernelUptoRow : OpenClaim := { program := "ytpelokdgjdljfab", sum := "7f4ad675370fbc096d9f4e0e1d1803332965e798a1186eae3291ecb3f9b2be23", func := "loop.example/rationalstreams/laws.FnExactMatKernel", spec := "fnExactMatKernel", apart := false, narrowed := true }
def FnExactMatKernelUptoSaid : Prop := fnExactMatKernelUptoRow.holds Try.pinned (OpenSpec.upto fnExactMatKernelSpec)

/-- 'laws.FnMatSolve', WHERE WHAT IT READS IS OF BULK AT MOST 1048576: true; the input reads as it did. -/
def fnMatSolveUptoRow : OpenClaim := { program := "ytpelokdgjdljfab", sum := "7f4ad675370fbc096d9f4e0e1d1803332965e798a1186eae3291ecb3f9b2be23", func := "loop.example/rationalstreams/laws.FnMatSolve", spec := "fnMatSolve", apart := false, narrowed := true }
def FnMatSolveUptoSaid : Prop := fnMatSolveUptoRow.holds Try.pinned (OpenSpec.upto fnMatSolveSpec)

/-- 'laws.FnExactMatSolve', WHERE WHAT IT READS IS OF BULK AT MOST 1048576: true; the input reads as it did. -/
def fnExactMatSolveUptoRow : OpenClaim := { program := "ytpelokdgjdljfab", sum := "7f4ad675370fbc096d9f4e0e1d1803332965e798a1186eae3291ecb3f9b2be23", func := "loop.example/rationalstreams/laws.FnExactMatSolve", spec := "fnExactMatSolve", apart := false, narrowed := true }
def FnExactMatSolveUptoSaid : Prop := fnExactMatSolveUptoRow.holds Try.pinned (OpenSpec.upto fnExactMatSolveSpec)

end Rows
end Go.Proofs.Ytpelokdgjdljfab

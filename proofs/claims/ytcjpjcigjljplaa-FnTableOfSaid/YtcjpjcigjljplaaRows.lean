/-
  No cell of these rows narrows 'for every input' (looked for: loops, veiled, ifaces, maps, wideKeys, modest, calm, conditions, laid).
  DERIVED. THE GIVEN ROWS OF THIS SEAT. 7 by the template 'for every input the law returns true; each argument reads behind the call as it read before'; 0 by the template 'total and deterministic' (their statements: YtcjpjcigjljplaaTotals.lean).
  GIVEN WITH THE SEED: the statements are not yours to turn. If you find one false, say at which input.
  Laid BY PROGRAM, IN A SANDBOX (cutbox-rows.mjs): the forced cells as the released guide's own fill.sh prints them over the translation ad0a7798e32fbfcd… (all of the seat's roots in one cut). By AI agents, Wed Nov 11 2026. No macro, syntax, notation, axiom, sorry.
-/
import Derived.Test.YtcjpjcigjljplaaChecked
import GoSem.Claim
import GoSem.ClaimJoined
import GoSem.ClaimMapViews
import Derived.JoinedTies
import Derived.KernelRfl
namespace Go.Proofs.Ytcjpjcigjljplaa
/- THE CELL 'sum', in the pinned program and in every row, IS THE sha256 OF THE DUMP (.gsa) THAT YtcjpjcigjljplaaProg.lean LOADS. Nothing in Lean hashes anything: it is a label: what it is worth is what the hold of that sum in a sandbox is worth. -/
noncomputable def Try.pinned : Pinned := { name := "ytcjpjcigjljplaa", sum := "ad0a7798e32fbfcd4ed868610f043b1ed7927b30e93c943060f24fe58f35f728", checked := Try.checked }
namespace Rows
def none {H : Type} : Left H := { results := [], args := [] }

/-- 'laws.FnTableOf': WHATEVER THE INPUT: true; the input reads as it did. -/
def fnTableOfSpec : ChangeSpec := { name := "fnTableOf", fn := fun _ => fun
  | [d] => { results := [.lit (.bool true)], args := [d] }
  | _ => none }
def fnTableOfRow : OpenClaim := { program := "ytcjpjcigjljplaa", sum := "ad0a7798e32fbfcd4ed868610f043b1ed7927b30e93c943060f24fe58f35f728", func := "loop.example/rationalstreams/laws.FnTableOf", spec := "fnTableOf", apart := false }
def FnTableOfSaid : Prop := fnTableOfRow.holds Try.pinned (OpenSpec.ofChange fnTableOfSpec)

/-- ITS FALSE NEIGHBOUR: 'it returns false'. Refute it at one input. -/
def fnTableOfWrong : ChangeSpec := { name := "fnTableOf", fn := fun _ => fun
  | [d] => { results := [.lit (.bool false)], args := [d] }
  | _ => none }
def FnTableOfWrongFalsely : Prop := fnTableOfRow.holds Try.pinned (OpenSpec.ofChange fnTableOfWrong)

/-- 'laws.FnExactTableOf': WHATEVER THE INPUT: true; the input reads as it did. -/
def fnExactTableOfSpec : ChangeSpec := { name := "fnExactTableOf", fn := fun _ => fun
  | [d1, d2, d3, d4] => { results := [.lit (.bool true)], args := [d1, d2, d3, d4] }
  | _ => none }
def fnExactTableOfRow : OpenClaim := { program := "ytcjpjcigjljplaa", sum := "ad0a7798e32fbfcd4ed868610f043b1ed7927b30e93c943060f24fe58f35f728", func := "loop.example/rationalstreams/laws.FnExactTableOf", spec := "fnExactTableOf", apart := false }
def FnExactTableOfSaid : Prop := fnExactTableOfRow.holds Try.pinned (OpenSpec.ofChange fnExactTableOfSpec)

/-- ITS FALSE NEIGHBOUR: 'it returns false'. Refute it at one input. -/
def fnExactTableOfWrong : ChangeSpec := { name := "fnExactTableOf", fn := fun _ => fun
  | [d1, d2, d3, d4] => { results := [.lit (.bool false)], args := [d1, d2, d3, d4] }
  | _ => none }
def FnExactTableOfWrongFalsely : Prop := fnExactTableOfRow.holds Try.pinned (OpenSpec.ofChange fnExactTableOfWrong)

/-- 'laws.FnExactStreamRank': WHATEVER THE INPUT: true; the input reads as it did. -/
def fnExactStreamRankSpec : ChangeSpec := { name := "fnExactStreamRank", fn := fun _ => fun
  | [d] => { results := [.lit (.bool true)], args := [d] }
  | _ => none }
def fnExactStreamRankRow : OpenClaim := { program := "ytcjpjcigjljplaa", sum := "ad0a7798e32fbfcd4ed868610f043b1ed7927b30e93c943060f24fe58f35f728", func := "loop.example/rationalstreams/laws.FnExactStreamRank", spec := "fnExactStreamRank", unfollowed := true, recurses := true, apart := false }
def FnExactStreamRankSaid : Prop := fnExactStreamRankRow.holds Try.pinned (OpenSpec.ofChange fnExactStreamRankSpec)

/-- ITS FALSE NEIGHBOUR: 'it returns false'. Refute it at one input. -/
def fnExactStreamRankWrong : ChangeSpec := { name := "fnExactStreamRank", fn := fun _ => fun
  | [d] => { results := [.lit (.bool false)], args := [d] }
  | _ => none }
def FnExactStreamRankWrongFalsely : Prop := fnExactStreamRankRow.holds Try.pinned (OpenSpec.ofChange fnExactStreamRankWrong)

/-- 'laws.FnExactTableDets': WHATEVER THE INPUT: true; the input reads as it did. -/
def fnExactTableDetsSpec : ChangeSpec := { name := "fnExactTableDets", fn := fun _ => fun
  | [d] => { results := [.lit (.bool true)], args := [d] }
  | _ => none }
def fnExactTableDetsRow : OpenClaim := { program := "ytcjpjcigjljplaa", sum := "ad0a7798e32fbfcd4ed868610f043b1ed7927b30e93c943060f24fe58f35f728", func := "loop.example/rationalstreams/laws.FnExactTableDets", spec := "fnExactTableDets", unfollowed := true, recurses := true, apart := false }
def FnExactTableDetsSaid : Prop := fnExactTableDetsRow.holds Try.pinned (OpenSpec.ofChange fnExactTableDetsSpec)

/-- ITS FALSE NEIGHBOUR: 'it returns false'. Refute it at one input. -/
def fnExactTableDetsWrong : ChangeSpec := { name := "fnExactTableDets", fn := fun _ => fun
  | [d] => { results := [.lit (.bool false)], args := [d] }
  | _ => none }
def FnExactTableDetsWrongFalsely : Prop := fnExactTableDetsRow.holds Try.pinned (OpenSpec.ofChange fnExactTableDetsWrong)

/-- 'laws.FnExactShortestRec': WHATEVER THE INPUT: true; the input reads as it did. -/
def fnExactShortestRecSpec : ChangeSpec := { name := "fnExactShortestRec", fn := fun _ => fun
  | [d1, d2] => { results := [.lit (.bool true)], args := [d1, d2] }
  | _ => none }
def fnExactShortestRecRow : OpenClaim := { program := "ytcjpjcigjljplaa", sum := "ad0a7798e32fbfcd4ed868610f043b1ed7927b30e93c943060f24fe58f35f728", func := "loop.example/rationalstreams/laws.FnExactShortestRec", spec := "fnExactShortestRec", apart := false }
def FnExactShortestRecSaid : Prop := fnExactShortestRecRow.holds Try.pinned (OpenSpec.ofChange fnExactShortestRecSpec)

/-- ITS FALSE NEIGHBOUR: 'it returns false'. Refute it at one input. -/
def fnExactShortestRecWrong : ChangeSpec := { name := "fnExactShortestRec", fn := fun _ => fun
  | [d1, d2] => { results := [.lit (.bool false)], args := [d1, d2] }
  | _ => none }
def FnExactShortestRecWrongFalsely : Prop := fnExactShortestRecRow.holds Try.pinned (OpenSpec.ofChange fnExactShortestRecWrong)

/-- 'laws.FnExactGuessOf': WHATEVER THE INPUT: true; the input reads as it did. -/
def fnExactGuessOfSpec : ChangeSpec := { name := "fnExactGuessOf", fn := fun _ => fun
  | [d1, d2, d3] => { results := [.lit (.bool true)], args := [d1, d2, d3] }
  | _ => none }
def fnExactGuessOfRow : OpenClaim := { program := "ytcjpjcigjljplaa", sum := "ad0a7798e32fbfcd4ed868610f043b1ed7927b30e93c943060f24fe58f35f728", func := "loop.example/rationalstreams/laws.FnExactGuessOf", spec := "fnExactGuessOf", unfollowed := true, recurses := true, apart := false }
def FnExactGuessOfSaid : Prop := fnExactGuessOfRow.holds Try.pinned (OpenSpec.ofChange fnExactGuessOfSpec)

/-- ITS FALSE NEIGHBOUR: 'it returns false'. Refute it at one input. -/
def fnExactGuessOfWrong : ChangeSpec := { name := "fnExactGuessOf", fn := fun _ => fun
  | [d1, d2, d3] => { results := [.lit (.bool false)], args := [d1, d2, d3] }
  | _ => none }
def FnExactGuessOfWrongFalsely : Prop := fnExactGuessOfRow.holds Try.pinned (OpenSpec.ofChange fnExactGuessOfWrong)

/-- 'laws.FnExactOrdersOf': WHATEVER THE INPUT: true; the input reads as it did. -/
def fnExactOrdersOfSpec : ChangeSpec := { name := "fnExactOrdersOf", fn := fun _ => fun
  | [d1, d2] => { results := [.lit (.bool true)], args := [d1, d2] }
  | _ => none }
def fnExactOrdersOfRow : OpenClaim := { program := "ytcjpjcigjljplaa", sum := "ad0a7798e32fbfcd4ed868610f043b1ed7927b30e93c943060f24fe58f35f728", func := "loop.example/rationalstreams/laws.FnExactOrdersOf", spec := "fnExactOrdersOf", unfollowed := true, recurses := true, apart := false }
def FnExactOrdersOfSaid : Prop := fnExactOrdersOfRow.holds Try.pinned (OpenSpec.ofChange fnExactOrdersOfSpec)

/-- ITS FALSE NEIGHBOUR: 'it returns false'. Refute it at one input. -/
def fnExactOrdersOfWrong : ChangeSpec := { name := "fnExactOrdersOf", fn := fun _ => fun
  | [d1, d2] => { results := [.lit (.bool false)], args := [d1, d2] }
  | _ => none }
def FnExactOrdersOfWrongFalsely : Prop := fnExactOrdersOfRow.holds Try.pinned (OpenSpec.ofChange fnExactOrdersOfWrong)

/- THE SECOND FORM. 'bulk': how many values and letters a reading holds, each counted each time it is reached (what is shared counts as often as it is met; a slice's spare places count too). A statement '..UptoSaid' is the law's where the arguments, and the package variables that the reading takes, are together of bulk at most 1048576: NARROWER than '..Said'. Prove '..Said' where nothing that the law and all that it calls make is longer than what came in: it says more and counts as full. Else prove '..UptoSaid'. A law counts once. -/
mutual
def uptoBulk {H : Type} : DataW H → Nat
  | .lit (.string bytes) => bytes.length + 1
  | .lit _ => 1
  | .nil => 1
  | .ptr d => uptoBulk d + 1
  | .slice elems spare => uptoBulkAll elems + uptoBulkAll spare + 1
  | .agg parts => uptoBulkAll parts + 1
  | .iface _ d => uptoBulk d + 1
  | .map entries => uptoBulkEntries entries + 1
  | .held _ => 1
def uptoBulkAll {H : Type} : List (DataW H) → Nat
  | [] => 0
  | d :: r => uptoBulk d + uptoBulkAll r
def uptoBulkEntries {H : Type} : List (Lit × DataW H) → Nat
  | [] => 0
  | x :: r => uptoBulkEntry x + uptoBulkEntries r
def uptoBulkEntry {H : Type} : Lit × DataW H → Nat
  | (.string bytes, d) => bytes.length + uptoBulk d + 1
  | (_, d) => uptoBulk d + 1
 end
def uptoSmall : (H : Type) → List (DataW H) → Bool := fun _ ds => decide (uptoBulkAll ds ≤ 1048576)
def OpenSpec.upto (s : _root_.Go.ChangeSpec) : _root_.Go.OpenSpec := { _root_.Go.OpenSpec.ofChange s with cond := some uptoSmall }

/-- 'laws.FnTableOf', WHERE WHAT IT READS IS OF BULK AT MOST 1048576: true; the input reads as it did. -/
def fnTableOfUptoRow : OpenClaim := { program := "ytcjpjcigjljplaa", sum := "ad0a7798e32fbfcd4ed868610f043b1ed7927b30e93c943060f24fe58f35f728", func := "loop.example/rationalstreams/laws.FnTableOf", spec := "fnTableOf", apart := false, narrowed := true }
def FnTableOfUptoSaid : Prop := fnTableOfUptoRow.holds Try.pinned (OpenSpec.upto fnTableOfSpec)

/-- 'laws.FnExactTableOf', WHERE WHAT IT READS IS OF BULK AT MOST 1048576: true; the input reads as it did. -/
def fnExactTableOfUptoRow : OpenClaim := { program := "ytcjpjcigjljplaa", sum := "ad0a7798e32fbfcd4ed868610f043b1ed7927b30e93c943060f24fe58f35f728", func := "loop.example/rationalstreams/laws.FnExactTableOf", spec := "fnExactTableOf", apart := false, narrowed := true }
def FnExactTableOfUptoSaid : Prop := fnExactTableOfUptoRow.holds Try.pinned (OpenSpec.upto fnExactTableOfSpec)

/-- 'laws.FnExactStreamRank', WHERE WHAT IT READS IS OF BULK AT MOST 1048576: true; the input reads as it did. -/
def fnExactStreamRankUptoRow : OpenClaim := { program := "ytcjpjcigjljplaa", sum := "ad0a7798e32fbfcd4ed868610f043b1ed7927b30e93c943060f24fe58f35f728", func := "loop.example/rationalstreams/laws.FnExactStreamRank", spec := "fnExactStreamRank", unfollowed := true, recurses := true, apart := false, narrowed := true }
def FnExactStreamRankUptoSaid : Prop := fnExactStreamRankUptoRow.holds Try.pinned (OpenSpec.upto fnExactStreamRankSpec)

/-- 'laws.FnExactTableDets', WHERE WHAT IT READS IS OF BULK AT MOST 1048576: true; the input reads as it did. -/
def fnExactTableDetsUptoRow : OpenClaim := { program := "ytcjpjcigjljplaa", sum := "ad0a7798e32fbfcd4ed868610f043b1ed7927b30e93c943060f24fe58f35f728", func := "loop.example/rationalstreams/laws.FnExactTableDets", spec := "fnExactTableDets", unfollowed := true, recurses := true, apart := false, narrowed := true }
def FnExactTableDetsUptoSaid : Prop := fnExactTableDetsUptoRow.holds Try.pinned (OpenSpec.upto fnExactTableDetsSpec)

/-- 'laws.FnExactShortestRec', WHERE WHAT IT READS IS OF BULK AT MOST 1048576: true; the input reads as it did. -/
def fnExactShortestRecUptoRow : OpenClaim := { program := "ytcjpjcigjljplaa", sum := "ad0a7798e32fbfcd4ed868610f043b1ed7927b30e93c943060f24fe58f35f728", func := "loop.example/rationalstreams/laws.FnExactShortestRec", spec := "fnExactShortestRec", apart := false, narrowed := true }
def FnExactShortestRecUptoSaid : Prop := fnExactShortestRecUptoRow.holds Try.pinned (OpenSpec.upto fnExactShortestRecSpec)

/-- 'laws.FnExactGuessOf', WHERE WHAT IT READS IS OF BULK AT MOST 1048576: true; the input reads as it did. -/
def fnExactGuessOfUptoRow : OpenClaim := { program := "ytcjpjcigjljplaa", sum := "ad0a7798e32fbfcd4ed868610f043b1ed7927b30e93c943060f24fe58f35f728", func := "loop.example/rationalstreams/laws.FnExactGuessOf", spec := "fnExactGuessOf", unfollowed := true, recurses := true, apart := false, narrowed := true }
def FnExactGuessOfUptoSaid : Prop := fnExactGuessOfUptoRow.holds Try.pinned (OpenSpec.upto fnExactGuessOfSpec)

/-- 'laws.FnExactOrdersOf', WHERE WHAT IT READS IS OF BULK AT MOST 1048576: true; the input reads as it did. -/
def fnExactOrdersOfUptoRow : OpenClaim := { program := "ytcjpjcigjljplaa", sum := "ad0a7798e32fbfcd4ed868610f043b1ed7927b30e93c943060f24fe58f35f728", func := "loop.example/rationalstreams/laws.FnExactOrdersOf", spec := "fnExactOrdersOf", unfollowed := true, recurses := true, apart := false, narrowed := true }
def FnExactOrdersOfUptoSaid : Prop := fnExactOrdersOfUptoRow.holds Try.pinned (OpenSpec.upto fnExactOrdersOfSpec)

end Rows
end Go.Proofs.Ytcjpjcigjljplaa

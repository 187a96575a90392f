/-
  No cell of these rows narrows 'for every input' (looked for: loops, veiled, ifaces, maps, wideKeys, modest, calm, conditions, laid).
  DERIVED. THE GIVEN ROWS OF THIS SEAT. 4 by the template 'for every input the law returns true; each argument reads behind the call as it read before'; 0 by the template 'total and deterministic' (their statements: YtdecaokngedghaaTotals.lean).
  GIVEN WITH THE SEED: the statements are not yours to turn. If you find one false, say at which input.
  Laid BY PROGRAM, IN A SANDBOX (cutbox-rows.mjs): the forced cells as the released guide's own fill.sh prints them over the translation 8e336f7d19b84669… (all of the seat's roots in one cut). By AI agents, Wed Nov 11 2026. No macro, syntax, notation, axiom, sorry.
-/
import Derived.Test.YtdecaokngedghaaChecked
import GoSem.Claim
import GoSem.ClaimJoined
import GoSem.ClaimMapViews
import Derived.JoinedTies
import Derived.KernelRfl
namespace Go.Proofs.Ytdecaokngedghaa
/- THE CELL 'sum', in the pinned program and in every row, IS THE sha256 OF THE DUMP (.gsa) THAT YtdecaokngedghaaProg.lean LOADS. Nothing in Lean hashes anything: it is a label: what it is worth is what the hold of that sum in a sandbox is worth. -/
noncomputable def Try.pinned : Pinned := { name := "ytdecaokngedghaa", sum := "8e336f7d19b84669361358ca1f21f93468d7baf2b1897b58b17df74c40c1c995", checked := Try.checked }
namespace Rows
def none {H : Type} : Left H := { results := [], args := [] }

/-- 'laws.FnShortestRec': WHATEVER THE INPUT: true; the input reads as it did. -/
def fnShortestRecSpec : ChangeSpec := { name := "fnShortestRec", fn := fun _ => fun
  | [d] => { results := [.lit (.bool true)], args := [d] }
  | _ => none }
def fnShortestRecRow : OpenClaim := { program := "ytdecaokngedghaa", sum := "8e336f7d19b84669361358ca1f21f93468d7baf2b1897b58b17df74c40c1c995", func := "loop.example/rationalstreams/laws.FnShortestRec", spec := "fnShortestRec", unfollowed := true, recurses := true, apart := false }
def FnShortestRecSaid : Prop := fnShortestRecRow.holds Try.pinned (OpenSpec.ofChange fnShortestRecSpec)

/-- ITS FALSE NEIGHBOUR: 'it returns false'. Refute it at one input. -/
def fnShortestRecWrong : ChangeSpec := { name := "fnShortestRec", fn := fun _ => fun
  | [d] => { results := [.lit (.bool false)], args := [d] }
  | _ => none }
def FnShortestRecWrongFalsely : Prop := fnShortestRecRow.holds Try.pinned (OpenSpec.ofChange fnShortestRecWrong)

/-- 'laws.FnOrdersOf': WHATEVER THE INPUT: true; the input reads as it did. -/
def fnOrdersOfSpec : ChangeSpec := { name := "fnOrdersOf", fn := fun _ => fun
  | [d] => { results := [.lit (.bool true)], args := [d] }
  | _ => none }
def fnOrdersOfRow : OpenClaim := { program := "ytdecaokngedghaa", sum := "8e336f7d19b84669361358ca1f21f93468d7baf2b1897b58b17df74c40c1c995", func := "loop.example/rationalstreams/laws.FnOrdersOf", spec := "fnOrdersOf", unfollowed := true, recurses := true, apart := false }
def FnOrdersOfSaid : Prop := fnOrdersOfRow.holds Try.pinned (OpenSpec.ofChange fnOrdersOfSpec)

/-- ITS FALSE NEIGHBOUR: 'it returns false'. Refute it at one input. -/
def fnOrdersOfWrong : ChangeSpec := { name := "fnOrdersOf", fn := fun _ => fun
  | [d] => { results := [.lit (.bool false)], args := [d] }
  | _ => none }
def FnOrdersOfWrongFalsely : Prop := fnOrdersOfRow.holds Try.pinned (OpenSpec.ofChange fnOrdersOfWrong)

/-- 'laws.FnGuessOf': WHATEVER THE INPUT: true; the input reads as it did. -/
def fnGuessOfSpec : ChangeSpec := { name := "fnGuessOf", fn := fun _ => fun
  | [d1, d2] => { results := [.lit (.bool true)], args := [d1, d2] }
  | _ => none }
def fnGuessOfRow : OpenClaim := { program := "ytdecaokngedghaa", sum := "8e336f7d19b84669361358ca1f21f93468d7baf2b1897b58b17df74c40c1c995", func := "loop.example/rationalstreams/laws.FnGuessOf", spec := "fnGuessOf", unfollowed := true, recurses := true, apart := false }
def FnGuessOfSaid : Prop := fnGuessOfRow.holds Try.pinned (OpenSpec.ofChange fnGuessOfSpec)

/-- ITS FALSE NEIGHBOUR: 'it returns false'. Refute it at one input. -/
def fnGuessOfWrong : ChangeSpec := { name := "fnGuessOf", fn := fun _ => fun
  | [d1, d2] => { results := [.lit (.bool false)], args := [d1, d2] }
  | _ => none }
def FnGuessOfWrongFalsely : Prop := fnGuessOfRow.holds Try.pinned (OpenSpec.ofChange fnGuessOfWrong)

/-- 'laws.FnTableDets': WHATEVER THE INPUT: true; the input reads as it did. -/
def fnTableDetsSpec : ChangeSpec := { name := "fnTableDets", fn := fun _ => fun
  | [d] => { results := [.lit (.bool true)], args := [d] }
  | _ => none }
def fnTableDetsRow : OpenClaim := { program := "ytdecaokngedghaa", sum := "8e336f7d19b84669361358ca1f21f93468d7baf2b1897b58b17df74c40c1c995", func := "loop.example/rationalstreams/laws.FnTableDets", spec := "fnTableDets", unfollowed := true, recurses := true, apart := false }
def FnTableDetsSaid : Prop := fnTableDetsRow.holds Try.pinned (OpenSpec.ofChange fnTableDetsSpec)

/-- ITS FALSE NEIGHBOUR: 'it returns false'. Refute it at one input. -/
def fnTableDetsWrong : ChangeSpec := { name := "fnTableDets", fn := fun _ => fun
  | [d] => { results := [.lit (.bool false)], args := [d] }
  | _ => none }
def FnTableDetsWrongFalsely : Prop := fnTableDetsRow.holds Try.pinned (OpenSpec.ofChange fnTableDetsWrong)

/- THE SECOND FORM. 'bulk': how many values and letters a reading holds, each counted each time it is reached (what is shared counts as often as it is met; a slice's spare places count too). A statement '..UptoSaid' is the law's where the arguments, and the package variables that the reading takes, are together of bulk at most 1048576: NARROWER than '..Said'. Prove '..Said' where nothing that the law and all that it calls make is longer than what came in: it says more and counts as full. Else prove '..UptoSaid'. A law counts once. -/
mutual
def uptoBulk {H : Type} : DataW H → Nat
  | .lit (.string bytes) => bytes.length + 1
  | .lit _ => 1
  | .nil => 1
  | .ptr d => uptoBulk d + 1
  | .slice elems spare => uptoBulkAll elems + uptoBulkAll spare + 1
  | .agg parts => uptoBulkAll parts + 1
  | .iface _ d => uptoBulk d + 1
  | .map entries => uptoBulkEntries entries + 1
  | .held _ => 1
def uptoBulkAll {H : Type} : List (DataW H) → Nat
  | [] => 0
  | d :: r => uptoBulk d + uptoBulkAll r
def uptoBulkEntries {H : Type} : List (Lit × DataW H) → Nat
  | [] => 0
  | x :: r => uptoBulkEntry x + uptoBulkEntries r
def uptoBulkEntry {H : Type} : Lit × DataW H → Nat
  | (.string bytes, d) => bytes.length + uptoBulk d + 1
  | (_, d) => uptoBulk d + 1
 end
def uptoSmall : (H : Type) → List (DataW H) → Bool := fun _ ds => decide (uptoBulkAll ds ≤ 1048576)
def OpenSpec.upto (s : _root_.Go.ChangeSpec) : _root_.Go.OpenSpec := { _root_.Go.OpenSpec.ofChange s with cond := some uptoSmall }

/-- 'laws.FnShortestRec', WHERE WHAT IT READS IS OF BULK AT MOST 1048576: true; the input reads as it did. -/
def fnShortestRecUptoRow : OpenClaim := { program := "ytdecaokngedghaa", sum := "8e336f7d19b84669361358ca1f21f93468d7baf2b1897b58b17df74c40c1c995", func := "loop.example/rationalstreams/laws.FnShortestRec", spec := "fnShortestRec", unfollowed := true, recurses := true, apart := false, narrowed := true }
def FnShortestRecUptoSaid : Prop := fnShortestRecUptoRow.holds Try.pinned (OpenSpec.upto fnShortestRecSpec)

/-- 'laws.FnOrdersOf', WHERE WHAT IT READS IS OF BULK AT MOST 1048576: true; the input reads as it did. -/
def fnOrdersOfUptoRow : OpenClaim := { program := "ytdecaokngedghaa", sum := "8e336f7d19b84669361358ca1f21f93468d7baf2b1897b58b17df74c40c1c995", func := "loop.example/rationalstreams/laws.FnOrdersOf", spec := "fnOrdersOf", unfollowed := true, recurses := true, apart := false, narrowed := true }
def FnOrdersOfUptoSaid : Prop := fnOrdersOfUptoRow.holds Try.pinned (OpenSpec.upto fnOrdersOfSpec)

/-- 'laws.FnGuessOf', WHERE WHAT IT READS IS OF BULK AT MOST 1048576: true; the input reads as it did. -/
def fnGuessOfUptoRow : OpenClaim := { program := "ytdecaokngedghaa", sum := "8e336f7d19b84669361358ca1f21f93468d7baf2b1897b58b17df74c40c1c995", func := "loop.example/rationalstreams/laws.FnGuessOf", spec := "fnGuessOf", unfollowed := true, recurses := true, apart := false, narrowed := true }
def FnGuessOfUptoSaid : Prop := fnGuessOfUptoRow.holds Try.pinned (OpenSpec.upto fnGuessOfSpec)

/-- 'laws.FnTableDets', WHERE WHAT IT READS IS OF BULK AT MOST 1048576: true; the input reads as it did. -/
def fnTableDetsUptoRow : OpenClaim := { program := "ytdecaokngedghaa", sum := "8e336f7d19b84669361358ca1f21f93468d7baf2b1897b58b17df74c40c1c995", func := "loop.example/rationalstreams/laws.FnTableDets", spec := "fnTableDets", unfollowed := true, recurses := true, apart := false, narrowed := true }
def FnTableDetsUptoSaid : Prop := fnTableDetsUptoRow.holds Try.pinned (OpenSpec.upto fnTableDetsSpec)

end Rows
end Go.Proofs.Ytdecaokngedghaa

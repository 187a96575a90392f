/-
  No cell of these rows narrows 'for every input' (looked for: loops, veiled, ifaces, maps, wideKeys, modest, calm, conditions, laid).
  DERIVED. THE GIVEN ROWS OF THIS SEAT. 8 by the template 'for every input the law returns true; each argument reads behind the call as it read before'; 0 by the template 'total and deterministic' (their statements: YtllakclbgmingaaTotals.lean).
  GIVEN WITH THE SEED: the statements are not yours to turn. If you find one false, say at which input.
  Laid BY PROGRAM, IN A SANDBOX (cutbox-rows.mjs): the forced cells as the released guide's own fill.sh prints them over the translation a6fcb76988ac07ad… (all of the seat's roots in one cut). By AI agents, Wed Nov 11 2026. No macro, syntax, notation, axiom, sorry.
-/
import Derived.Test.YtllakclbgmingaaChecked
import GoSem.Claim
import GoSem.ClaimJoined
import GoSem.ClaimMapViews
import Derived.JoinedTies
import Derived.KernelRfl
namespace Go.Proofs.Ytllakclbgmingaa
/- THE CELL 'sum', in the pinned program and in every row, IS THE sha256 OF THE DUMP (.gsa) THAT YtllakclbgmingaaProg.lean LOADS. Nothing in Lean hashes anything: it is a label: what it is worth is what the hold of that sum in a sandbox is worth. -/
noncomputable def Try.pinned : Pinned := { name := "ytllakclbgmingaa", sum := "a6fcb76988ac07ad54663dd8a5f2604de274784b352bdc06c9b0adb1d6767c18", checked := Try.checked }
namespace Rows
def none {H : Type} : Left H := { results := [], args := [] }

/-- 'laws.FnRecValid': WHATEVER THE INPUT: true; the input reads as it did. -/
def fnRecValidSpec : ChangeSpec := { name := "fnRecValid", fn := fun _ => fun
  | [d] => { results := [.lit (.bool true)], args := [d] }
  | _ => none }
def fnRecValidRow : OpenClaim := { program := "ytllakclbgmingaa", sum := "a6fcb76988ac07ad54663dd8a5f2604de274784b352bdc06c9b0adb1d6767c18", func := "loop.example/rationalstreams/laws.FnRecValid", spec := "fnRecValid", apart := false }
def FnRecValidSaid : Prop := fnRecValidRow.holds Try.pinned (OpenSpec.ofChange fnRecValidSpec)

/-- ITS FALSE NEIGHBOUR: 'it returns false'. Refute it at one input. -/
def fnRecValidWrong : ChangeSpec := { name := "fnRecValid", fn := fun _ => fun
  | [d] => { results := [.lit (.bool false)], args := [d] }
  | _ => none }
def FnRecValidWrongFalsely : Prop := fnRecValidRow.holds Try.pinned (OpenSpec.ofChange fnRecValidWrong)

/-- 'laws.FnExactRecValid': WHATEVER THE INPUT: true; the input reads as it did. -/
def fnExactRecValidSpec : ChangeSpec := { name := "fnExactRecValid", fn := fun _ => fun
  | [d] => { results := [.lit (.bool true)], args := [d] }
  | _ => none }
def fnExactRecValidRow : OpenClaim := { program := "ytllakclbgmingaa", sum := "a6fcb76988ac07ad54663dd8a5f2604de274784b352bdc06c9b0adb1d6767c18", func := "loop.example/rationalstreams/laws.FnExactRecValid", spec := "fnExactRecValid", apart := false }
def FnExactRecValidSaid : Prop := fnExactRecValidRow.holds Try.pinned (OpenSpec.ofChange fnExactRecValidSpec)

/-- ITS FALSE NEIGHBOUR: 'it returns false'. Refute it at one input. -/
def fnExactRecValidWrong : ChangeSpec := { name := "fnExactRecValid", fn := fun _ => fun
  | [d] => { results := [.lit (.bool false)], args := [d] }
  | _ => none }
def FnExactRecValidWrongFalsely : Prop := fnExactRecValidRow.holds Try.pinned (OpenSpec.ofChange fnExactRecValidWrong)

/-- 'laws.FnRecNext': WHATEVER THE INPUT: true; the input reads as it did. -/
def fnRecNextSpec : ChangeSpec := { name := "fnRecNext", fn := fun _ => fun
  | [d] => { results := [.lit (.bool true)], args := [d] }
  | _ => none }
def fnRecNextRow : OpenClaim := { program := "ytllakclbgmingaa", sum := "a6fcb76988ac07ad54663dd8a5f2604de274784b352bdc06c9b0adb1d6767c18", func := "loop.example/rationalstreams/laws.FnRecNext", spec := "fnRecNext", unfollowed := true, recurses := true, apart := false }
def FnRecNextSaid : Prop := fnRecNextRow.holds Try.pinned (OpenSpec.ofChange fnRecNextSpec)

/-- ITS FALSE NEIGHBOUR: 'it returns false'. Refute it at one input. -/
def fnRecNextWrong : ChangeSpec := { name := "fnRecNext", fn := fun _ => fun
  | [d] => { results := [.lit (.bool false)], args := [d] }
  | _ => none }
def FnRecNextWrongFalsely : Prop := fnRecNextRow.holds Try.pinned (OpenSpec.ofChange fnRecNextWrong)

/-- 'laws.FnExactRecNext': WHATEVER THE INPUT: true; the input reads as it did. -/
def fnExactRecNextSpec : ChangeSpec := { name := "fnExactRecNext", fn := fun _ => fun
  | [d] => { results := [.lit (.bool true)], args := [d] }
  | _ => none }
def fnExactRecNextRow : OpenClaim := { program := "ytllakclbgmingaa", sum := "a6fcb76988ac07ad54663dd8a5f2604de274784b352bdc06c9b0adb1d6767c18", func := "loop.example/rationalstreams/laws.FnExactRecNext", spec := "fnExactRecNext", unfollowed := true, recurses := true, apart := false }
def FnExactRecNextSaid : Prop := fnExactRecNextRow.holds Try.pinned (OpenSpec.ofChange fnExactRecNextSpec)

/-- ITS FALSE NEIGHBOUR: 'it returns false'. Refute it at one input. -/
def fnExactRecNextWrong : ChangeSpec := { name := "fnExactRecNext", fn := fun _ => fun
  | [d] => { results := [.lit (.bool false)], args := [d] }
  | _ => none }
def FnExactRecNextWrongFalsely : Prop := fnExactRecNextRow.holds Try.pinned (OpenSpec.ofChange fnExactRecNextWrong)

/-- 'laws.FnRecFar': WHATEVER THE INPUT: true; the input reads as it did. -/
def fnRecFarSpec : ChangeSpec := { name := "fnRecFar", fn := fun _ => fun
  | [d] => { results := [.lit (.bool true)], args := [d] }
  | _ => none }
def fnRecFarRow : OpenClaim := { program := "ytllakclbgmingaa", sum := "a6fcb76988ac07ad54663dd8a5f2604de274784b352bdc06c9b0adb1d6767c18", func := "loop.example/rationalstreams/laws.FnRecFar", spec := "fnRecFar", unfollowed := true, recurses := true, apart := false }
def FnRecFarSaid : Prop := fnRecFarRow.holds Try.pinned (OpenSpec.ofChange fnRecFarSpec)

/-- ITS FALSE NEIGHBOUR: 'it returns false'. Refute it at one input. -/
def fnRecFarWrong : ChangeSpec := { name := "fnRecFar", fn := fun _ => fun
  | [d] => { results := [.lit (.bool false)], args := [d] }
  | _ => none }
def FnRecFarWrongFalsely : Prop := fnRecFarRow.holds Try.pinned (OpenSpec.ofChange fnRecFarWrong)

/-- 'laws.FnExactRecFar': WHATEVER THE INPUT: true; the input reads as it did. -/
def fnExactRecFarSpec : ChangeSpec := { name := "fnExactRecFar", fn := fun _ => fun
  | [d1, d2] => { results := [.lit (.bool true)], args := [d1, d2] }
  | _ => none }
def fnExactRecFarRow : OpenClaim := { program := "ytllakclbgmingaa", sum := "a6fcb76988ac07ad54663dd8a5f2604de274784b352bdc06c9b0adb1d6767c18", func := "loop.example/rationalstreams/laws.FnExactRecFar", spec := "fnExactRecFar", unfollowed := true, recurses := true, apart := false }
def FnExactRecFarSaid : Prop := fnExactRecFarRow.holds Try.pinned (OpenSpec.ofChange fnExactRecFarSpec)

/-- ITS FALSE NEIGHBOUR: 'it returns false'. Refute it at one input. -/
def fnExactRecFarWrong : ChangeSpec := { name := "fnExactRecFar", fn := fun _ => fun
  | [d1, d2] => { results := [.lit (.bool false)], args := [d1, d2] }
  | _ => none }
def FnExactRecFarWrongFalsely : Prop := fnExactRecFarRow.holds Try.pinned (OpenSpec.ofChange fnExactRecFarWrong)

/-- 'laws.FnRecSame': WHATEVER THE INPUT: true; the input reads as it did. -/
def fnRecSameSpec : ChangeSpec := { name := "fnRecSame", fn := fun _ => fun
  | [d1, d2] => { results := [.lit (.bool true)], args := [d1, d2] }
  | _ => none }
def fnRecSameRow : OpenClaim := { program := "ytllakclbgmingaa", sum := "a6fcb76988ac07ad54663dd8a5f2604de274784b352bdc06c9b0adb1d6767c18", func := "loop.example/rationalstreams/laws.FnRecSame", spec := "fnRecSame", unfollowed := true, recurses := true, apart := false }
def FnRecSameSaid : Prop := fnRecSameRow.holds Try.pinned (OpenSpec.ofChange fnRecSameSpec)

/-- ITS FALSE NEIGHBOUR: 'it returns false'. Refute it at one input. -/
def fnRecSameWrong : ChangeSpec := { name := "fnRecSame", fn := fun _ => fun
  | [d1, d2] => { results := [.lit (.bool false)], args := [d1, d2] }
  | _ => none }
def FnRecSameWrongFalsely : Prop := fnRecSameRow.holds Try.pinned (OpenSpec.ofChange fnRecSameWrong)

/-- 'laws.FnExactRecSame': WHATEVER THE INPUT: true; the input reads as it did. -/
def fnExactRecSameSpec : ChangeSpec := { name := "fnExactRecSame", fn := fun _ => fun
  | [d1, d2] => { results := [.lit (.bool true)], args := [d1, d2] }
  | _ => none }
def fnExactRecSameRow : OpenClaim := { program := "ytllakclbgmingaa", sum := "a6fcb76988ac07ad54663dd8a5f2604de274784b352bdc06c9b0adb1d6767c18", func := "loop.example/rationalstreams/laws.FnExactRecSame", spec := "fnExactRecSame", unfollowed := true, recurses := true, apart := false }
def FnExactRecSameSaid : Prop := fnExactRecSameRow.holds Try.pinned (OpenSpec.ofChange fnExactRecSameSpec)

/-- ITS FALSE NEIGHBOUR: 'it returns false'. Refute it at one input. -/
def fnExactRecSameWrong : ChangeSpec := { name := "fnExactRecSame", fn := fun _ => fun
  | [d1, d2] => { results := [.lit (.bool false)], args := [d1, d2] }
  | _ => none }
def FnExactRecSameWrongFalsely : Prop := fnExactRecSameRow.holds Try.pinned (OpenSpec.ofChange fnExactRecSameWrong)

/- THE SECOND FORM. 'bulk': how many values and letters a reading holds, each counted each time it is reached (what is shared counts as often as it is met; a slice's spare places count too). A statement '..UptoSaid' is the law's where the arguments, and the package variables that the reading takes, are together of bulk at most 1048576: NARROWER than '..Said'. Prove '..Said' where nothing that the law and all that it calls make is longer than what came in: it says more and counts as full. Else prove '..UptoSaid'. A law counts once. -/
mutual
def uptoBulk {H : Type} : DataW H → Nat
  | .lit (.string bytes) => bytes.length + 1
  | .lit _ => 1
  | .nil => 1
  | .ptr d => uptoBulk d + 1
  | .slice elems spare => uptoBulkAll elems + uptoBulkAll spare + 1
  | .agg parts => uptoBulkAll parts + 1
  | .iface _ d => uptoBulk d + 1
  | .map entries => uptoBulkEntries entries + 1
  | .held _ => 1
def uptoBulkAll {H : Type} : List (DataW H) → Nat
  | [] => 0
  | d :: r => uptoBulk d + uptoBulkAll r
def uptoBulkEntries {H : Type} : List (Lit × DataW H) → Nat
  | [] => 0
  | x :: r => uptoBulkEntry x + uptoBulkEntries r
def uptoBulkEntry {H : Type} : Lit × DataW H → Nat
  | (.string bytes, d) => bytes.length + uptoBulk d + 1
  | (_, d) => uptoBulk d + 1
 end
def uptoSmall : (H : Type) → List (DataW H) → Bool := fun _ ds => decide (uptoBulkAll ds ≤ 1048576)
def OpenSpec.upto (s : _root_.Go.ChangeSpec) : _root_.Go.OpenSpec := { _root_.Go.OpenSpec.ofChange s with cond := some uptoSmall }

/-- 'laws.FnRecValid', WHERE WHAT IT READS IS OF BULK AT MOST 1048576: true; the input reads as it did. -/
def fnRecValidUptoRow : OpenClaim := { program := "ytllakclbgmingaa", sum := "a6fcb76988ac07ad54663dd8a5f2604de274784b352bdc06c9b0adb1d6767c18", func := "loop.example/rationalstreams/laws.FnRecValid", spec := "fnRecValid", apart := false, narrowed := true }
def FnRecValidUptoSaid : Prop := fnRecValidUptoRow.holds Try.pinned (OpenSpec.upto fnRecValidSpec)

/-- 'laws.FnExactRecValid', WHERE WHAT IT READS IS OF BULK AT MOST 1048576: true; the input reads as it did. -/
def fnExactRecValidUptoRow : OpenClaim := { program := "ytllakclbgmingaa", sum := "a6fcb76988ac07ad54663dd8a5f2604de274784b352bdc06c9b0adb1d6767c18", func := "loop.example/rationalstreams/laws.FnExactRecValid", spec := "fnExactRecValid", apart := false, narrowed := true }
def FnExactRecValidUptoSaid : Prop := fnExactRecValidUptoRow.holds Try.pinned (OpenSpec.upto fnExactRecValidSpec)

/-- 'laws.FnRecNext', WHERE WHAT IT READS IS OF BULK AT MOST 1048576: true; the input reads as it did. -/
def fnRecNextUptoRow : OpenClaim := { program := "ytllakclbgmingaa", sum := "a6fcb76988ac07ad54663dd8a5f2604de274784b352bdc06c9b0adb1d6767c18", func := "loop.example/rationalstreams/laws.FnRecNext", spec := "fnRecNext", unfollowed := true, recurses := true, apart := false, narrowed := true }
def FnRecNextUptoSaid : Prop := fnRecNextUptoRow.holds Try.pinned (OpenSpec.upto fnRecNextSpec)

/-- 'laws.FnExactRecNext', WHERE WHAT IT READS IS OF BULK AT MOST 1048576: true; the input reads as it did. -/
def fnExactRecNextUptoRow : OpenClaim := { program := "ytllakclbgmingaa", sum := "a6fcb76988ac07ad54663dd8a5f2604de274784b352bdc06c9b0adb1d6767c18", func := "loop.example/rationalstreams/laws.FnExactRecNext", spec := "fnExactRecNext", unfollowed := true, recurses := true, apart := false, narrowed := true }
def FnExactRecNextUptoSaid : Prop := fnExactRecNextUptoRow.holds Try.pinned (OpenSpec.upto fnExactRecNextSpec)

/-- 'laws.FnRecFar', WHERE WHAT IT READS IS OF BULK AT MOST 1048576: true; the input reads as it did. -/
def fnRecFarUptoRow : OpenClaim := { program := "ytllakclbgmingaa", sum := "a6fcb76988ac07ad54663dd8a5f2604de274784b352bdc06c9b0adb1d6767c18", func := "loop.example/rationalstreams/laws.FnRecFar", spec := "fnRecFar", unfollowed := true, recurses := true, apart := false, narrowed := true }
def FnRecFarUptoSaid : Prop := fnRecFarUptoRow.holds Try.pinned (OpenSpec.upto fnRecFarSpec)

/-- 'laws.FnExactRecFar', WHERE WHAT IT READS IS OF BULK AT MOST 1048576: true; the input reads as it did. -/
def fnExactRecFarUptoRow : OpenClaim := { program := "ytllakclbgmingaa", sum := "a6fcb76988ac07ad54663dd8a5f2604de274784b352bdc06c9b0adb1d6767c18", func := "loop.example/rationalstreams/laws.FnExactRecFar", spec := "fnExactRecFar", unfollowed := true, recurses := true, apart := false, narrowed := true }
def FnExactRecFarUptoSaid : Prop := fnExactRecFarUptoRow.holds Try.pinned (OpenSpec.upto fnExactRecFarSpec)

/-- 'laws.FnRecSame', WHERE WHAT IT READS IS OF BULK AT MOST 1048576: true; the input reads as it did. -/
def fnRecSameUptoRow : OpenClaim := { program := "ytllakclbgmingaa", sum := "a6fcb76988ac07ad54663dd8a5f2604de274784b352bdc06c9b0adb1d6767c18", func := "loop.example/rationalstreams/laws.FnRecSame", spec := "fnRecSame", unfollowed := true, recurses := true, apart := false, narrowed := true }
def FnRecSameUptoSaid : Prop := fnRecSameUptoRow.holds Try.pinned (OpenSpec.upto fnRecSameSpec)

/-- 'laws.FnExactRecSame', WHERE WHAT IT READS IS OF BULK AT MOST 1048576: true; the input reads as it did. -/
def fnExactRecSameUptoRow : OpenClaim := { program := "ytllakclbgmingaa", sum := "a6fcb76988ac07ad54663dd8a5f2604de274784b352bdc06c9b0adb1d6767c18", func := "loop.example/rationalstreams/laws.FnExactRecSame", spec := "fnExactRecSame", unfollowed := true, recurses := true, apart := false, narrowed := true }
def FnExactRecSameUptoSaid : Prop := fnExactRecSameUptoRow.holds Try.pinned (OpenSpec.upto fnExactRecSameSpec)

end Rows
end Go.Proofs.Ytllakclbgmingaa

/-
  No cell of these rows narrows 'for every input' (looked for: loops, veiled, ifaces, maps, wideKeys, modest, calm, conditions, laid).
  DERIVED. THE GIVEN ROWS OF THIS SEAT. 12 by the template 'for every input the law returns true; each argument reads behind the call as it read before'; 0 by the template 'total and deterministic' (their statements: YtegkmolffemkpaaTotals.lean).
  GIVEN WITH THE SEED: the statements are not yours to turn. If you find one false, say at which input.
  Laid BY PROGRAM, IN A SANDBOX (cutbox-rows.mjs): the forced cells as the released guide's own fill.sh prints them over the translation 4f6268c0cc051710… (all of the seat's roots in one cut). By AI agents, Wed Nov 11 2026. No macro, syntax, notation, axiom, sorry.
-/
import Derived.Test.YtegkmolffemkpaaChecked
import GoSem.Claim
import GoSem.ClaimJoined
import GoSem.ClaimMapViews
import Derived.JoinedTies
import Derived.KernelRfl
namespace Go.Proofs.Ytegkmolffemkpaa
/- THE CELL 'sum', in the pinned program and in every row, IS THE sha256 OF THE DUMP (.gsa) THAT YtegkmolffemkpaaProg.lean LOADS. Nothing in Lean hashes anything: it is a label: what it is worth is what the hold of that sum in a sandbox is worth. -/
noncomputable def Try.pinned : Pinned := { name := "ytegkmolffemkpaa", sum := "4f6268c0cc05171012476e6af93d07429ddc200725881c41ffaea877b49c8e5c", checked := Try.checked }
namespace Rows
def none {H : Type} : Left H := { results := [], args := [] }

/-- 'laws.FnWaValid': WHATEVER THE INPUT: true; the input reads as it did. -/
def fnWaValidSpec : ChangeSpec := { name := "fnWaValid", fn := fun _ => fun
  | [d] => { results := [.lit (.bool true)], args := [d] }
  | _ => none }
def fnWaValidRow : OpenClaim := { program := "ytegkmolffemkpaa", sum := "4f6268c0cc05171012476e6af93d07429ddc200725881c41ffaea877b49c8e5c", func := "loop.example/rationalstreams/laws.FnWaValid", spec := "fnWaValid", apart := false }
def FnWaValidSaid : Prop := fnWaValidRow.holds Try.pinned (OpenSpec.ofChange fnWaValidSpec)

/-- ITS FALSE NEIGHBOUR: 'it returns false'. Refute it at one input. -/
def fnWaValidWrong : ChangeSpec := { name := "fnWaValid", fn := fun _ => fun
  | [d] => { results := [.lit (.bool false)], args := [d] }
  | _ => none }
def FnWaValidWrongFalsely : Prop := fnWaValidRow.holds Try.pinned (OpenSpec.ofChange fnWaValidWrong)

/-- 'laws.FnExactWaValid': WHATEVER THE INPUT: true; the input reads as it did. -/
def fnExactWaValidSpec : ChangeSpec := { name := "fnExactWaValid", fn := fun _ => fun
  | [d] => { results := [.lit (.bool true)], args := [d] }
  | _ => none }
def fnExactWaValidRow : OpenClaim := { program := "ytegkmolffemkpaa", sum := "4f6268c0cc05171012476e6af93d07429ddc200725881c41ffaea877b49c8e5c", func := "loop.example/rationalstreams/laws.FnExactWaValid", spec := "fnExactWaValid", apart := false }
def FnExactWaValidSaid : Prop := fnExactWaValidRow.holds Try.pinned (OpenSpec.ofChange fnExactWaValidSpec)

/-- ITS FALSE NEIGHBOUR: 'it returns false'. Refute it at one input. -/
def fnExactWaValidWrong : ChangeSpec := { name := "fnExactWaValid", fn := fun _ => fun
  | [d] => { results := [.lit (.bool false)], args := [d] }
  | _ => none }
def FnExactWaValidWrongFalsely : Prop := fnExactWaValidRow.holds Try.pinned (OpenSpec.ofChange fnExactWaValidWrong)

/-- 'laws.FnWordOk': WHATEVER THE INPUT: true; the input reads as it did. -/
def fnWordOkSpec : ChangeSpec := { name := "fnWordOk", fn := fun _ => fun
  | [d] => { results := [.lit (.bool true)], args := [d] }
  | _ => none }
def fnWordOkRow : OpenClaim := { program := "ytegkmolffemkpaa", sum := "4f6268c0cc05171012476e6af93d07429ddc200725881c41ffaea877b49c8e5c", func := "loop.example/rationalstreams/laws.FnWordOk", spec := "fnWordOk", apart := false }
def FnWordOkSaid : Prop := fnWordOkRow.holds Try.pinned (OpenSpec.ofChange fnWordOkSpec)

/-- ITS FALSE NEIGHBOUR: 'it returns false'. Refute it at one input. -/
def fnWordOkWrong : ChangeSpec := { name := "fnWordOk", fn := fun _ => fun
  | [d] => { results := [.lit (.bool false)], args := [d] }
  | _ => none }
def FnWordOkWrongFalsely : Prop := fnWordOkRow.holds Try.pinned (OpenSpec.ofChange fnWordOkWrong)

/-- 'laws.FnExactWordOk': WHATEVER THE INPUT: true; the input reads as it did. -/
def fnExactWordOkSpec : ChangeSpec := { name := "fnExactWordOk", fn := fun _ => fun
  | [d] => { results := [.lit (.bool true)], args := [d] }
  | _ => none }
def fnExactWordOkRow : OpenClaim := { program := "ytegkmolffemkpaa", sum := "4f6268c0cc05171012476e6af93d07429ddc200725881c41ffaea877b49c8e5c", func := "loop.example/rationalstreams/laws.FnExactWordOk", spec := "fnExactWordOk", apart := false }
def FnExactWordOkSaid : Prop := fnExactWordOkRow.holds Try.pinned (OpenSpec.ofChange fnExactWordOkSpec)

/-- ITS FALSE NEIGHBOUR: 'it returns false'. Refute it at one input. -/
def fnExactWordOkWrong : ChangeSpec := { name := "fnExactWordOk", fn := fun _ => fun
  | [d] => { results := [.lit (.bool false)], args := [d] }
  | _ => none }
def FnExactWordOkWrongFalsely : Prop := fnExactWordOkRow.holds Try.pinned (OpenSpec.ofChange fnExactWordOkWrong)

/-- 'laws.FnWeightOf': WHATEVER THE INPUT: true; the input reads as it did. -/
def fnWeightOfSpec : ChangeSpec := { name := "fnWeightOf", fn := fun _ => fun
  | [d] => { results := [.lit (.bool true)], args := [d] }
  | _ => none }
def fnWeightOfRow : OpenClaim := { program := "ytegkmolffemkpaa", sum := "4f6268c0cc05171012476e6af93d07429ddc200725881c41ffaea877b49c8e5c", func := "loop.example/rationalstreams/laws.FnWeightOf", spec := "fnWeightOf", apart := false }
def FnWeightOfSaid : Prop := fnWeightOfRow.holds Try.pinned (OpenSpec.ofChange fnWeightOfSpec)

/-- ITS FALSE NEIGHBOUR: 'it returns false'. Refute it at one input. -/
def fnWeightOfWrong : ChangeSpec := { name := "fnWeightOf", fn := fun _ => fun
  | [d] => { results := [.lit (.bool false)], args := [d] }
  | _ => none }
def FnWeightOfWrongFalsely : Prop := fnWeightOfRow.holds Try.pinned (OpenSpec.ofChange fnWeightOfWrong)

/-- 'laws.FnExactWeightOf': WHATEVER THE INPUT: true; the input reads as it did. -/
def fnExactWeightOfSpec : ChangeSpec := { name := "fnExactWeightOf", fn := fun _ => fun
  | [d1, d2] => { results := [.lit (.bool true)], args := [d1, d2] }
  | _ => none }
def fnExactWeightOfRow : OpenClaim := { program := "ytegkmolffemkpaa", sum := "4f6268c0cc05171012476e6af93d07429ddc200725881c41ffaea877b49c8e5c", func := "loop.example/rationalstreams/laws.FnExactWeightOf", spec := "fnExactWeightOf", apart := false }
def FnExactWeightOfSaid : Prop := fnExactWeightOfRow.holds Try.pinned (OpenSpec.ofChange fnExactWeightOfSpec)

/-- ITS FALSE NEIGHBOUR: 'it returns false'. Refute it at one input. -/
def fnExactWeightOfWrong : ChangeSpec := { name := "fnExactWeightOf", fn := fun _ => fun
  | [d1, d2] => { results := [.lit (.bool false)], args := [d1, d2] }
  | _ => none }
def FnExactWeightOfWrongFalsely : Prop := fnExactWeightOfRow.holds Try.pinned (OpenSpec.ofChange fnExactWeightOfWrong)

/-- 'laws.FnWaBack': WHATEVER THE INPUT: true; the input reads as it did. -/
def fnWaBackSpec : ChangeSpec := { name := "fnWaBack", fn := fun _ => fun
  | [d] => { results := [.lit (.bool true)], args := [d] }
  | _ => none }
def fnWaBackRow : OpenClaim := { program := "ytegkmolffemkpaa", sum := "4f6268c0cc05171012476e6af93d07429ddc200725881c41ffaea877b49c8e5c", func := "loop.example/rationalstreams/laws.FnWaBack", spec := "fnWaBack", apart := false }
def FnWaBackSaid : Prop := fnWaBackRow.holds Try.pinned (OpenSpec.ofChange fnWaBackSpec)

/-- ITS FALSE NEIGHBOUR: 'it returns false'. Refute it at one input. -/
def fnWaBackWrong : ChangeSpec := { name := "fnWaBack", fn := fun _ => fun
  | [d] => { results := [.lit (.bool false)], args := [d] }
  | _ => none }
def FnWaBackWrongFalsely : Prop := fnWaBackRow.holds Try.pinned (OpenSpec.ofChange fnWaBackWrong)

/-- 'laws.FnExactWaBack': WHATEVER THE INPUT: true; the input reads as it did. -/
def fnExactWaBackSpec : ChangeSpec := { name := "fnExactWaBack", fn := fun _ => fun
  | [d] => { results := [.lit (.bool true)], args := [d] }
  | _ => none }
def fnExactWaBackRow : OpenClaim := { program := "ytegkmolffemkpaa", sum := "4f6268c0cc05171012476e6af93d07429ddc200725881c41ffaea877b49c8e5c", func := "loop.example/rationalstreams/laws.FnExactWaBack", spec := "fnExactWaBack", apart := false }
def FnExactWaBackSaid : Prop := fnExactWaBackRow.holds Try.pinned (OpenSpec.ofChange fnExactWaBackSpec)

/-- ITS FALSE NEIGHBOUR: 'it returns false'. Refute it at one input. -/
def fnExactWaBackWrong : ChangeSpec := { name := "fnExactWaBack", fn := fun _ => fun
  | [d] => { results := [.lit (.bool false)], args := [d] }
  | _ => none }
def FnExactWaBackWrongFalsely : Prop := fnExactWaBackRow.holds Try.pinned (OpenSpec.ofChange fnExactWaBackWrong)

/-- 'laws.FnWaAdd': WHATEVER THE INPUT: true; the input reads as it did. -/
def fnWaAddSpec : ChangeSpec := { name := "fnWaAdd", fn := fun _ => fun
  | [d] => { results := [.lit (.bool true)], args := [d] }
  | _ => none }
def fnWaAddRow : OpenClaim := { program := "ytegkmolffemkpaa", sum := "4f6268c0cc05171012476e6af93d07429ddc200725881c41ffaea877b49c8e5c", func := "loop.example/rationalstreams/laws.FnWaAdd", spec := "fnWaAdd", apart := false }
def FnWaAddSaid : Prop := fnWaAddRow.holds Try.pinned (OpenSpec.ofChange fnWaAddSpec)

/-- ITS FALSE NEIGHBOUR: 'it returns false'. Refute it at one input. -/
def fnWaAddWrong : ChangeSpec := { name := "fnWaAdd", fn := fun _ => fun
  | [d] => { results := [.lit (.bool false)], args := [d] }
  | _ => none }
def FnWaAddWrongFalsely : Prop := fnWaAddRow.holds Try.pinned (OpenSpec.ofChange fnWaAddWrong)

/-- 'laws.FnExactWaAdd': WHATEVER THE INPUT: true; the input reads as it did. -/
def fnExactWaAddSpec : ChangeSpec := { name := "fnExactWaAdd", fn := fun _ => fun
  | [d1, d2] => { results := [.lit (.bool true)], args := [d1, d2] }
  | _ => none }
def fnExactWaAddRow : OpenClaim := { program := "ytegkmolffemkpaa", sum := "4f6268c0cc05171012476e6af93d07429ddc200725881c41ffaea877b49c8e5c", func := "loop.example/rationalstreams/laws.FnExactWaAdd", spec := "fnExactWaAdd", apart := false }
def FnExactWaAddSaid : Prop := fnExactWaAddRow.holds Try.pinned (OpenSpec.ofChange fnExactWaAddSpec)

/-- ITS FALSE NEIGHBOUR: 'it returns false'. Refute it at one input. -/
def fnExactWaAddWrong : ChangeSpec := { name := "fnExactWaAdd", fn := fun _ => fun
  | [d1, d2] => { results := [.lit (.bool false)], args := [d1, d2] }
  | _ => none }
def FnExactWaAddWrongFalsely : Prop := fnExactWaAddRow.holds Try.pinned (OpenSpec.ofChange fnExactWaAddWrong)

/-- 'laws.FnWaTimes': WHATEVER THE INPUT: true; the input reads as it did. -/
def fnWaTimesSpec : ChangeSpec := { name := "fnWaTimes", fn := fun _ => fun
  | [d] => { results := [.lit (.bool true)], args := [d] }
  | _ => none }
def fnWaTimesRow : OpenClaim := { program := "ytegkmolffemkpaa", sum := "4f6268c0cc05171012476e6af93d07429ddc200725881c41ffaea877b49c8e5c", func := "loop.example/rationalstreams/laws.FnWaTimes", spec := "fnWaTimes", apart := false }
def FnWaTimesSaid : Prop := fnWaTimesRow.holds Try.pinned (OpenSpec.ofChange fnWaTimesSpec)

/-- ITS FALSE NEIGHBOUR: 'it returns false'. Refute it at one input. -/
def fnWaTimesWrong : ChangeSpec := { name := "fnWaTimes", fn := fun _ => fun
  | [d] => { results := [.lit (.bool false)], args := [d] }
  | _ => none }
def FnWaTimesWrongFalsely : Prop := fnWaTimesRow.holds Try.pinned (OpenSpec.ofChange fnWaTimesWrong)

/-- 'laws.FnExactWaTimes': WHATEVER THE INPUT: true; the input reads as it did. -/
def fnExactWaTimesSpec : ChangeSpec := { name := "fnExactWaTimes", fn := fun _ => fun
  | [d1, d2] => { results := [.lit (.bool true)], args := [d1, d2] }
  | _ => none }
def fnExactWaTimesRow : OpenClaim := { program := "ytegkmolffemkpaa", sum := "4f6268c0cc05171012476e6af93d07429ddc200725881c41ffaea877b49c8e5c", func := "loop.example/rationalstreams/laws.FnExactWaTimes", spec := "fnExactWaTimes", apart := false }
def FnExactWaTimesSaid : Prop := fnExactWaTimesRow.holds Try.pinned (OpenSpec.ofChange fnExactWaTimesSpec)

/-- ITS FALSE NEIGHBOUR: 'it returns false'. Refute it at one input. -/
def fnExactWaTimesWrong : ChangeSpec := { name := "fnExactWaTimes", fn := fun _ => fun
  | [d1, d2] => { results := [.lit (.bool false)], args := [d1, d2] }
  | _ => none }
def FnExactWaTimesWrongFalsely : Prop := fnExactWaTimesRow.holds Try.pinned (OpenSpec.ofChange fnExactWaTimesWrong)

/- THE SECOND FORM. 'bulk': how many values and letters a reading holds, each counted each time it is reached (what is shared counts as often as it is met; a slice's spare places count too). A statement '..UptoSaid' is the law's where the arguments, and the package variables that the reading takes, are together of bulk at most 1048576: NARROWER than '..Said'. Prove '..Said' where nothing that the law and all that it calls make is longer than what came in: it says more and counts as full. Else prove '..UptoSaid'. A law counts once. -/
mutual
def uptoBulk {H : Type} : DataW H → Nat
  | .lit (.string bytes) => bytes.length + 1
  | .lit _ => 1
  | .nil => 1
  | .ptr d => uptoBulk d + 1
  | .slice elems spare => uptoBulkAll elems + uptoBulkAll spare + 1
  | .agg parts => uptoBulkAll parts + 1
  | .iface _ d => uptoBulk d + 1
  | .map entries => uptoBulkEntries entries + 1
  | .held _ => 1
def uptoBulkAll {H : Type} : List (DataW H) → Nat
  | [] => 0
  | d :: r => uptoBulk d + uptoBulkAll r
def uptoBulkEntries {H : Type} : List (Lit × DataW H) → Nat
  | [] => 0
  | x :: r => uptoBulkEntry x + uptoBulkEntries r
def uptoBulkEntry {H : Type} : Lit × DataW H → Nat
  | (.string bytes, d) => bytes.length + uptoBulk d + 1
  | (_, d) => uptoBulk d + 1
 end
def uptoSmall : (H : Type) → List (DataW H) → Bool := fun _ ds => decide (uptoBulkAll ds ≤ 1048576)
def OpenSpec.upto (s : _root_.Go.ChangeSpec) : _root_.Go.OpenSpec := { _root_.Go.OpenSpec.ofChange s with cond := some uptoSmall }

/-- 'laws.FnWaValid', WHERE WHAT IT READS IS OF BULK AT MOST 1048576: true; the input reads as it did. -/
def fnWaValidUptoRow : OpenClaim := { program := "ytegkmolffemkpaa", sum := "4f6268c0cc05171012476e6af93d07429ddc200725881c41ffaea877b49c8e5c", func := "loop.example/rationalstreams/laws.FnWaValid", spec := "fnWaValid", apart := false, narrowed := true }
def FnWaValidUptoSaid : Prop := fnWaValidUptoRow.holds Try.pinned (OpenSpec.upto fnWaValidSpec)

/-- 'laws.FnExactWaValid', WHERE WHAT IT READS IS OF BULK AT MOST 1048576: true; the input reads as it did. -/
def fnExactWaValidUptoRow : OpenClaim := { program := "ytegkmolffemkpaa", sum := "4f6268c0cc05171012476e6af93d07429ddc200725881c41ffaea877b49c8e5c", func := "loop.example/rationalstreams/laws.FnExactWaValid", spec := "fnExactWaValid", apart := false, narrowed := true }
def FnExactWaValidUptoSaid : Prop := fnExactWaValidUptoRow.holds Try.pinned (OpenSpec.upto fnExactWaValidSpec)

/-- 'laws.FnWordOk', WHERE WHAT IT READS IS OF BULK AT MOST 1048576: true; the input reads as it did. -/
def fnWordOkUptoRow : OpenClaim := { program := "ytegkmolffemkpaa", sum := "4f6268c0cc05171012476e6af93d07429ddc200725881c41ffaea877b49c8e5c", func := "loop.example/rationalstreams/laws.FnWordOk", spec := "fnWordOk", apart := false, narrowed := true }
def FnWordOkUptoSaid : Prop := fnWordOkUptoRow.holds Try.pinned (OpenSpec.upto fnWordOkSpec)

/-- 'laws.FnExactWordOk', WHERE WHAT IT READS IS OF BULK AT MOST 1048576: true; the input reads as it did. -/
def fnExactWordOkUptoRow : OpenClaim := { program := "ytegkmolffemkpaa", sum := "4f6268c0cc05171012476e6af93d07429ddc200725881c41ffaea877b49c8e5c", func := "loop.example/rationalstreams/laws.FnExactWordOk", spec := "fnExactWordOk", apart := false, narrowed := true }
def FnExactWordOkUptoSaid : Prop := fnExactWordOkUptoRow.holds Try.pinned (OpenSpec.upto fnExactWordOkSpec)

/-- 'laws.FnWeightOf', WHERE WHAT IT READS IS OF BULK AT MOST 1048576: true; the input reads as it did. -/
def fnWeightOfUptoRow : OpenClaim := { program := "ytegkmolffemkpaa", sum := "4f6268c0cc05171012476e6af93d07429ddc200725881c41ffaea877b49c8e5c", func := "loop.example/rationalstreams/laws.FnWeightOf", spec := "fnWeightOf", apart := false, narrowed := true }
def FnWeightOfUptoSaid : Prop := fnWeightOfUptoRow.holds Try.pinned (OpenSpec.upto fnWeightOfSpec)

/-- 'laws.FnExactWeightOf', WHERE WHAT IT READS IS OF BULK AT MOST 1048576: true; the input reads as it did. -/
def fnExactWeightOfUptoRow : OpenClaim := { program := "ytegkmolffemkpaa", sum := "4f6268c0cc05171012476e6af93d07429ddc200725881c41ffaea877b49c8e5c", func := "loop.example/rationalstreams/laws.FnExactWeightOf", spec := "fnExactWeightOf", apart := false, narrowed := true }
def FnExactWeightOfUptoSaid : Prop := fnExactWeightOfUptoRow.holds Try.pinned (OpenSpec.upto fnExactWeightOfSpec)

/-- 'laws.FnWaBack', WHERE WHAT IT READS IS OF BULK AT MOST 1048576: true; the input reads as it did. -/
def fnWaBackUptoRow : OpenClaim := { program := "ytegkmolffemkpaa", sum := "4f6268c0cc05171012476e6af93d07429ddc200725881c41ffaea877b49c8e5c", func := "loop.example/rationalstreams/laws.FnWaBack", spec := "fnWaBack", apart := false, narrowed := true }
def FnWaBackUptoSaid : Prop := fnWaBackUptoRow.holds Try.pinned (OpenSpec.upto fnWaBackSpec)

/-- 'laws.FnExactWaBack', WHERE WHAT IT READS IS OF BULK AT MOST 1048576: true; the input reads as it did. -/
def fnExactWaBackUptoRow : OpenClaim := { program := "ytegkmolffemkpaa", sum := "4f6268c0cc05171012476e6af93d07429ddc200725881c41ffaea877b49c8e5c", func := "loop.example/rationalstreams/laws.FnExactWaBack", spec := "fnExactWaBack", apart := false, narrowed := true }
def FnExactWaBackUptoSaid : Prop := fnExactWaBackUptoRow.holds Try.pinned (OpenSpec.upto fnExactWaBackSpec)

/-- 'laws.FnWaAdd', WHERE WHAT IT READS IS OF BULK AT MOST 1048576: true; the input reads as it did. -/
def fnWaAddUptoRow : OpenClaim := { program := "ytegkmolffemkpaa", sum := "4f6268c0cc05171012476e6af93d07429ddc200725881c41ffaea877b49c8e5c", func := "loop.example/rationalstreams/laws.FnWaAdd", spec := "fnWaAdd", apart := false, narrowed := true }
def FnWaAddUptoSaid : Prop := fnWaAddUptoRow.holds Try.pinned (OpenSpec.upto fnWaAddSpec)

/-- 'laws.FnExactWaAdd', WHERE WHAT IT READS IS OF BULK AT MOST 1048576: true; the input reads as it did. -/
def fnExactWaAddUptoRow : OpenClaim := { program := "ytegkmolffemkpaa", sum := "4f6268c0cc05171012476e6af93d07429ddc200725881c41ffaea877b49c8e5c", func := "loop.example/rationalstreams/laws.FnExactWaAdd", spec := "fnExactWaAdd", apart := false, narrowed := true }
def FnExactWaAddUptoSaid : Prop := fnExactWaAddUptoRow.holds Try.pinned (OpenSpec.upto fnExactWaAddSpec)

/-- 'laws.FnWaTimes', WHERE WHAT IT READS IS OF BULK AT MOST 1048576: true; the input reads as it did. -/
def fnWaTimesUptoRow : OpenClaim := { program := "ytegkmolffemkpaa", sum := "4f6268c0cc05171012476e6af93d07429ddc200725881c41ffaea877b49c8e5c", func := "loop.example/rationalstreams/laws.FnWaTimes", spec := "fnWaTimes", apart := false, narrowed := true }
def FnWaTimesUptoSaid : Prop := fnWaTimesUptoRow.holds Try.pinned (OpenSpec.upto fnWaTimesSpec)

/-- 'laws.FnExactWaTimes', WHERE WHAT IT READS IS OF BULK AT MOST 1048576: true; the input reads as it did. -/
def fnExactWaTimesUptoRow : OpenClaim := { program := "ytegkmolffemkpaa", sum := "4f6268c0cc05171012476e6af93d07429ddc200725881c41ffaea877b49c8e5c", func := "loop.example/rationalstreams/laws.FnExactWaTimes", spec := "fnExactWaTimes", apart := false, narrowed := true }
def FnExactWaTimesUptoSaid : Prop := fnExactWaTimesUptoRow.holds Try.pinned (OpenSpec.upto fnExactWaTimesSpec)

end Rows
end Go.Proofs.Ytegkmolffemkpaa

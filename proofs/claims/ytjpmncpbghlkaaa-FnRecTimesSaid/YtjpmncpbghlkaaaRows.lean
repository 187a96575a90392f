/-
  No cell of these rows narrows 'for every input' (looked for: loops, veiled, ifaces, maps, wideKeys, modest, calm, conditions, laid).
  DERIVED. THE GIVEN ROWS OF THIS SEAT. 12 by the template 'for every input the law returns true; each argument reads behind the call as it read before'; 0 by the template 'total and deterministic' (their statements: YtjpmncpbghlkaaaTotals.lean).
  GIVEN WITH THE SEED: the statements are not yours to turn. If you find one false, say at which input.
  Laid BY PROGRAM, IN A SANDBOX (cutbox-rows.mjs): the forced cells as the released guide's own fill.sh prints them over the translation 289cb7d5cf03cfc4… (all of the seat's roots in one cut). By AI agents, Wed Nov 11 2026. No macro, syntax, notation, axiom, sorry.
-/
import Derived.Test.YtjpmncpbghlkaaaChecked
import GoSem.Claim
import GoSem.ClaimJoined
import GoSem.ClaimMapViews
import Derived.JoinedTies
import Derived.KernelRfl
namespace Go.Proofs.Ytjpmncpbghlkaaa
/- THE CELL 'sum', in the pinned program and in every row, IS THE sha256 OF THE DUMP (.gsa) THAT YtjpmncpbghlkaaaProg.lean LOADS. Nothing in Lean hashes anything: it is a label: what it is worth is what the hold of that sum in a sandbox is worth. -/
noncomputable def Try.pinned : Pinned := { name := "ytjpmncpbghlkaaa", sum := "289cb7d5cf03cfc462912486f779b56faa1fd407088f720ffe16d37dc57a8bb2", checked := Try.checked }
namespace Rows
def none {H : Type} : Left H := { results := [], args := [] }

/-- 'laws.FnRecValid': WHATEVER THE INPUT: true; the input reads as it did. -/
def fnRecValidSpec : ChangeSpec := { name := "fnRecValid", fn := fun _ => fun
  | [d] => { results := [.lit (.bool true)], args := [d] }
  | _ => none }
def fnRecValidRow : OpenClaim := { program := "ytjpmncpbghlkaaa", sum := "289cb7d5cf03cfc462912486f779b56faa1fd407088f720ffe16d37dc57a8bb2", func := "loop.example/rationalstreams/laws.FnRecValid", spec := "fnRecValid", apart := false }
def FnRecValidSaid : Prop := fnRecValidRow.holds Try.pinned (OpenSpec.ofChange fnRecValidSpec)

/-- ITS FALSE NEIGHBOUR: 'it returns false'. Refute it at one input. -/
def fnRecValidWrong : ChangeSpec := { name := "fnRecValid", fn := fun _ => fun
  | [d] => { results := [.lit (.bool false)], args := [d] }
  | _ => none }
def FnRecValidWrongFalsely : Prop := fnRecValidRow.holds Try.pinned (OpenSpec.ofChange fnRecValidWrong)

/-- 'laws.FnExactRecValid': WHATEVER THE INPUT: true; the input reads as it did. -/
def fnExactRecValidSpec : ChangeSpec := { name := "fnExactRecValid", fn := fun _ => fun
  | [d] => { results := [.lit (.bool true)], args := [d] }
  | _ => none }
def fnExactRecValidRow : OpenClaim := { program := "ytjpmncpbghlkaaa", sum := "289cb7d5cf03cfc462912486f779b56faa1fd407088f720ffe16d37dc57a8bb2", func := "loop.example/rationalstreams/laws.FnExactRecValid", spec := "fnExactRecValid", apart := false }
def FnExactRecValidSaid : Prop := fnExactRecValidRow.holds Try.pinned (OpenSpec.ofChange fnExactRecValidSpec)

/-- ITS FALSE NEIGHBOUR: 'it returns false'. Refute it at one input. -/
def fnExactRecValidWrong : ChangeSpec := { name := "fnExactRecValid", fn := fun _ => fun
  | [d] => { results := [.lit (.bool false)], args := [d] }
  | _ => none }
def FnExactRecValidWrongFalsely : Prop := fnExactRecValidRow.holds Try.pinned (OpenSpec.ofChange fnExactRecValidWrong)

/-- 'laws.FnRecTerms': WHATEVER THE INPUT: true; the input reads as it did. -/
def fnRecTermsSpec : ChangeSpec := { name := "fnRecTerms", fn := fun _ => fun
  | [d] => { results := [.lit (.bool true)], args := [d] }
  | _ => none }
def fnRecTermsRow : OpenClaim := { program := "ytjpmncpbghlkaaa", sum := "289cb7d5cf03cfc462912486f779b56faa1fd407088f720ffe16d37dc57a8bb2", func := "loop.example/rationalstreams/laws.FnRecTerms", spec := "fnRecTerms", unfollowed := true, recurses := true, apart := false }
def FnRecTermsSaid : Prop := fnRecTermsRow.holds Try.pinned (OpenSpec.ofChange fnRecTermsSpec)

/-- ITS FALSE NEIGHBOUR: 'it returns false'. Refute it at one input. -/
def fnRecTermsWrong : ChangeSpec := { name := "fnRecTerms", fn := fun _ => fun
  | [d] => { results := [.lit (.bool false)], args := [d] }
  | _ => none }
def FnRecTermsWrongFalsely : Prop := fnRecTermsRow.holds Try.pinned (OpenSpec.ofChange fnRecTermsWrong)

/-- 'laws.FnExactRecTerms': WHATEVER THE INPUT: true; the input reads as it did. -/
def fnExactRecTermsSpec : ChangeSpec := { name := "fnExactRecTerms", fn := fun _ => fun
  | [d1, d2] => { results := [.lit (.bool true)], args := [d1, d2] }
  | _ => none }
def fnExactRecTermsRow : OpenClaim := { program := "ytjpmncpbghlkaaa", sum := "289cb7d5cf03cfc462912486f779b56faa1fd407088f720ffe16d37dc57a8bb2", func := "loop.example/rationalstreams/laws.FnExactRecTerms", spec := "fnExactRecTerms", unfollowed := true, recurses := true, apart := false }
def FnExactRecTermsSaid : Prop := fnExactRecTermsRow.holds Try.pinned (OpenSpec.ofChange fnExactRecTermsSpec)

/-- ITS FALSE NEIGHBOUR: 'it returns false'. Refute it at one input. -/
def fnExactRecTermsWrong : ChangeSpec := { name := "fnExactRecTerms", fn := fun _ => fun
  | [d1, d2] => { results := [.lit (.bool false)], args := [d1, d2] }
  | _ => none }
def FnExactRecTermsWrongFalsely : Prop := fnExactRecTermsRow.holds Try.pinned (OpenSpec.ofChange fnExactRecTermsWrong)

/-- 'laws.FnRecPoly': WHATEVER THE INPUT: true; the input reads as it did. -/
def fnRecPolySpec : ChangeSpec := { name := "fnRecPoly", fn := fun _ => fun
  | [d] => { results := [.lit (.bool true)], args := [d] }
  | _ => none }
def fnRecPolyRow : OpenClaim := { program := "ytjpmncpbghlkaaa", sum := "289cb7d5cf03cfc462912486f779b56faa1fd407088f720ffe16d37dc57a8bb2", func := "loop.example/rationalstreams/laws.FnRecPoly", spec := "fnRecPoly", unfollowed := true, recurses := true, apart := false }
def FnRecPolySaid : Prop := fnRecPolyRow.holds Try.pinned (OpenSpec.ofChange fnRecPolySpec)

/-- ITS FALSE NEIGHBOUR: 'it returns false'. Refute it at one input. -/
def fnRecPolyWrong : ChangeSpec := { name := "fnRecPoly", fn := fun _ => fun
  | [d] => { results := [.lit (.bool false)], args := [d] }
  | _ => none }
def FnRecPolyWrongFalsely : Prop := fnRecPolyRow.holds Try.pinned (OpenSpec.ofChange fnRecPolyWrong)

/-- 'laws.FnExactRecPoly': WHATEVER THE INPUT: true; the input reads as it did. -/
def fnExactRecPolySpec : ChangeSpec := { name := "fnExactRecPoly", fn := fun _ => fun
  | [d] => { results := [.lit (.bool true)], args := [d] }
  | _ => none }
def fnExactRecPolyRow : OpenClaim := { program := "ytjpmncpbghlkaaa", sum := "289cb7d5cf03cfc462912486f779b56faa1fd407088f720ffe16d37dc57a8bb2", func := "loop.example/rationalstreams/laws.FnExactRecPoly", spec := "fnExactRecPoly", apart := false }
def FnExactRecPolySaid : Prop := fnExactRecPolyRow.holds Try.pinned (OpenSpec.ofChange fnExactRecPolySpec)

/-- ITS FALSE NEIGHBOUR: 'it returns false'. Refute it at one input. -/
def fnExactRecPolyWrong : ChangeSpec := { name := "fnExactRecPoly", fn := fun _ => fun
  | [d] => { results := [.lit (.bool false)], args := [d] }
  | _ => none }
def FnExactRecPolyWrongFalsely : Prop := fnExactRecPolyRow.holds Try.pinned (OpenSpec.ofChange fnExactRecPolyWrong)

/-- 'laws.FnRecSame': WHATEVER THE INPUT: true; the input reads as it did. -/
def fnRecSameSpec : ChangeSpec := { name := "fnRecSame", fn := fun _ => fun
  | [d1, d2] => { results := [.lit (.bool true)], args := [d1, d2] }
  | _ => none }
def fnRecSameRow : OpenClaim := { program := "ytjpmncpbghlkaaa", sum := "289cb7d5cf03cfc462912486f779b56faa1fd407088f720ffe16d37dc57a8bb2", func := "loop.example/rationalstreams/laws.FnRecSame", spec := "fnRecSame", unfollowed := true, recurses := true, apart := false }
def FnRecSameSaid : Prop := fnRecSameRow.holds Try.pinned (OpenSpec.ofChange fnRecSameSpec)

/-- ITS FALSE NEIGHBOUR: 'it returns false'. Refute it at one input. -/
def fnRecSameWrong : ChangeSpec := { name := "fnRecSame", fn := fun _ => fun
  | [d1, d2] => { results := [.lit (.bool false)], args := [d1, d2] }
  | _ => none }
def FnRecSameWrongFalsely : Prop := fnRecSameRow.holds Try.pinned (OpenSpec.ofChange fnRecSameWrong)

/-- 'laws.FnExactRecSame': WHATEVER THE INPUT: true; the input reads as it did. -/
def fnExactRecSameSpec : ChangeSpec := { name := "fnExactRecSame", fn := fun _ => fun
  | [d1, d2] => { results := [.lit (.bool true)], args := [d1, d2] }
  | _ => none }
def fnExactRecSameRow : OpenClaim := { program := "ytjpmncpbghlkaaa", sum := "289cb7d5cf03cfc462912486f779b56faa1fd407088f720ffe16d37dc57a8bb2", func := "loop.example/rationalstreams/laws.FnExactRecSame", spec := "fnExactRecSame", unfollowed := true, recurses := true, apart := false }
def FnExactRecSameSaid : Prop := fnExactRecSameRow.holds Try.pinned (OpenSpec.ofChange fnExactRecSameSpec)

/-- ITS FALSE NEIGHBOUR: 'it returns false'. Refute it at one input. -/
def fnExactRecSameWrong : ChangeSpec := { name := "fnExactRecSame", fn := fun _ => fun
  | [d1, d2] => { results := [.lit (.bool false)], args := [d1, d2] }
  | _ => none }
def FnExactRecSameWrongFalsely : Prop := fnExactRecSameRow.holds Try.pinned (OpenSpec.ofChange fnExactRecSameWrong)

/-- 'laws.FnRecNext': WHATEVER THE INPUT: true; the input reads as it did. -/
def fnRecNextSpec : ChangeSpec := { name := "fnRecNext", fn := fun _ => fun
  | [d] => { results := [.lit (.bool true)], args := [d] }
  | _ => none }
def fnRecNextRow : OpenClaim := { program := "ytjpmncpbghlkaaa", sum := "289cb7d5cf03cfc462912486f779b56faa1fd407088f720ffe16d37dc57a8bb2", func := "loop.example/rationalstreams/laws.FnRecNext", spec := "fnRecNext", unfollowed := true, recurses := true, apart := false }
def FnRecNextSaid : Prop := fnRecNextRow.holds Try.pinned (OpenSpec.ofChange fnRecNextSpec)

/-- ITS FALSE NEIGHBOUR: 'it returns false'. Refute it at one input. -/
def fnRecNextWrong : ChangeSpec := { name := "fnRecNext", fn := fun _ => fun
  | [d] => { results := [.lit (.bool false)], args := [d] }
  | _ => none }
def FnRecNextWrongFalsely : Prop := fnRecNextRow.holds Try.pinned (OpenSpec.ofChange fnRecNextWrong)

/-- 'laws.FnExactRecNext': WHATEVER THE INPUT: true; the input reads as it did. -/
def fnExactRecNextSpec : ChangeSpec := { name := "fnExactRecNext", fn := fun _ => fun
  | [d] => { results := [.lit (.bool true)], args := [d] }
  | _ => none }
def fnExactRecNextRow : OpenClaim := { program := "ytjpmncpbghlkaaa", sum := "289cb7d5cf03cfc462912486f779b56faa1fd407088f720ffe16d37dc57a8bb2", func := "loop.example/rationalstreams/laws.FnExactRecNext", spec := "fnExactRecNext", unfollowed := true, recurses := true, apart := false }
def FnExactRecNextSaid : Prop := fnExactRecNextRow.holds Try.pinned (OpenSpec.ofChange fnExactRecNextSpec)

/-- ITS FALSE NEIGHBOUR: 'it returns false'. Refute it at one input. -/
def fnExactRecNextWrong : ChangeSpec := { name := "fnExactRecNext", fn := fun _ => fun
  | [d] => { results := [.lit (.bool false)], args := [d] }
  | _ => none }
def FnExactRecNextWrongFalsely : Prop := fnExactRecNextRow.holds Try.pinned (OpenSpec.ofChange fnExactRecNextWrong)

/-- 'laws.FnRecTimes': WHATEVER THE INPUT: true; the input reads as it did. -/
def fnRecTimesSpec : ChangeSpec := { name := "fnRecTimes", fn := fun _ => fun
  | [d] => { results := [.lit (.bool true)], args := [d] }
  | _ => none }
def fnRecTimesRow : OpenClaim := { program := "ytjpmncpbghlkaaa", sum := "289cb7d5cf03cfc462912486f779b56faa1fd407088f720ffe16d37dc57a8bb2", func := "loop.example/rationalstreams/laws.FnRecTimes", spec := "fnRecTimes", unfollowed := true, recurses := true, apart := false }
def FnRecTimesSaid : Prop := fnRecTimesRow.holds Try.pinned (OpenSpec.ofChange fnRecTimesSpec)

/-- ITS FALSE NEIGHBOUR: 'it returns false'. Refute it at one input. -/
def fnRecTimesWrong : ChangeSpec := { name := "fnRecTimes", fn := fun _ => fun
  | [d] => { results := [.lit (.bool false)], args := [d] }
  | _ => none }
def FnRecTimesWrongFalsely : Prop := fnRecTimesRow.holds Try.pinned (OpenSpec.ofChange fnRecTimesWrong)

/-- 'laws.FnExactRecTimes': WHATEVER THE INPUT: true; the input reads as it did. -/
def fnExactRecTimesSpec : ChangeSpec := { name := "fnExactRecTimes", fn := fun _ => fun
  | [d1, d2] => { results := [.lit (.bool true)], args := [d1, d2] }
  | _ => none }
def fnExactRecTimesRow : OpenClaim := { program := "ytjpmncpbghlkaaa", sum := "289cb7d5cf03cfc462912486f779b56faa1fd407088f720ffe16d37dc57a8bb2", func := "loop.example/rationalstreams/laws.FnExactRecTimes", spec := "fnExactRecTimes", apart := false }
def FnExactRecTimesSaid : Prop := fnExactRecTimesRow.holds Try.pinned (OpenSpec.ofChange fnExactRecTimesSpec)

/-- ITS FALSE NEIGHBOUR: 'it returns false'. Refute it at one input. -/
def fnExactRecTimesWrong : ChangeSpec := { name := "fnExactRecTimes", fn := fun _ => fun
  | [d1, d2] => { results := [.lit (.bool false)], args := [d1, d2] }
  | _ => none }
def FnExactRecTimesWrongFalsely : Prop := fnExactRecTimesRow.holds Try.pinned (OpenSpec.ofChange fnExactRecTimesWrong)

/- THE SECOND FORM. 'bulk': how many values and letters a reading holds, each counted each time it is reached (what is shared counts as often as it is met; a slice's spare places count too). A statement '..UptoSaid' is the law's where the arguments, and the package variables that the reading takes, are together of bulk at most 1048576: NARROWER than '..Said'. Prove '..Said' where nothing that the law and all that it calls make is longer than what came in: it says more and counts as full. Else prove '..UptoSaid'. A law counts once. -/
mutual
def uptoBulk {H : Type} : DataW H → Nat
  | .lit (.string bytes) => bytes.length + 1
  | .lit _ => 1
  | .nil => 1
  | .ptr d => uptoBulk d + 1
  | .slice elems spare => uptoBulkAll elems + uptoBulkAll spare + 1
  | .agg parts => uptoBulkAll parts + 1
  | .iface _ d => uptoBulk d + 1
  | .map entries => uptoBulkEntries entries + 1
  | .held _ => 1
def uptoBulkAll {H : Type} : List (DataW H) → Nat
  | [] => 0
  | d :: r => uptoBulk d + uptoBulkAll r
def uptoBulkEntries {H : Type} : List (Lit × DataW H) → Nat
  | [] => 0
  | x :: r => uptoBulkEntry x + uptoBulkEntries r
def uptoBulkEntry {H : Type} : Lit × DataW H → Nat
  | (.string bytes, d) => bytes.length + uptoBulk d + 1
  | (_, d) => uptoBulk d + 1
 end
def uptoSmall : (H : Type) → List (DataW H) → Bool := fun _ ds => decide (uptoBulkAll ds ≤ 1048576)
def OpenSpec.upto (s : _root_.Go.ChangeSpec) : _root_.Go.OpenSpec := { _root_.Go.OpenSpec.ofChange s with cond := some uptoSmall }

/-- 'laws.FnRecValid', WHERE WHAT IT READS IS OF BULK AT MOST 1048576: true; the input reads as it did. -/
def fnRecValidUptoRow : OpenClaim := { program := "ytjpmncpbghlkaaa", sum := "289cb7d5cf03cfc462912486f779b56faa1fd407088f720ffe16d37dc57a8bb2", func := "loop.example/rationalstreams/laws.FnRecValid", spec := "fnRecValid", apart := false, narrowed := true }
def FnRecValidUptoSaid : Prop := fnRecValidUptoRow.holds Try.pinned (OpenSpec.upto fnRecValidSpec)

/-- 'laws.FnExactRecValid', WHERE WHAT IT READS IS OF BULK AT MOST 1048576: true; the input reads as it did. -/
def fnExactRecValidUptoRow : OpenClaim := { program := "ytjpmncpbghlkaaa", sum := "289cb7d5cf03cfc462912486f779b56faa1fd407088f720ffe16d37dc57a8bb2", func := "loop.example/rationalstreams/laws.FnExactRecValid", spec := "fnExactRecValid", apart := false, narrowed := true }
def FnExactRecValidUptoSaid : Prop := fnExactRecValidUptoRow.holds Try.pinned (OpenSpec.upto fnExactRecValidSpec)

/-- 'laws.FnRecTerms', WHERE WHAT IT READS IS OF BULK AT MOST 1048576: true; the input reads as it did. -/
def fnRecTermsUptoRow : OpenClaim := { program := "ytjpmncpbghlkaaa", sum := "289cb7d5cf03cfc462912486f779b56faa1fd407088f720ffe16d37dc57a8bb2", func := "loop.example/rationalstreams/laws.FnRecTerms", spec := "fnRecTerms", unfollowed := true, recurses := true, apart := false, narrowed := true }
def FnRecTermsUptoSaid : Prop := fnRecTermsUptoRow.holds Try.pinned (OpenSpec.upto fnRecTermsSpec)

/-- 'laws.FnExactRecTerms', WHERE WHAT IT READS IS OF BULK AT MOST 1048576: true; the input reads as it did. -/
def fnExactRecTermsUptoRow : OpenClaim := { program := "ytjpmncpbghlkaaa", sum := "289cb7d5cf03cfc462912486f779b56faa1fd407088f720ffe16d37dc57a8bb2", func := "loop.example/rationalstreams/laws.FnExactRecTerms", spec := "fnExactRecTerms", unfollowed := true, recurses := true, apart := false, narrowed := true }
def FnExactRecTermsUptoSaid : Prop := fnExactRecTermsUptoRow.holds Try.pinned (OpenSpec.upto fnExactRecTermsSpec)

/-- 'laws.FnRecPoly', WHERE WHAT IT READS IS OF BULK AT MOST 1048576: true; the input reads as it did. -/
def fnRecPolyUptoRow : OpenClaim := { program := "ytjpmncpbghlkaaa", sum := "289cb7d5cf03cfc462912486f779b56faa1fd407088f720ffe16d37dc57a8bb2", func := "loop.example/rationalstreams/laws.FnRecPoly", spec := "fnRecPoly", unfollowed := true, recurses := true, apart := false, narrowed := true }
def FnRecPolyUptoSaid : Prop := fnRecPolyUptoRow.holds Try.pinned (OpenSpec.upto fnRecPolySpec)

/-- 'laws.FnExactRecPoly', WHERE WHAT IT READS IS OF BULK AT MOST 1048576: true; the input reads as it did. -/
def fnExactRecPolyUptoRow : OpenClaim := { program := "ytjpmncpbghlkaaa", sum := "289cb7d5cf03cfc462912486f779b56faa1fd407088f720ffe16d37dc57a8bb2", func := "loop.example/rationalstreams/laws.FnExactRecPoly", spec := "fnExactRecPoly", apart := false, narrowed := true }
def FnExactRecPolyUptoSaid : Prop := fnExactRecPolyUptoRow.holds Try.pinned (OpenSpec.upto fnExactRecPolySpec)

/-- 'laws.FnRecSame', WHERE WHAT IT READS IS OF BULK AT MOST 1048576: true; the input reads as it did. -/
def fnRecSameUptoRow : OpenClaim := { program := "ytjpmncpbghlkaaa", sum := "289cb7d5cf03cfc462912486f779b56faa1fd407088f720ffe16d37dc57a8bb2", func := "loop.example/rationalstreams/laws.FnRecSame", spec := "fnRecSame", unfollowed := true, recurses := true, apart := false, narrowed := true }
def FnRecSameUptoSaid : Prop := fnRecSameUptoRow.holds Try.pinned (OpenSpec.upto fnRecSameSpec)

/-- 'laws.FnExactRecSame', WHERE WHAT IT READS IS OF BULK AT MOST 1048576: true; the input reads as it did. -/
def fnExactRecSameUptoRow : OpenClaim := { program := "ytjpmncpbghlkaaa", sum := "289cb7d5cf03cfc462912486f779b56faa1fd407088f720ffe16d37dc57a8bb2", func := "loop.example/rationalstreams/laws.FnExactRecSame", spec := "fnExactRecSame", unfollowed := true, recurses := true, apart := false, narrowed := true }
def FnExactRecSameUptoSaid : Prop := fnExactRecSameUptoRow.holds Try.pinned (OpenSpec.upto fnExactRecSameSpec)

/-- 'laws.FnRecNext', WHERE WHAT IT READS IS OF BULK AT MOST 1048576: true; the input reads as it did. -/
def fnRecNextUptoRow : OpenClaim := { program := "ytjpmncpbghlkaaa", sum := "289cb7d5cf03cfc462912486f779b56faa1fd407088f720ffe16d37dc57a8bb2", func := "loop.example/rationalstreams/laws.FnRecNext", spec := "fnRecNext", unfollowed := true, recurses := true, apart := false, narrowed := true }
def FnRecNextUptoSaid : Prop := fnRecNextUptoRow.holds Try.pinned (OpenSpec.upto fnRecNextSpec)

/-- 'laws.FnExactRecNext', WHERE WHAT IT READS IS OF BULK AT MOST 1048576: true; the input reads as it did. -/
def fnExactRecNextUptoRow : OpenClaim := { program := "ytjpmncpbghlkaaa", sum := "289cb7d5cf03cfc462912486f779b56faa1fd407088f720ffe16d37dc57a8bb2", func := "loop.example/rationalstreams/laws.FnExactRecNext", spec := "fnExactRecNext", unfollowed := true, recurses := true, apart := false, narrowed := true }
def FnExactRecNextUptoSaid : Prop := fnExactRecNextUptoRow.holds Try.pinned (OpenSpec.upto fnExactRecNextSpec)

/-- 'laws.FnRecTimes', WHERE WHAT IT READS IS OF BULK AT MOST 1048576: true; the input reads as it did. -/
def fnRecTimesUptoRow : OpenClaim := { program := "ytjpmncpbghlkaaa", sum := "289cb7d5cf03cfc462912486f779b56faa1fd407088f720ffe16d37dc57a8bb2", func := "loop.example/rationalstreams/laws.FnRecTimes", spec := "fnRecTimes", unfollowed := true, recurses := true, apart := false, narrowed := true }
def FnRecTimesUptoSaid : Prop := fnRecTimesUptoRow.holds Try.pinned (OpenSpec.upto fnRecTimesSpec)

/-- 'laws.FnExactRecTimes', WHERE WHAT IT READS IS OF BULK AT MOST 1048576: true; the input reads as it did. -/
def fnExactRecTimesUptoRow : OpenClaim := { program := "ytjpmncpbghlkaaa", sum := "289cb7d5cf03cfc462912486f779b56faa1fd407088f720ffe16d37dc57a8bb2", func := "loop.example/rationalstreams/laws.FnExactRecTimes", spec := "fnExactRecTimes", apart := false, narrowed := true }
def FnExactRecTimesUptoSaid : Prop := fnExactRecTimesUptoRow.holds Try.pinned (OpenSpec.upto fnExactRecTimesSpec)

end Rows
end Go.Proofs.Ytjpmncpbghlkaaa

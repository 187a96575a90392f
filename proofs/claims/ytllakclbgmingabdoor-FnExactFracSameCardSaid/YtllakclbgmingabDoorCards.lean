/-
  DERIVED. GIVEN WITH THE SEED: THE CARDS: each row of YtllakclbgmingabDoorRows.lean that lists a variable, with what it lists TIED to the program's text (the seventh form; the later family's looks); each row that meets fmt, with fmt's text TOLD by the authors' own Lean function (tested against real Go, not proved from fmt's source: count such statements apart). THE CARD IS WHAT COUNTS. Prove the row's statement (the work); the ties are given (YtllakclbgmingabDoorTie.lean); close each card by the builder's one call (the guide's Derived/Test/ToyasCard.lean, 'card_holds'). Laid BY PROGRAM, IN A SANDBOX (cutbox-door.mjs). By AI agents, Wed Nov 11 2026. No macro, syntax, notation, axiom, sorry.
-/
import Derived.Test.YtllakclbgmingabDoorRows
import GoSem.ClaimSeven
namespace Go.Proofs.YtllakclbgmingabDoor
namespace Rows

/-- THE TIED CARD OF 'laws.FnFracLeast'. -/
def fnFracLeastCard : Claim7 := { stood := { row := fnFracLeastRow, standIns := [], harness := (true, "c83f2be7105aca3634f50fc1688990a62c5acb8e87458756ccc0ee673520fda4"), looks := true }, kinds := [], alts := [], laidByText := true, laidKinds := [.sentinel], laidTests := true, laidLooks := .later }
def FnFracLeastCardSaid : Prop := Claim7.holds Tryd.pinned (.plain (OpenSpec.ofChange fnFracLeastSpec)) fnFracLeastCard

/-- THE TIED CARD OF 'laws.FnExactFracLeast'. -/
def fnExactFracLeastCard : Claim7 := { stood := { row := fnExactFracLeastRow, standIns := [], harness := (true, "c83f2be7105aca3634f50fc1688990a62c5acb8e87458756ccc0ee673520fda4"), looks := true }, kinds := [], alts := [], laidByText := true, laidKinds := [.sentinel], laidTests := true, laidLooks := .later }
def FnExactFracLeastCardSaid : Prop := Claim7.holds Tryd.pinned (.plain (OpenSpec.ofChange fnExactFracLeastSpec)) fnExactFracLeastCard

/-- THE TIED CARD OF 'laws.FnFracSame'. -/
def fnFracSameCard : Claim7 := { stood := { row := fnFracSameRow, standIns := [], harness := (true, "c83f2be7105aca3634f50fc1688990a62c5acb8e87458756ccc0ee673520fda4"), looks := true }, kinds := [], alts := [], laidByText := true, laidKinds := [.sentinel], laidTests := true, laidLooks := .later }
def FnFracSameCardSaid : Prop := Claim7.holds Tryd.pinned (.plain (OpenSpec.ofChange fnFracSameSpec)) fnFracSameCard

/-- THE TIED CARD OF 'laws.FnExactFracSame'. -/
def fnExactFracSameCard : Claim7 := { stood := { row := fnExactFracSameRow, standIns := [], harness := (true, "c83f2be7105aca3634f50fc1688990a62c5acb8e87458756ccc0ee673520fda4"), looks := true }, kinds := [], alts := [], laidByText := true, laidKinds := [.sentinel], laidTests := true, laidLooks := .later }
def FnExactFracSameCardSaid : Prop := Claim7.holds Tryd.pinned (.plain (OpenSpec.ofChange fnExactFracSameSpec)) fnExactFracSameCard

/-- THE TIED CARD OF 'laws.FnFracBack'. -/
def fnFracBackCard : Claim7 := { stood := { row := fnFracBackRow, standIns := [], harness := (true, "c83f2be7105aca3634f50fc1688990a62c5acb8e87458756ccc0ee673520fda4"), looks := true }, kinds := [], alts := [], laidByText := true, laidKinds := [.sentinel], laidTests := true, laidLooks := .later }
def FnFracBackCardSaid : Prop := Claim7.holds Tryd.pinned (.plain (OpenSpec.ofChange fnFracBackSpec)) fnFracBackCard

/-- THE TIED CARD OF 'laws.FnExactFracBack'. -/
def fnExactFracBackCard : Claim7 := { stood := { row := fnExactFracBackRow, standIns := [], harness := (true, "c83f2be7105aca3634f50fc1688990a62c5acb8e87458756ccc0ee673520fda4"), looks := true }, kinds := [], alts := [], laidByText := true, laidKinds := [.sentinel], laidTests := true, laidLooks := .later }
def FnExactFracBackCardSaid : Prop := Claim7.holds Tryd.pinned (.plain (OpenSpec.ofChange fnExactFracBackSpec)) fnExactFracBackCard

/-- THE SECOND FORM's CARD OF 'laws.FnFracLeast'. -/
def fnFracLeastUptoCard : Claim7 := { stood := { row := fnFracLeastUptoRow, standIns := [], harness := (true, "c83f2be7105aca3634f50fc1688990a62c5acb8e87458756ccc0ee673520fda4"), looks := true }, kinds := [], alts := [], laidByText := true, laidKinds := [.sentinel], laidTests := true, laidLooks := .later }
def FnFracLeastUptoCardSaid : Prop := Claim7.holds Tryd.pinned (.plain (OpenSpec.upto fnFracLeastSpec)) fnFracLeastUptoCard

/-- THE SECOND FORM's CARD OF 'laws.FnExactFracLeast'. -/
def fnExactFracLeastUptoCard : Claim7 := { stood := { row := fnExactFracLeastUptoRow, standIns := [], harness := (true, "c83f2be7105aca3634f50fc1688990a62c5acb8e87458756ccc0ee673520fda4"), looks := true }, kinds := [], alts := [], laidByText := true, laidKinds := [.sentinel], laidTests := true, laidLooks := .later }
def FnExactFracLeastUptoCardSaid : Prop := Claim7.holds Tryd.pinned (.plain (OpenSpec.upto fnExactFracLeastSpec)) fnExactFracLeastUptoCard

/-- THE SECOND FORM's CARD OF 'laws.FnFracSame'. -/
def fnFracSameUptoCard : Claim7 := { stood := { row := fnFracSameUptoRow, standIns := [], harness := (true, "c83f2be7105aca3634f50fc1688990a62c5acb8e87458756ccc0ee673520fda4"), looks := true }, kinds := [], alts := [], laidByText := true, laidKinds := [.sentinel], laidTests := true, laidLooks := .later }
def FnFracSameUptoCardSaid : Prop := Claim7.holds Tryd.pinned (.plain (OpenSpec.upto fnFracSameSpec)) fnFracSameUptoCard

/-- THE SECOND FORM's CARD OF 'laws.FnExactFracSame'. -/
def fnExactFracSameUptoCard : Claim7 := { stood := { row := fnExactFracSameUptoRow, standIns := [], harness := (true, "c83f2be7105aca3634f50fc1688990a62c5acb8e87458756ccc0ee673520fda4"), looks := true }, kinds := [], alts := [], laidByText := true, laidKinds := [.sentinel], laidTests := true, laidLooks := .later }
def FnExactFracSameUptoCardSaid : Prop := Claim7.holds Tryd.pinned (.plain (OpenSpec.upto fnExactFracSameSpec)) fnExactFracSameUptoCard

/-- THE SECOND FORM's CARD OF 'laws.FnFracBack'. -/
def fnFracBackUptoCard : Claim7 := { stood := { row := fnFracBackUptoRow, standIns := [], harness := (true, "c83f2be7105aca3634f50fc1688990a62c5acb8e87458756ccc0ee673520fda4"), looks := true }, kinds := [], alts := [], laidByText := true, laidKinds := [.sentinel], laidTests := true, laidLooks := .later }
def FnFracBackUptoCardSaid : Prop := Claim7.holds Tryd.pinned (.plain (OpenSpec.upto fnFracBackSpec)) fnFracBackUptoCard

/-- THE SECOND FORM's CARD OF 'laws.FnExactFracBack'. -/
def fnExactFracBackUptoCard : Claim7 := { stood := { row := fnExactFracBackUptoRow, standIns := [], harness := (true, "c83f2be7105aca3634f50fc1688990a62c5acb8e87458756ccc0ee673520fda4"), looks := true }, kinds := [], alts := [], laidByText := true, laidKinds := [.sentinel], laidTests := true, laidLooks := .later }
def FnExactFracBackUptoCardSaid : Prop := Claim7.holds Tryd.pinned (.plain (OpenSpec.upto fnExactFracBackSpec)) fnExactFracBackUptoCard
end Rows
end Go.Proofs.YtllakclbgmingabDoor

/-
  DERIVED. GIVEN WITH THE SEED: THE CARDS: each row of YthmkcdipljbdnaaDoorRows.lean that lists a variable, with what it lists TIED to the program's text (the seventh form; the later family's looks); each row that meets fmt, with fmt's text TOLD by the authors' own Lean function (tested against real Go, not proved from fmt's source: count such statements apart). THE CARD IS WHAT COUNTS. Prove the row's statement (the work); the ties are given (YthmkcdipljbdnaaDoorTie.lean); close each card by the builder's one call (the guide's Derived/Test/ToyasCard.lean, 'card_holds'). Laid BY PROGRAM, IN A SANDBOX (cutbox-door.mjs). By AI agents, Wed Nov 11 2026. No macro, syntax, notation, axiom, sorry.
-/
import Derived.Test.YthmkcdipljbdnaaDoorRows
import GoSem.ClaimSeven
namespace Go.Proofs.YthmkcdipljbdnaaDoor
namespace Rows

/-- THE TIED CARD OF 'laws.FnExactFracAdd'. -/
def fnExactFracAddCard : Claim7 := { stood := { row := fnExactFracAddRow, standIns := [], harness := (true, "e170c21a0ca732909fe508b8d621a2f291a24316a34dd703c4583c1830ae30d4"), looks := true }, kinds := [], alts := [], laidByText := true, laidKinds := [.sentinel], laidTests := true, laidLooks := .later }
def FnExactFracAddCardSaid : Prop := Claim7.holds Tryd.pinned (.plain (OpenSpec.ofChange fnExactFracAddSpec)) fnExactFracAddCard

/-- THE TIED CARD OF 'laws.FnExactFracTimes'. -/
def fnExactFracTimesCard : Claim7 := { stood := { row := fnExactFracTimesRow, standIns := [], harness := (true, "e170c21a0ca732909fe508b8d621a2f291a24316a34dd703c4583c1830ae30d4"), looks := true }, kinds := [], alts := [], laidByText := true, laidKinds := [.sentinel], laidTests := true, laidLooks := .later }
def FnExactFracTimesCardSaid : Prop := Claim7.holds Tryd.pinned (.plain (OpenSpec.ofChange fnExactFracTimesSpec)) fnExactFracTimesCard

/-- THE SECOND FORM's CARD OF 'laws.FnExactFracAdd'. -/
def fnExactFracAddUptoCard : Claim7 := { stood := { row := fnExactFracAddUptoRow, standIns := [], harness := (true, "e170c21a0ca732909fe508b8d621a2f291a24316a34dd703c4583c1830ae30d4"), looks := true }, kinds := [], alts := [], laidByText := true, laidKinds := [.sentinel], laidTests := true, laidLooks := .later }
def FnExactFracAddUptoCardSaid : Prop := Claim7.holds Tryd.pinned (.plain (OpenSpec.upto fnExactFracAddSpec)) fnExactFracAddUptoCard

/-- THE SECOND FORM's CARD OF 'laws.FnExactFracTimes'. -/
def fnExactFracTimesUptoCard : Claim7 := { stood := { row := fnExactFracTimesUptoRow, standIns := [], harness := (true, "e170c21a0ca732909fe508b8d621a2f291a24316a34dd703c4583c1830ae30d4"), looks := true }, kinds := [], alts := [], laidByText := true, laidKinds := [.sentinel], laidTests := true, laidLooks := .later }
def FnExactFracTimesUptoCardSaid : Prop := Claim7.holds Tryd.pinned (.plain (OpenSpec.upto fnExactFracTimesSpec)) fnExactFracTimesUptoCard
end Rows
end Go.Proofs.YthmkcdipljbdnaaDoor

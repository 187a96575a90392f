/-
  DERIVED. GIVEN WITH THE SEED: THE CARDS: each row of YtjbghoooldahlaaDoorRows.lean that lists a variable, with what it lists TIED to the program's text (the seventh form; the later family's looks); each row that meets fmt, with fmt's text TOLD by the authors' own Lean function (tested against real Go, not proved from fmt's source: count such statements apart). THE CARD IS WHAT COUNTS. Prove the row's statement (the work); the ties are given (YtjbghoooldahlaaDoorTie.lean); close each card by the builder's one call (the guide's Derived/Test/ToyasCard.lean, 'card_holds'). Laid BY PROGRAM, IN A SANDBOX (cutbox-door.mjs). By AI agents, Wed Nov 11 2026. No macro, syntax, notation, axiom, sorry.
-/
import Derived.Test.YtjbghoooldahlaaDoorRows
import GoSem.ClaimSeven
namespace Go.Proofs.YtjbghoooldahlaaDoor
namespace Rows

/-- THE TIED CARD OF 'laws.FnExactFracShift'. -/
def fnExactFracShiftCard : Claim7 := { stood := { row := fnExactFracShiftRow, standIns := [], harness := (true, "a13cbeab464e92c414bc68c94283f78abbbabaf630481af52dff8bd972787ba0"), looks := true }, kinds := [], alts := [], laidByText := true, laidKinds := [.sentinel], laidTests := true, laidLooks := .later }
def FnExactFracShiftCardSaid : Prop := Claim7.holds Tryd.pinned (.plain (OpenSpec.ofChange fnExactFracShiftSpec)) fnExactFracShiftCard

/-- THE SECOND FORM's CARD OF 'laws.FnExactFracShift'. -/
def fnExactFracShiftUptoCard : Claim7 := { stood := { row := fnExactFracShiftUptoRow, standIns := [], harness := (true, "a13cbeab464e92c414bc68c94283f78abbbabaf630481af52dff8bd972787ba0"), looks := true }, kinds := [], alts := [], laidByText := true, laidKinds := [.sentinel], laidTests := true, laidLooks := .later }
def FnExactFracShiftUptoCardSaid : Prop := Claim7.holds Tryd.pinned (.plain (OpenSpec.upto fnExactFracShiftSpec)) fnExactFracShiftUptoCard
end Rows
end Go.Proofs.YtjbghoooldahlaaDoor

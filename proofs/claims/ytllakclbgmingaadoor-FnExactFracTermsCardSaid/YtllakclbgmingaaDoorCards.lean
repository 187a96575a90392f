/-
  DERIVED. GIVEN WITH THE SEED: THE CARDS: each row of YtllakclbgmingaaDoorRows.lean that lists a variable, with what it lists TIED to the program's text (the seventh form; the later family's looks); each row that meets fmt, with fmt's text TOLD by the authors' own Lean function (tested against real Go, not proved from fmt's source: count such statements apart). THE CARD IS WHAT COUNTS. Prove the row's statement (the work); the ties are given (YtllakclbgmingaaDoorTie.lean); close each card by the builder's one call (the guide's Derived/Test/ToyasCard.lean, 'card_holds'). Laid BY PROGRAM, IN A SANDBOX (cutbox-door.mjs). By AI agents, Wed Nov 11 2026. No macro, syntax, notation, axiom, sorry.
-/
import Derived.Test.YtllakclbgmingaaDoorRows
import GoSem.ClaimSeven
namespace Go.Proofs.YtllakclbgmingaaDoor
namespace Rows

/-- THE TIED CARD OF 'laws.FnFracValid'. -/
def fnFracValidCard : Claim7 := { stood := { row := fnFracValidRow, standIns := [], harness := (true, "c0a46696c32f0a9d503cba24cb2c2aaf2b3600f281b0e79b9313d147af1bcf17"), looks := true }, kinds := [], alts := [], laidByText := true, laidKinds := [.sentinel], laidTests := true, laidLooks := .later }
def FnFracValidCardSaid : Prop := Claim7.holds Tryd.pinned (.plain (OpenSpec.ofChange fnFracValidSpec)) fnFracValidCard

/-- THE TIED CARD OF 'laws.FnExactFracValid'. -/
def fnExactFracValidCard : Claim7 := { stood := { row := fnExactFracValidRow, standIns := [], harness := (true, "c0a46696c32f0a9d503cba24cb2c2aaf2b3600f281b0e79b9313d147af1bcf17"), looks := true }, kinds := [], alts := [], laidByText := true, laidKinds := [.sentinel], laidTests := true, laidLooks := .later }
def FnExactFracValidCardSaid : Prop := Claim7.holds Tryd.pinned (.plain (OpenSpec.ofChange fnExactFracValidSpec)) fnExactFracValidCard

/-- THE TIED CARD OF 'laws.FnFracTerms'. -/
def fnFracTermsCard : Claim7 := { stood := { row := fnFracTermsRow, standIns := [], harness := (true, "c0a46696c32f0a9d503cba24cb2c2aaf2b3600f281b0e79b9313d147af1bcf17"), looks := true }, kinds := [], alts := [], laidByText := true, laidKinds := [.sentinel], laidTests := true, laidLooks := .later }
def FnFracTermsCardSaid : Prop := Claim7.holds Tryd.pinned (.plain (OpenSpec.ofChange fnFracTermsSpec)) fnFracTermsCard

/-- THE TIED CARD OF 'laws.FnExactFracTerms'. -/
def fnExactFracTermsCard : Claim7 := { stood := { row := fnExactFracTermsRow, standIns := [], harness := (true, "c0a46696c32f0a9d503cba24cb2c2aaf2b3600f281b0e79b9313d147af1bcf17"), looks := true }, kinds := [], alts := [], laidByText := true, laidKinds := [.sentinel], laidTests := true, laidLooks := .later }
def FnExactFracTermsCardSaid : Prop := Claim7.holds Tryd.pinned (.plain (OpenSpec.ofChange fnExactFracTermsSpec)) fnExactFracTermsCard

/-- THE SECOND FORM's CARD OF 'laws.FnFracValid'. -/
def fnFracValidUptoCard : Claim7 := { stood := { row := fnFracValidUptoRow, standIns := [], harness := (true, "c0a46696c32f0a9d503cba24cb2c2aaf2b3600f281b0e79b9313d147af1bcf17"), looks := true }, kinds := [], alts := [], laidByText := true, laidKinds := [.sentinel], laidTests := true, laidLooks := .later }
def FnFracValidUptoCardSaid : Prop := Claim7.holds Tryd.pinned (.plain (OpenSpec.upto fnFracValidSpec)) fnFracValidUptoCard

/-- THE SECOND FORM's CARD OF 'laws.FnExactFracValid'. -/
def fnExactFracValidUptoCard : Claim7 := { stood := { row := fnExactFracValidUptoRow, standIns := [], harness := (true, "c0a46696c32f0a9d503cba24cb2c2aaf2b3600f281b0e79b9313d147af1bcf17"), looks := true }, kinds := [], alts := [], laidByText := true, laidKinds := [.sentinel], laidTests := true, laidLooks := .later }
def FnExactFracValidUptoCardSaid : Prop := Claim7.holds Tryd.pinned (.plain (OpenSpec.upto fnExactFracValidSpec)) fnExactFracValidUptoCard

/-- THE SECOND FORM's CARD OF 'laws.FnFracTerms'. -/
def fnFracTermsUptoCard : Claim7 := { stood := { row := fnFracTermsUptoRow, standIns := [], harness := (true, "c0a46696c32f0a9d503cba24cb2c2aaf2b3600f281b0e79b9313d147af1bcf17"), looks := true }, kinds := [], alts := [], laidByText := true, laidKinds := [.sentinel], laidTests := true, laidLooks := .later }
def FnFracTermsUptoCardSaid : Prop := Claim7.holds Tryd.pinned (.plain (OpenSpec.upto fnFracTermsSpec)) fnFracTermsUptoCard

/-- THE SECOND FORM's CARD OF 'laws.FnExactFracTerms'. -/
def fnExactFracTermsUptoCard : Claim7 := { stood := { row := fnExactFracTermsUptoRow, standIns := [], harness := (true, "c0a46696c32f0a9d503cba24cb2c2aaf2b3600f281b0e79b9313d147af1bcf17"), looks := true }, kinds := [], alts := [], laidByText := true, laidKinds := [.sentinel], laidTests := true, laidLooks := .later }
def FnExactFracTermsUptoCardSaid : Prop := Claim7.holds Tryd.pinned (.plain (OpenSpec.upto fnExactFracTermsSpec)) fnExactFracTermsUptoCard
end Rows
end Go.Proofs.YtllakclbgmingaaDoor

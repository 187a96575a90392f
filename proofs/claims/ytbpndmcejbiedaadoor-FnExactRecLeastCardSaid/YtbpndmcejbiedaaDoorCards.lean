/-
  DERIVED. GIVEN WITH THE SEED: THE CARDS: each row of YtbpndmcejbiedaaDoorRows.lean that lists a variable, with what it lists TIED to the program's text (the seventh form; the later family's looks); each row that meets fmt, with fmt's text TOLD by the authors' own Lean function (tested against real Go, not proved from fmt's source: count such statements apart). THE CARD IS WHAT COUNTS. Prove the row's statement (the work); the ties are given (YtbpndmcejbiedaaDoorTie.lean); close each card by the builder's one call (the guide's Derived/Test/ToyasCard.lean, 'card_holds'). Laid BY PROGRAM, IN A SANDBOX (cutbox-door.mjs). By AI agents, Wed Nov 11 2026. No macro, syntax, notation, axiom, sorry.
-/
import Derived.Test.YtbpndmcejbiedaaDoorRows
import GoSem.ClaimSeven
namespace Go.Proofs.YtbpndmcejbiedaaDoor
namespace Rows

/-- THE TIED CARD OF 'laws.FnExactFracOf'. -/
def fnExactFracOfCard : Claim7 := { stood := { row := fnExactFracOfRow, standIns := [], harness := (true, "8192399a012781852d4ef3f5bfe58391943444f31685c867d1d4eb8176bc45e0"), looks := true }, kinds := [], alts := [], laidByText := true, laidKinds := [.sentinel], laidTests := true, laidLooks := .later }
def FnExactFracOfCardSaid : Prop := Claim7.holds Tryd.pinned (.plain (OpenSpec.ofChange fnExactFracOfSpec)) fnExactFracOfCard

/-- THE TIED CARD OF 'laws.FnExactRecOf'. -/
def fnExactRecOfCard : Claim7 := { stood := { row := fnExactRecOfRow, standIns := [], harness := (true, "8192399a012781852d4ef3f5bfe58391943444f31685c867d1d4eb8176bc45e0"), looks := true }, kinds := [], alts := [], laidByText := true, laidKinds := [.sentinel], laidTests := true, laidLooks := .later }
def FnExactRecOfCardSaid : Prop := Claim7.holds Tryd.pinned (.plain (OpenSpec.ofChange fnExactRecOfSpec)) fnExactRecOfCard

/-- THE TIED CARD OF 'laws.FnExactRecLeast'. -/
def fnExactRecLeastCard : Claim7 := { stood := { row := fnExactRecLeastRow, standIns := [], harness := (true, "8192399a012781852d4ef3f5bfe58391943444f31685c867d1d4eb8176bc45e0"), looks := true }, kinds := [], alts := [], laidByText := true, laidKinds := [.sentinel], laidTests := true, laidLooks := .later }
def FnExactRecLeastCardSaid : Prop := Claim7.holds Tryd.pinned (.plain (OpenSpec.ofChange fnExactRecLeastSpec)) fnExactRecLeastCard

/-- THE SECOND FORM's CARD OF 'laws.FnExactFracOf'. -/
def fnExactFracOfUptoCard : Claim7 := { stood := { row := fnExactFracOfUptoRow, standIns := [], harness := (true, "8192399a012781852d4ef3f5bfe58391943444f31685c867d1d4eb8176bc45e0"), looks := true }, kinds := [], alts := [], laidByText := true, laidKinds := [.sentinel], laidTests := true, laidLooks := .later }
def FnExactFracOfUptoCardSaid : Prop := Claim7.holds Tryd.pinned (.plain (OpenSpec.upto fnExactFracOfSpec)) fnExactFracOfUptoCard

/-- THE SECOND FORM's CARD OF 'laws.FnExactRecOf'. -/
def fnExactRecOfUptoCard : Claim7 := { stood := { row := fnExactRecOfUptoRow, standIns := [], harness := (true, "8192399a012781852d4ef3f5bfe58391943444f31685c867d1d4eb8176bc45e0"), looks := true }, kinds := [], alts := [], laidByText := true, laidKinds := [.sentinel], laidTests := true, laidLooks := .later }
def FnExactRecOfUptoCardSaid : Prop := Claim7.holds Tryd.pinned (.plain (OpenSpec.upto fnExactRecOfSpec)) fnExactRecOfUptoCard

/-- THE SECOND FORM's CARD OF 'laws.FnExactRecLeast'. -/
def fnExactRecLeastUptoCard : Claim7 := { stood := { row := fnExactRecLeastUptoRow, standIns := [], harness := (true, "8192399a012781852d4ef3f5bfe58391943444f31685c867d1d4eb8176bc45e0"), looks := true }, kinds := [], alts := [], laidByText := true, laidKinds := [.sentinel], laidTests := true, laidLooks := .later }
def FnExactRecLeastUptoCardSaid : Prop := Claim7.holds Tryd.pinned (.plain (OpenSpec.upto fnExactRecLeastSpec)) fnExactRecLeastUptoCard
end Rows
end Go.Proofs.YtbpndmcejbiedaaDoor

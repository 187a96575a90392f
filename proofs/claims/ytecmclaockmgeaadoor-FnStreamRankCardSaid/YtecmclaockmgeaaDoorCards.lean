/-
  DERIVED. GIVEN WITH THE SEED: THE CARDS: each row of YtecmclaockmgeaaDoorRows.lean that lists a variable, with what it lists TIED to the program's text (the seventh form; the later family's looks); each row that meets fmt, with fmt's text TOLD by the authors' own Lean function (tested against real Go, not proved from fmt's source: count such statements apart). THE CARD IS WHAT COUNTS. Prove the row's statement (the work); the ties are given (YtecmclaockmgeaaDoorTie.lean); close each card by the builder's one call (the guide's Derived/Test/ToyasCard.lean, 'card_holds'). Laid BY PROGRAM, IN A SANDBOX (cutbox-door.mjs). By AI agents, Wed Nov 11 2026. No macro, syntax, notation, axiom, sorry.
-/
import Derived.Test.YtecmclaockmgeaaDoorRows
import GoSem.ClaimSeven
namespace Go.Proofs.YtecmclaockmgeaaDoor
namespace Rows

/-- THE TIED CARD OF 'laws.FnStreamRank'. -/
def fnStreamRankCard : Claim7 := { stood := { row := fnStreamRankRow, standIns := [], harness := (true, "9b2ae3d6714a2370aa99a8dcbd481a98de569f7f910858a3a012d8fe919d93da"), looks := true }, kinds := [], alts := [], laidByText := true, laidKinds := [.sentinel], laidTests := true, laidLooks := .later }
def FnStreamRankCardSaid : Prop := Claim7.holds Tryd.pinned (.plain (OpenSpec.ofChange fnStreamRankSpec)) fnStreamRankCard

/-- THE SECOND FORM's CARD OF 'laws.FnStreamRank'. -/
def fnStreamRankUptoCard : Claim7 := { stood := { row := fnStreamRankUptoRow, standIns := [], harness := (true, "9b2ae3d6714a2370aa99a8dcbd481a98de569f7f910858a3a012d8fe919d93da"), looks := true }, kinds := [], alts := [], laidByText := true, laidKinds := [.sentinel], laidTests := true, laidLooks := .later }
def FnStreamRankUptoCardSaid : Prop := Claim7.holds Tryd.pinned (.plain (OpenSpec.upto fnStreamRankSpec)) fnStreamRankUptoCard
end Rows
end Go.Proofs.YtecmclaockmgeaaDoor

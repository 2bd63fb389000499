/-
  DERIVED. GIVEN WITH THE SEED: THE CARDS: each row of YtgnnfljobgbpbabGreatDoorRows.lean that lists a variable, with what it lists TIED to the program's text (the seventh form; the later family's looks); each row that meets fmt, with fmt's text TOLD by the authors' own Lean function (tested against real Go, not proved from fmt's source: count such statements apart). THE CARD IS WHAT COUNTS. Prove the row's statement (the work); the ties are given (YtgnnfljobgbpbabGreatDoorTie.lean); close each card by the builder's one call (the guide's Derived/Test/ToyasCard.lean, 'card_holds'). Laid BY PROGRAM, IN A SANDBOX (cutbox-door.mjs). By AI agents, Wed Nov 11 2026. No macro, syntax, notation, axiom, sorry.
-/
import Derived.Test.YtgnnfljobgbpbabGreatDoorRows
import GoSem.ClaimSeven
namespace Go.Proofs.YtgnnfljobgbpbabGreatDoor
namespace Rows

/-- THE TIED CARD OF 'laws.FnExactBlockFilter'. -/
def fnExactBlockFilterCard : Claim7 := { stood := { row := fnExactBlockFilterRow, standIns := [], harness := (true, "aadb3c9013289d57797c152b43da81b6acc3db603c4e8a1f4b3a759c077c6662"), looks := false }, kinds := [], alts := [], laidByText := true, laidKinds := [.data, .data, .data, .data], laidTests := true, laidLooks := .later }
def FnExactBlockFilterCardSaid : Prop := Claim7.holds Tryz.pinned (.plain (OpenSpec.ofChange fnExactBlockFilterSpec)) fnExactBlockFilterCard

/-- THE SECOND FORM's CARD OF 'laws.FnExactBlockFilter'. -/
def fnExactBlockFilterUptoCard : Claim7 := { stood := { row := fnExactBlockFilterUptoRow, standIns := [], harness := (true, "aadb3c9013289d57797c152b43da81b6acc3db603c4e8a1f4b3a759c077c6662"), looks := false }, kinds := [], alts := [], laidByText := true, laidKinds := [.data, .data, .data, .data], laidTests := true, laidLooks := .later }
def FnExactBlockFilterUptoCardSaid : Prop := Claim7.holds Tryz.pinned (.plain (OpenSpec.upto fnExactBlockFilterSpec)) fnExactBlockFilterUptoCard
end Rows
end Go.Proofs.YtgnnfljobgbpbabGreatDoor

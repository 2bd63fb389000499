/-
  DERIVED. GIVEN WITH THE SEED: THE CARDS: each row of YtgfjhjkgnghdhaaGreatDoorRows.lean that lists a variable, with what it lists TIED to the program's text (the seventh form; the later family's looks); each row that meets fmt, with fmt's text TOLD by the authors' own Lean function (tested against real Go, not proved from fmt's source: count such statements apart). THE CARD IS WHAT COUNTS. Prove the row's statement (the work); the ties are given (YtgfjhjkgnghdhaaGreatDoorTie.lean); close each card by the builder's one call (the guide's Derived/Test/ToyasCard.lean, 'card_holds'). Laid BY PROGRAM, IN A SANDBOX (cutbox-door.mjs). By AI agents, Wed Nov 11 2026. No macro, syntax, notation, axiom, sorry.
-/
import Derived.Test.YtgfjhjkgnghdhaaGreatDoorRows
import GoSem.ClaimSeven
namespace Go.Proofs.YtgfjhjkgnghdhaaGreatDoor
namespace Rows

/-- THE TIED CARD OF 'laws.FnExactPaidFind'. -/
def fnExactPaidFindCard : Claim7 := { stood := { row := fnExactPaidFindRow, standIns := [], harness := (true, "11834b5e7e9779c709161e1a9d669301d4fc61c1247a1038c2fb6b5db28cef69"), looks := true }, kinds := [], alts := [], laidByText := true, laidKinds := [.data, .data, .data, .handle, .data], laidTests := true, laidLooks := .later }
def FnExactPaidFindCardSaid : Prop := Claim7.holds Tryz.pinned (.plain (OpenSpec.ofChange fnExactPaidFindSpec)) fnExactPaidFindCard

/-- THE SECOND FORM's CARD OF 'laws.FnExactPaidFind'. -/
def fnExactPaidFindUptoCard : Claim7 := { stood := { row := fnExactPaidFindUptoRow, standIns := [], harness := (true, "11834b5e7e9779c709161e1a9d669301d4fc61c1247a1038c2fb6b5db28cef69"), looks := true }, kinds := [], alts := [], laidByText := true, laidKinds := [.data, .data, .data, .handle, .data], laidTests := true, laidLooks := .later }
def FnExactPaidFindUptoCardSaid : Prop := Claim7.holds Tryz.pinned (.plain (OpenSpec.upto fnExactPaidFindSpec)) fnExactPaidFindUptoCard
end Rows
end Go.Proofs.YtgfjhjkgnghdhaaGreatDoor

/-
  DERIVED. GIVEN WITH THE SEED: THE CARDS: each row of YtkajpkfhedfmaaaGreatDoorRows.lean that lists a variable, with what it lists TIED to the program's text (the seventh form; the later family's looks); each row that meets fmt, with fmt's text TOLD by the authors' own Lean function (tested against real Go, not proved from fmt's source: count such statements apart). THE CARD IS WHAT COUNTS. Prove the row's statement (the work); the ties are given (YtkajpkfhedfmaaaGreatDoorTie.lean); close each card by the builder's one call (the guide's Derived/Test/ToyasCard.lean, 'card_holds'). Laid BY PROGRAM, IN A SANDBOX (cutbox-door.mjs). By AI agents, Wed Nov 11 2026. No macro, syntax, notation, axiom, sorry.
-/
import Derived.Test.YtkajpkfhedfmaaaGreatDoorRows
import GoSem.ClaimSeven
namespace Go.Proofs.YtkajpkfhedfmaaaGreatDoor
namespace Rows

/-- THE TIED CARD OF 'laws.FnPaidFind'. -/
def fnPaidFindCard : Claim7 := { stood := { row := fnPaidFindRow, standIns := [], harness := (true, "0cfc2b3091079a00953481cee73ca53a72372b271751c3d3da7ec1fc099701a0"), looks := true }, kinds := [], alts := [], laidByText := true, laidKinds := [.data, .data, .data, .handle, .data], laidTests := true, laidLooks := .later }
def FnPaidFindCardSaid : Prop := Claim7.holds Tryz.pinned (.plain (OpenSpec.ofChange fnPaidFindSpec)) fnPaidFindCard

/-- THE SECOND FORM's CARD OF 'laws.FnPaidFind'. -/
def fnPaidFindUptoCard : Claim7 := { stood := { row := fnPaidFindUptoRow, standIns := [], harness := (true, "0cfc2b3091079a00953481cee73ca53a72372b271751c3d3da7ec1fc099701a0"), looks := true }, kinds := [], alts := [], laidByText := true, laidKinds := [.data, .data, .data, .handle, .data], laidTests := true, laidLooks := .later }
def FnPaidFindUptoCardSaid : Prop := Claim7.holds Tryz.pinned (.plain (OpenSpec.upto fnPaidFindSpec)) fnPaidFindUptoCard
end Rows
end Go.Proofs.YtkajpkfhedfmaaaGreatDoor

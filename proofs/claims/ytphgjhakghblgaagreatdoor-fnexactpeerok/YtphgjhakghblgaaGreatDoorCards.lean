/-
  DERIVED. GIVEN WITH THE SEED: THE CARDS: each row of YtphgjhakghblgaaGreatDoorRows.lean that lists a variable, with what it lists TIED to the program's text (the seventh form; the later family's looks); each row that meets fmt, with fmt's text TOLD by the authors' own Lean function (tested against real Go, not proved from fmt's source: count such statements apart). THE CARD IS WHAT COUNTS. Prove the row's statement (the work); the ties are given (YtphgjhakghblgaaGreatDoorTie.lean); close each card by the builder's one call (the guide's Derived/Test/ToyasCard.lean, 'card_holds'). Laid BY PROGRAM, IN A SANDBOX (cutbox-door.mjs). By AI agents, Wed Nov 11 2026. No macro, syntax, notation, axiom, sorry.
-/
import Derived.Test.YtphgjhakghblgaaGreatDoorRows
import GoSem.ClaimSeven
namespace Go.Proofs.YtphgjhakghblgaaGreatDoor
namespace Rows

/-- THE TIED CARD OF 'laws.FnExactServerOk'. -/
def fnExactServerOkCard : Claim7 := { stood := { row := fnExactServerOkRow, standIns := [], harness := (true, "5c0bca0e60d857ddbd1c7a093cc2d158568d6b4852fcef41965eeb978f85f9d4"), looks := true }, kinds := [], alts := [], laidByText := true, laidKinds := [.data, .data, .data, .handle, .data], laidTests := true, laidLooks := .later }
def FnExactServerOkCardSaid : Prop := Claim7.holds Tryz.pinned (.plain (OpenSpec.ofChange fnExactServerOkSpec)) fnExactServerOkCard

/-- THE TIED CARD OF 'laws.FnExactPeerOk'. -/
def fnExactPeerOkCard : Claim7 := { stood := { row := fnExactPeerOkRow, standIns := [], harness := (true, "5c0bca0e60d857ddbd1c7a093cc2d158568d6b4852fcef41965eeb978f85f9d4"), looks := true }, kinds := [], alts := [], laidByText := true, laidKinds := [.data, .data, .data, .handle, .data], laidTests := true, laidLooks := .later }
def FnExactPeerOkCardSaid : Prop := Claim7.holds Tryz.pinned (.plain (OpenSpec.ofChange fnExactPeerOkSpec)) fnExactPeerOkCard

/-- THE SECOND FORM's CARD OF 'laws.FnExactServerOk'. -/
def fnExactServerOkUptoCard : Claim7 := { stood := { row := fnExactServerOkUptoRow, standIns := [], harness := (true, "5c0bca0e60d857ddbd1c7a093cc2d158568d6b4852fcef41965eeb978f85f9d4"), looks := true }, kinds := [], alts := [], laidByText := true, laidKinds := [.data, .data, .data, .handle, .data], laidTests := true, laidLooks := .later }
def FnExactServerOkUptoCardSaid : Prop := Claim7.holds Tryz.pinned (.plain (OpenSpec.upto fnExactServerOkSpec)) fnExactServerOkUptoCard

/-- THE SECOND FORM's CARD OF 'laws.FnExactPeerOk'. -/
def fnExactPeerOkUptoCard : Claim7 := { stood := { row := fnExactPeerOkUptoRow, standIns := [], harness := (true, "5c0bca0e60d857ddbd1c7a093cc2d158568d6b4852fcef41965eeb978f85f9d4"), looks := true }, kinds := [], alts := [], laidByText := true, laidKinds := [.data, .data, .data, .handle, .data], laidTests := true, laidLooks := .later }
def FnExactPeerOkUptoCardSaid : Prop := Claim7.holds Tryz.pinned (.plain (OpenSpec.upto fnExactPeerOkSpec)) fnExactPeerOkUptoCard
end Rows
end Go.Proofs.YtphgjhakghblgaaGreatDoor

/-
  DERIVED. GIVEN WITH THE SEED: THE CARDS: each row of YtoojimfimlpplaaGreatDoorRows.lean that lists a variable, with what it lists TIED to the program's text (the seventh form; the later family's looks); each row that meets fmt, with fmt's text TOLD by the authors' own Lean function (tested against real Go, not proved from fmt's source: count such statements apart). THE CARD IS WHAT COUNTS. Prove the row's statement (the work); the ties are given (YtoojimfimlpplaaGreatDoorTie.lean); close each card by the builder's one call (the guide's Derived/Test/ToyasCard.lean, 'card_holds'). Laid BY PROGRAM, IN A SANDBOX (cutbox-door.mjs). By AI agents, Wed Nov 11 2026. No macro, syntax, notation, axiom, sorry.
-/
import Derived.Test.YtoojimfimlpplaaGreatDoorRows
import GoSem.ClaimSeven
namespace Go.Proofs.YtoojimfimlpplaaGreatDoor
namespace Rows

/-- THE TIED CARD OF 'laws.FnPrefix'. -/
def fnPrefixCard : Claim7 := { stood := { row := fnPrefixRow, standIns := [], harness := (true, "729ae4e91283a418ba25cf9a3e8659b1567a8204f2af0bd0f0a3786bcaf9f0dd"), looks := false }, kinds := [], alts := [], laidByText := true, laidKinds := [.data, .data, .data, .data], laidTests := true, laidLooks := .later }
def FnPrefixCardSaid : Prop := Claim7.holds Tryz.pinned (.plain (OpenSpec.ofChange fnPrefixSpec)) fnPrefixCard

/-- THE TIED CARD OF 'laws.FnPrefixTwo'. -/
def fnPrefixTwoCard : Claim7 := { stood := { row := fnPrefixTwoRow, standIns := [], harness := (true, "729ae4e91283a418ba25cf9a3e8659b1567a8204f2af0bd0f0a3786bcaf9f0dd"), looks := false }, kinds := [], alts := [], laidByText := true, laidKinds := [.data, .data, .data, .data], laidTests := true, laidLooks := .later }
def FnPrefixTwoCardSaid : Prop := Claim7.holds Tryz.pinned (.plain (OpenSpec.ofChange fnPrefixTwoSpec)) fnPrefixTwoCard

/-- THE SECOND FORM's CARD OF 'laws.FnPrefix'. -/
def fnPrefixUptoCard : Claim7 := { stood := { row := fnPrefixUptoRow, standIns := [], harness := (true, "729ae4e91283a418ba25cf9a3e8659b1567a8204f2af0bd0f0a3786bcaf9f0dd"), looks := false }, kinds := [], alts := [], laidByText := true, laidKinds := [.data, .data, .data, .data], laidTests := true, laidLooks := .later }
def FnPrefixUptoCardSaid : Prop := Claim7.holds Tryz.pinned (.plain (OpenSpec.upto fnPrefixSpec)) fnPrefixUptoCard

/-- THE SECOND FORM's CARD OF 'laws.FnPrefixTwo'. -/
def fnPrefixTwoUptoCard : Claim7 := { stood := { row := fnPrefixTwoUptoRow, standIns := [], harness := (true, "729ae4e91283a418ba25cf9a3e8659b1567a8204f2af0bd0f0a3786bcaf9f0dd"), looks := false }, kinds := [], alts := [], laidByText := true, laidKinds := [.data, .data, .data, .data], laidTests := true, laidLooks := .later }
def FnPrefixTwoUptoCardSaid : Prop := Claim7.holds Tryz.pinned (.plain (OpenSpec.upto fnPrefixTwoSpec)) fnPrefixTwoUptoCard
end Rows
end Go.Proofs.YtoojimfimlpplaaGreatDoor

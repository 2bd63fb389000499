/-
  DERIVED. GIVEN WITH THE SEED: THE CARDS: each row of YtpddholoehmjkaaGreatDoorRows.lean that lists a variable, with what it lists TIED to the program's text (the seventh form; the later family's looks); each row that meets fmt, with fmt's text TOLD by the authors' own Lean function (tested against real Go, not proved from fmt's source: count such statements apart). THE CARD IS WHAT COUNTS. Prove the row's statement (the work); the ties are given (YtpddholoehmjkaaGreatDoorTie.lean); close each card by the builder's one call (the guide's Derived/Test/ToyasCard.lean, 'card_holds'). Laid BY PROGRAM, IN A SANDBOX (cutbox-door.mjs). By AI agents, Wed Nov 11 2026. No macro, syntax, notation, axiom, sorry.
-/
import Derived.Test.YtpddholoehmjkaaGreatDoorRows
import GoSem.ClaimSeven
namespace Go.Proofs.YtpddholoehmjkaaGreatDoor
namespace Rows

/-- THE TIED CARD OF 'laws.FnExactChainMine'. -/
def fnExactChainMineCard : Claim7 := { stood := { row := fnExactChainMineRow, standIns := [], harness := (true, "28f8d24e1a72f6f91d6723260a1b12e8bcb4c524c3e28fca09eafa6de336ed8c"), looks := true }, kinds := [], alts := [], laidByText := true, laidKinds := [.data, .data, .data, .handle, .data], laidTests := true, laidLooks := .later }
def FnExactChainMineCardSaid : Prop := Claim7.holds Tryz.pinned (.plain (OpenSpec.ofChange fnExactChainMineSpec)) fnExactChainMineCard

/-- THE TIED CARD OF 'laws.FnMine'. -/
def fnMineCard : Claim7 := { stood := { row := fnMineRow, standIns := [], harness := (true, "28f8d24e1a72f6f91d6723260a1b12e8bcb4c524c3e28fca09eafa6de336ed8c"), looks := true }, kinds := [], alts := [], laidByText := true, laidKinds := [.data, .data, .data, .handle, .data], laidTests := true, laidLooks := .later }
def FnMineCardSaid : Prop := Claim7.holds Tryz.pinned (.plain (OpenSpec.ofChange fnMineSpec)) fnMineCard

/-- THE TIED CARD OF 'laws.FnExactChainMarks'. -/
def fnExactChainMarksCard : Claim7 := { stood := { row := fnExactChainMarksRow, standIns := [], harness := (true, "28f8d24e1a72f6f91d6723260a1b12e8bcb4c524c3e28fca09eafa6de336ed8c"), looks := true }, kinds := [], alts := [], laidByText := true, laidKinds := [.data, .data, .data, .handle, .data], laidTests := true, laidLooks := .later }
def FnExactChainMarksCardSaid : Prop := Claim7.holds Tryz.pinned (.plain (OpenSpec.ofChange fnExactChainMarksSpec)) fnExactChainMarksCard

/-- THE TIED CARD OF 'laws.FnMarks'. -/
def fnMarksCard : Claim7 := { stood := { row := fnMarksRow, standIns := [], harness := (true, "28f8d24e1a72f6f91d6723260a1b12e8bcb4c524c3e28fca09eafa6de336ed8c"), looks := true }, kinds := [], alts := [], laidByText := true, laidKinds := [.data, .data, .data, .handle, .data], laidTests := true, laidLooks := .later }
def FnMarksCardSaid : Prop := Claim7.holds Tryz.pinned (.plain (OpenSpec.ofChange fnMarksSpec)) fnMarksCard

/-- THE TIED CARD OF 'laws.FnExactServerNew'. -/
def fnExactServerNewCard : Claim7 := { stood := { row := fnExactServerNewRow, standIns := [], harness := (true, "28f8d24e1a72f6f91d6723260a1b12e8bcb4c524c3e28fca09eafa6de336ed8c"), looks := true }, kinds := [], alts := [], laidByText := true, laidKinds := [.data, .data, .data, .handle, .data], laidTests := true, laidLooks := .later }
def FnExactServerNewCardSaid : Prop := Claim7.holds Tryz.pinned (.plain (OpenSpec.ofChange fnExactServerNewSpec)) fnExactServerNewCard

/-- THE TIED CARD OF 'laws.FnServerNew'. -/
def fnServerNewCard : Claim7 := { stood := { row := fnServerNewRow, standIns := [], harness := (true, "28f8d24e1a72f6f91d6723260a1b12e8bcb4c524c3e28fca09eafa6de336ed8c"), looks := true }, kinds := [], alts := [], laidByText := true, laidKinds := [.data, .data, .data, .handle, .data], laidTests := true, laidLooks := .later }
def FnServerNewCardSaid : Prop := Claim7.holds Tryz.pinned (.plain (OpenSpec.ofChange fnServerNewSpec)) fnServerNewCard

/-- THE SECOND FORM's CARD OF 'laws.FnExactChainMine'. -/
def fnExactChainMineUptoCard : Claim7 := { stood := { row := fnExactChainMineUptoRow, standIns := [], harness := (true, "28f8d24e1a72f6f91d6723260a1b12e8bcb4c524c3e28fca09eafa6de336ed8c"), looks := true }, kinds := [], alts := [], laidByText := true, laidKinds := [.data, .data, .data, .handle, .data], laidTests := true, laidLooks := .later }
def FnExactChainMineUptoCardSaid : Prop := Claim7.holds Tryz.pinned (.plain (OpenSpec.upto fnExactChainMineSpec)) fnExactChainMineUptoCard

/-- THE SECOND FORM's CARD OF 'laws.FnMine'. -/
def fnMineUptoCard : Claim7 := { stood := { row := fnMineUptoRow, standIns := [], harness := (true, "28f8d24e1a72f6f91d6723260a1b12e8bcb4c524c3e28fca09eafa6de336ed8c"), looks := true }, kinds := [], alts := [], laidByText := true, laidKinds := [.data, .data, .data, .handle, .data], laidTests := true, laidLooks := .later }
def FnMineUptoCardSaid : Prop := Claim7.holds Tryz.pinned (.plain (OpenSpec.upto fnMineSpec)) fnMineUptoCard

/-- THE SECOND FORM's CARD OF 'laws.FnExactChainMarks'. -/
def fnExactChainMarksUptoCard : Claim7 := { stood := { row := fnExactChainMarksUptoRow, standIns := [], harness := (true, "28f8d24e1a72f6f91d6723260a1b12e8bcb4c524c3e28fca09eafa6de336ed8c"), looks := true }, kinds := [], alts := [], laidByText := true, laidKinds := [.data, .data, .data, .handle, .data], laidTests := true, laidLooks := .later }
def FnExactChainMarksUptoCardSaid : Prop := Claim7.holds Tryz.pinned (.plain (OpenSpec.upto fnExactChainMarksSpec)) fnExactChainMarksUptoCard

/-- THE SECOND FORM's CARD OF 'laws.FnMarks'. -/
def fnMarksUptoCard : Claim7 := { stood := { row := fnMarksUptoRow, standIns := [], harness := (true, "28f8d24e1a72f6f91d6723260a1b12e8bcb4c524c3e28fca09eafa6de336ed8c"), looks := true }, kinds := [], alts := [], laidByText := true, laidKinds := [.data, .data, .data, .handle, .data], laidTests := true, laidLooks := .later }
def FnMarksUptoCardSaid : Prop := Claim7.holds Tryz.pinned (.plain (OpenSpec.upto fnMarksSpec)) fnMarksUptoCard

/-- THE SECOND FORM's CARD OF 'laws.FnExactServerNew'. -/
def fnExactServerNewUptoCard : Claim7 := { stood := { row := fnExactServerNewUptoRow, standIns := [], harness := (true, "28f8d24e1a72f6f91d6723260a1b12e8bcb4c524c3e28fca09eafa6de336ed8c"), looks := true }, kinds := [], alts := [], laidByText := true, laidKinds := [.data, .data, .data, .handle, .data], laidTests := true, laidLooks := .later }
def FnExactServerNewUptoCardSaid : Prop := Claim7.holds Tryz.pinned (.plain (OpenSpec.upto fnExactServerNewSpec)) fnExactServerNewUptoCard

/-- THE SECOND FORM's CARD OF 'laws.FnServerNew'. -/
def fnServerNewUptoCard : Claim7 := { stood := { row := fnServerNewUptoRow, standIns := [], harness := (true, "28f8d24e1a72f6f91d6723260a1b12e8bcb4c524c3e28fca09eafa6de336ed8c"), looks := true }, kinds := [], alts := [], laidByText := true, laidKinds := [.data, .data, .data, .handle, .data], laidTests := true, laidLooks := .later }
def FnServerNewUptoCardSaid : Prop := Claim7.holds Tryz.pinned (.plain (OpenSpec.upto fnServerNewSpec)) fnServerNewUptoCard
end Rows
end Go.Proofs.YtpddholoehmjkaaGreatDoor

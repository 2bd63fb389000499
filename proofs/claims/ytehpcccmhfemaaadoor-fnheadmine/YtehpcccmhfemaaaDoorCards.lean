/-
  DERIVED. GIVEN WITH THE SEED: THE CARDS: each row of YtehpcccmhfemaaaDoorRows.lean that lists a variable, with what it lists TIED to the program's text (the seventh form; the later family's looks); each row that meets fmt, with fmt's text TOLD by the authors' own Lean function (tested against real Go, not proved from fmt's source: count such statements apart). THE CARD IS WHAT COUNTS. Prove the row's statement (the work); the ties are given (YtehpcccmhfemaaaDoorTie.lean); close each card by the builder's one call (the guide's Derived/Test/ToyasCard.lean, 'card_holds'). Laid BY PROGRAM, IN A SANDBOX (cutbox-door.mjs). By AI agents, Wed Nov 11 2026. No macro, syntax, notation, axiom, sorry.
-/
import Derived.Test.YtehpcccmhfemaaaDoorRows
import GoSem.ClaimSeven
namespace Go.Proofs.YtehpcccmhfemaaaDoor
namespace Rows

/-- THE TIED CARD OF 'laws.FnHeadMeets'. -/
def fnHeadMeetsCard : Claim7 := { stood := { row := fnHeadMeetsRow, standIns := [], harness := (true, "e0ba49d6045983456856e6a383565e4d54900098e3ed529ad7b8205c96b1c113"), looks := false }, kinds := [], alts := [], laidByText := true, laidKinds := [.data, .data, .data, .data], laidTests := true, laidLooks := .later }
def FnHeadMeetsCardSaid : Prop := Claim7.holds Tryd.pinned (.plain (OpenSpec.ofChange fnHeadMeetsSpec)) fnHeadMeetsCard

/-- THE TIED CARD OF 'laws.FnHeadMine'. -/
def fnHeadMineCard : Claim7 := { stood := { row := fnHeadMineRow, standIns := [], harness := (true, "e0ba49d6045983456856e6a383565e4d54900098e3ed529ad7b8205c96b1c113"), looks := false }, kinds := [], alts := [], laidByText := true, laidKinds := [.data, .data, .data, .data], laidTests := true, laidLooks := .later }
def FnHeadMineCardSaid : Prop := Claim7.holds Tryd.pinned (.plain (OpenSpec.ofChange fnHeadMineSpec)) fnHeadMineCard

/-- THE SECOND FORM's CARD OF 'laws.FnHeadMeets'. -/
def fnHeadMeetsUptoCard : Claim7 := { stood := { row := fnHeadMeetsUptoRow, standIns := [], harness := (true, "e0ba49d6045983456856e6a383565e4d54900098e3ed529ad7b8205c96b1c113"), looks := false }, kinds := [], alts := [], laidByText := true, laidKinds := [.data, .data, .data, .data], laidTests := true, laidLooks := .later }
def FnHeadMeetsUptoCardSaid : Prop := Claim7.holds Tryd.pinned (.plain (OpenSpec.upto fnHeadMeetsSpec)) fnHeadMeetsUptoCard

/-- THE SECOND FORM's CARD OF 'laws.FnHeadMine'. -/
def fnHeadMineUptoCard : Claim7 := { stood := { row := fnHeadMineUptoRow, standIns := [], harness := (true, "e0ba49d6045983456856e6a383565e4d54900098e3ed529ad7b8205c96b1c113"), looks := false }, kinds := [], alts := [], laidByText := true, laidKinds := [.data, .data, .data, .data], laidTests := true, laidLooks := .later }
def FnHeadMineUptoCardSaid : Prop := Claim7.holds Tryd.pinned (.plain (OpenSpec.upto fnHeadMineSpec)) fnHeadMineUptoCard
end Rows
end Go.Proofs.YtehpcccmhfemaaaDoor

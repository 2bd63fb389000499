/-
  DERIVED. GIVEN WITH THE SEED: THE CARDS: each row of YtcaejndpmagfaaaDoorRows.lean that lists a variable, with what it lists TIED to the program's text (the seventh form; the later family's looks); each row that meets fmt, with fmt's text TOLD by the authors' own Lean function (tested against real Go, not proved from fmt's source: count such statements apart). THE CARD IS WHAT COUNTS. Prove the row's statement (the work); the ties are given (YtcaejndpmagfaaaDoorTie.lean); close each card by the builder's one call (the guide's Derived/Test/ToyasCard.lean, 'card_holds'). Laid BY PROGRAM, IN A SANDBOX (cutbox-door.mjs). By AI agents, Wed Nov 11 2026. No macro, syntax, notation, axiom, sorry.
-/
import Derived.Test.YtcaejndpmagfaaaDoorRows
import GoSem.ClaimSeven
namespace Go.Proofs.YtcaejndpmagfaaaDoor
namespace Rows

/-- THE TIED CARD OF 'laws.FnExactFilterHas'. -/
def fnExactFilterHasCard : Claim7 := { stood := { row := fnExactFilterHasRow, standIns := [], harness := (true, "5ab1b5589c3ac965ad09c89354f58dc5c403738bac2dab6592d8effdac4d73d1"), looks := false }, kinds := [], alts := [], laidByText := true, laidKinds := [.data], laidTests := true, laidLooks := .later }
def FnExactFilterHasCardSaid : Prop := Claim7.holds Tryd.pinned (.plain (OpenSpec.ofChange fnExactFilterHasSpec)) fnExactFilterHasCard

/-- THE TIED CARD OF 'laws.FnExactFilterAny'. -/
def fnExactFilterAnyCard : Claim7 := { stood := { row := fnExactFilterAnyRow, standIns := [], harness := (true, "5ab1b5589c3ac965ad09c89354f58dc5c403738bac2dab6592d8effdac4d73d1"), looks := false }, kinds := [], alts := [], laidByText := true, laidKinds := [.data], laidTests := true, laidLooks := .later }
def FnExactFilterAnyCardSaid : Prop := Claim7.holds Tryd.pinned (.plain (OpenSpec.ofChange fnExactFilterAnySpec)) fnExactFilterAnyCard

/-- THE TIED CARD OF 'laws.FnFilterHas'. -/
def fnFilterHasCard : Claim7 := { stood := { row := fnFilterHasRow, standIns := [], harness := (true, "5ab1b5589c3ac965ad09c89354f58dc5c403738bac2dab6592d8effdac4d73d1"), looks := false }, kinds := [], alts := [], laidByText := true, laidKinds := [.data], laidTests := true, laidLooks := .later }
def FnFilterHasCardSaid : Prop := Claim7.holds Tryd.pinned (.plain (OpenSpec.ofChange fnFilterHasSpec)) fnFilterHasCard

/-- THE TIED CARD OF 'laws.FnFilterAny'. -/
def fnFilterAnyCard : Claim7 := { stood := { row := fnFilterAnyRow, standIns := [], harness := (true, "5ab1b5589c3ac965ad09c89354f58dc5c403738bac2dab6592d8effdac4d73d1"), looks := false }, kinds := [], alts := [], laidByText := true, laidKinds := [.data], laidTests := true, laidLooks := .later }
def FnFilterAnyCardSaid : Prop := Claim7.holds Tryd.pinned (.plain (OpenSpec.ofChange fnFilterAnySpec)) fnFilterAnyCard

/-- THE SECOND FORM's CARD OF 'laws.FnExactFilterHas'. -/
def fnExactFilterHasUptoCard : Claim7 := { stood := { row := fnExactFilterHasUptoRow, standIns := [], harness := (true, "5ab1b5589c3ac965ad09c89354f58dc5c403738bac2dab6592d8effdac4d73d1"), looks := false }, kinds := [], alts := [], laidByText := true, laidKinds := [.data], laidTests := true, laidLooks := .later }
def FnExactFilterHasUptoCardSaid : Prop := Claim7.holds Tryd.pinned (.plain (OpenSpec.upto fnExactFilterHasSpec)) fnExactFilterHasUptoCard

/-- THE SECOND FORM's CARD OF 'laws.FnExactFilterAny'. -/
def fnExactFilterAnyUptoCard : Claim7 := { stood := { row := fnExactFilterAnyUptoRow, standIns := [], harness := (true, "5ab1b5589c3ac965ad09c89354f58dc5c403738bac2dab6592d8effdac4d73d1"), looks := false }, kinds := [], alts := [], laidByText := true, laidKinds := [.data], laidTests := true, laidLooks := .later }
def FnExactFilterAnyUptoCardSaid : Prop := Claim7.holds Tryd.pinned (.plain (OpenSpec.upto fnExactFilterAnySpec)) fnExactFilterAnyUptoCard

/-- THE SECOND FORM's CARD OF 'laws.FnFilterHas'. -/
def fnFilterHasUptoCard : Claim7 := { stood := { row := fnFilterHasUptoRow, standIns := [], harness := (true, "5ab1b5589c3ac965ad09c89354f58dc5c403738bac2dab6592d8effdac4d73d1"), looks := false }, kinds := [], alts := [], laidByText := true, laidKinds := [.data], laidTests := true, laidLooks := .later }
def FnFilterHasUptoCardSaid : Prop := Claim7.holds Tryd.pinned (.plain (OpenSpec.upto fnFilterHasSpec)) fnFilterHasUptoCard

/-- THE SECOND FORM's CARD OF 'laws.FnFilterAny'. -/
def fnFilterAnyUptoCard : Claim7 := { stood := { row := fnFilterAnyUptoRow, standIns := [], harness := (true, "5ab1b5589c3ac965ad09c89354f58dc5c403738bac2dab6592d8effdac4d73d1"), looks := false }, kinds := [], alts := [], laidByText := true, laidKinds := [.data], laidTests := true, laidLooks := .later }
def FnFilterAnyUptoCardSaid : Prop := Claim7.holds Tryd.pinned (.plain (OpenSpec.upto fnFilterAnySpec)) fnFilterAnyUptoCard
end Rows
end Go.Proofs.YtcaejndpmagfaaaDoor

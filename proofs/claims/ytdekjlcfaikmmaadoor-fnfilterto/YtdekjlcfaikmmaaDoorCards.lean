/-
  DERIVED. GIVEN WITH THE SEED: THE CARDS: each row of YtdekjlcfaikmmaaDoorRows.lean that lists a variable, with what it lists TIED to the program's text (the seventh form; the later family's looks); each row that meets fmt, with fmt's text TOLD by the authors' own Lean function (tested against real Go, not proved from fmt's source: count such statements apart). THE CARD IS WHAT COUNTS. Prove the row's statement (the work); the ties are given (YtdekjlcfaikmmaaDoorTie.lean); close each card by the builder's one call (the guide's Derived/Test/ToyasCard.lean, 'card_holds'). Laid BY PROGRAM, IN A SANDBOX (cutbox-door.mjs). By AI agents, Wed Nov 11 2026. No macro, syntax, notation, axiom, sorry.
-/
import Derived.Test.YtdekjlcfaikmmaaDoorRows
import GoSem.ClaimSeven
namespace Go.Proofs.YtdekjlcfaikmmaaDoor
namespace Rows

/-- THE TIED CARD OF 'laws.FnExactSumOf'. -/
def fnExactSumOfCard : Claim7 := { stood := { row := fnExactSumOfRow, standIns := [], harness := (true, "3b432167531e7921b4916d3da86a324547142d58b1b915209da08608999deaaf"), looks := false }, kinds := [], alts := [], laidByText := true, laidKinds := [.data], laidTests := true, laidLooks := .later }
def FnExactSumOfCardSaid : Prop := Claim7.holds Tryd.pinned (.plain (OpenSpec.ofChange fnExactSumOfSpec)) fnExactSumOfCard

/-- THE TIED CARD OF 'laws.FnExactFilterTo'. -/
def fnExactFilterToCard : Claim7 := { stood := { row := fnExactFilterToRow, standIns := [], harness := (true, "3b432167531e7921b4916d3da86a324547142d58b1b915209da08608999deaaf"), looks := false }, kinds := [], alts := [], laidByText := true, laidKinds := [.data], laidTests := true, laidLooks := .later }
def FnExactFilterToCardSaid : Prop := Claim7.holds Tryd.pinned (.plain (OpenSpec.ofChange fnExactFilterToSpec)) fnExactFilterToCard

/-- THE TIED CARD OF 'laws.FnFilterTo'. -/
def fnFilterToCard : Claim7 := { stood := { row := fnFilterToRow, standIns := [], harness := (true, "3b432167531e7921b4916d3da86a324547142d58b1b915209da08608999deaaf"), looks := false }, kinds := [], alts := [], laidByText := true, laidKinds := [.data], laidTests := true, laidLooks := .later }
def FnFilterToCardSaid : Prop := Claim7.holds Tryd.pinned (.plain (OpenSpec.ofChange fnFilterToSpec)) fnFilterToCard

/-- THE SECOND FORM's CARD OF 'laws.FnExactSumOf'. -/
def fnExactSumOfUptoCard : Claim7 := { stood := { row := fnExactSumOfUptoRow, standIns := [], harness := (true, "3b432167531e7921b4916d3da86a324547142d58b1b915209da08608999deaaf"), looks := false }, kinds := [], alts := [], laidByText := true, laidKinds := [.data], laidTests := true, laidLooks := .later }
def FnExactSumOfUptoCardSaid : Prop := Claim7.holds Tryd.pinned (.plain (OpenSpec.upto fnExactSumOfSpec)) fnExactSumOfUptoCard

/-- THE SECOND FORM's CARD OF 'laws.FnExactFilterTo'. -/
def fnExactFilterToUptoCard : Claim7 := { stood := { row := fnExactFilterToUptoRow, standIns := [], harness := (true, "3b432167531e7921b4916d3da86a324547142d58b1b915209da08608999deaaf"), looks := false }, kinds := [], alts := [], laidByText := true, laidKinds := [.data], laidTests := true, laidLooks := .later }
def FnExactFilterToUptoCardSaid : Prop := Claim7.holds Tryd.pinned (.plain (OpenSpec.upto fnExactFilterToSpec)) fnExactFilterToUptoCard

/-- THE SECOND FORM's CARD OF 'laws.FnFilterTo'. -/
def fnFilterToUptoCard : Claim7 := { stood := { row := fnFilterToUptoRow, standIns := [], harness := (true, "3b432167531e7921b4916d3da86a324547142d58b1b915209da08608999deaaf"), looks := false }, kinds := [], alts := [], laidByText := true, laidKinds := [.data], laidTests := true, laidLooks := .later }
def FnFilterToUptoCardSaid : Prop := Claim7.holds Tryd.pinned (.plain (OpenSpec.upto fnFilterToSpec)) fnFilterToUptoCard
end Rows
end Go.Proofs.YtdekjlcfaikmmaaDoor

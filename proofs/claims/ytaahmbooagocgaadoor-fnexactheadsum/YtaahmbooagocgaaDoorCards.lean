/-
  DERIVED. GIVEN WITH THE SEED: THE CARDS: each row of YtaahmbooagocgaaDoorRows.lean that lists a variable, with what it lists TIED to the program's text (the seventh form; the later family's looks); each row that meets fmt, with fmt's text TOLD by the authors' own Lean function (tested against real Go, not proved from fmt's source: count such statements apart). THE CARD IS WHAT COUNTS. Prove the row's statement (the work); the ties are given (YtaahmbooagocgaaDoorTie.lean); close each card by the builder's one call (the guide's Derived/Test/ToyasCard.lean, 'card_holds'). Laid BY PROGRAM, IN A SANDBOX (cutbox-door.mjs). By AI agents, Wed Nov 11 2026. No macro, syntax, notation, axiom, sorry.
-/
import Derived.Test.YtaahmbooagocgaaDoorRows
import GoSem.ClaimSeven
namespace Go.Proofs.YtaahmbooagocgaaDoor
namespace Rows

/-- THE TIED CARD OF 'laws.FnExactSampleAt'. -/
def fnExactSampleAtCard : Claim7 := { stood := { row := fnExactSampleAtRow, standIns := [], harness := (true, "4fc8d79e93d8e043c7d0ea905fb87f2db36382f7891d593414fe249eb365a0db"), looks := false }, kinds := [], alts := [], laidByText := true, laidKinds := [.data, .data, .data, .data], laidTests := true, laidLooks := .later }
def FnExactSampleAtCardSaid : Prop := Claim7.holds Tryd.pinned (.plain (OpenSpec.ofChange fnExactSampleAtSpec)) fnExactSampleAtCard

/-- THE TIED CARD OF 'laws.FnSampleAt'. -/
def fnSampleAtCard : Claim7 := { stood := { row := fnSampleAtRow, standIns := [], harness := (true, "4fc8d79e93d8e043c7d0ea905fb87f2db36382f7891d593414fe249eb365a0db"), looks := false }, kinds := [], alts := [], laidByText := true, laidKinds := [.data, .data, .data, .data], laidTests := true, laidLooks := .later }
def FnSampleAtCardSaid : Prop := Claim7.holds Tryd.pinned (.plain (OpenSpec.ofChange fnSampleAtSpec)) fnSampleAtCard

/-- THE TIED CARD OF 'laws.FnExactHeadPut'. -/
def fnExactHeadPutCard : Claim7 := { stood := { row := fnExactHeadPutRow, standIns := [], harness := (true, "4fc8d79e93d8e043c7d0ea905fb87f2db36382f7891d593414fe249eb365a0db"), looks := false }, kinds := [], alts := [], laidByText := true, laidKinds := [.data, .data, .data], laidTests := true, laidLooks := .later }
def FnExactHeadPutCardSaid : Prop := Claim7.holds Tryd.pinned (.plain (OpenSpec.ofChange fnExactHeadPutSpec)) fnExactHeadPutCard

/-- THE TIED CARD OF 'laws.FnExactHeadSum'. -/
def fnExactHeadSumCard : Claim7 := { stood := { row := fnExactHeadSumRow, standIns := [], harness := (true, "4fc8d79e93d8e043c7d0ea905fb87f2db36382f7891d593414fe249eb365a0db"), looks := false }, kinds := [], alts := [], laidByText := true, laidKinds := [.data, .data, .data, .data], laidTests := true, laidLooks := .later }
def FnExactHeadSumCardSaid : Prop := Claim7.holds Tryd.pinned (.plain (OpenSpec.ofChange fnExactHeadSumSpec)) fnExactHeadSumCard

/-- THE SECOND FORM's CARD OF 'laws.FnExactSampleAt'. -/
def fnExactSampleAtUptoCard : Claim7 := { stood := { row := fnExactSampleAtUptoRow, standIns := [], harness := (true, "4fc8d79e93d8e043c7d0ea905fb87f2db36382f7891d593414fe249eb365a0db"), looks := false }, kinds := [], alts := [], laidByText := true, laidKinds := [.data, .data, .data, .data], laidTests := true, laidLooks := .later }
def FnExactSampleAtUptoCardSaid : Prop := Claim7.holds Tryd.pinned (.plain (OpenSpec.upto fnExactSampleAtSpec)) fnExactSampleAtUptoCard

/-- THE SECOND FORM's CARD OF 'laws.FnSampleAt'. -/
def fnSampleAtUptoCard : Claim7 := { stood := { row := fnSampleAtUptoRow, standIns := [], harness := (true, "4fc8d79e93d8e043c7d0ea905fb87f2db36382f7891d593414fe249eb365a0db"), looks := false }, kinds := [], alts := [], laidByText := true, laidKinds := [.data, .data, .data, .data], laidTests := true, laidLooks := .later }
def FnSampleAtUptoCardSaid : Prop := Claim7.holds Tryd.pinned (.plain (OpenSpec.upto fnSampleAtSpec)) fnSampleAtUptoCard

/-- THE SECOND FORM's CARD OF 'laws.FnExactHeadPut'. -/
def fnExactHeadPutUptoCard : Claim7 := { stood := { row := fnExactHeadPutUptoRow, standIns := [], harness := (true, "4fc8d79e93d8e043c7d0ea905fb87f2db36382f7891d593414fe249eb365a0db"), looks := false }, kinds := [], alts := [], laidByText := true, laidKinds := [.data, .data, .data], laidTests := true, laidLooks := .later }
def FnExactHeadPutUptoCardSaid : Prop := Claim7.holds Tryd.pinned (.plain (OpenSpec.upto fnExactHeadPutSpec)) fnExactHeadPutUptoCard

/-- THE SECOND FORM's CARD OF 'laws.FnExactHeadSum'. -/
def fnExactHeadSumUptoCard : Claim7 := { stood := { row := fnExactHeadSumUptoRow, standIns := [], harness := (true, "4fc8d79e93d8e043c7d0ea905fb87f2db36382f7891d593414fe249eb365a0db"), looks := false }, kinds := [], alts := [], laidByText := true, laidKinds := [.data, .data, .data, .data], laidTests := true, laidLooks := .later }
def FnExactHeadSumUptoCardSaid : Prop := Claim7.holds Tryd.pinned (.plain (OpenSpec.upto fnExactHeadSumSpec)) fnExactHeadSumUptoCard
end Rows
end Go.Proofs.YtaahmbooagocgaaDoor

/-
  DERIVED. GIVEN WITH THE SEED: THE CARDS: each row of YtoojimfimlpplaaDoorRows.lean that lists a variable, with what it lists TIED to the program's text (the seventh form; the later family's looks); each row that meets fmt, with fmt's text TOLD by the authors' own Lean function (tested against real Go, not proved from fmt's source: count such statements apart). THE CARD IS WHAT COUNTS. Prove the row's statement (the work); the ties are given (YtoojimfimlpplaaDoorTie.lean); close each card by the builder's one call (the guide's Derived/Test/ToyasCard.lean, 'card_holds'). Laid BY PROGRAM, IN A SANDBOX (cutbox-door.mjs). By AI agents, Wed Nov 11 2026. No macro, syntax, notation, axiom, sorry.
-/
import Derived.Test.YtoojimfimlpplaaDoorRows
import GoSem.ClaimSeven
namespace Go.Proofs.YtoojimfimlpplaaDoor
namespace Rows

/-- THE TIED CARD OF 'laws.FnExactPrefixOf'. -/
def fnExactPrefixOfCard : Claim7 := { stood := { row := fnExactPrefixOfRow, standIns := [], harness := (true, "1e680152f8032679ae07580d031c5a978b61ac0b62ec0ff62bbf47759ffabd85"), looks := false }, kinds := [], alts := [], laidByText := true, laidKinds := [.data, .data, .data, .data], laidTests := true, laidLooks := .later }
def FnExactPrefixOfCardSaid : Prop := Claim7.holds Tryd.pinned (.plain (OpenSpec.ofChange fnExactPrefixOfSpec)) fnExactPrefixOfCard

/-- THE TIED CARD OF 'laws.FnExactPrefixCheck'. -/
def fnExactPrefixCheckCard : Claim7 := { stood := { row := fnExactPrefixCheckRow, standIns := [], harness := (true, "1e680152f8032679ae07580d031c5a978b61ac0b62ec0ff62bbf47759ffabd85"), looks := false }, kinds := [], alts := [], laidByText := true, laidKinds := [.data, .data, .data, .data], laidTests := true, laidLooks := .later }
def FnExactPrefixCheckCardSaid : Prop := Claim7.holds Tryd.pinned (.plain (OpenSpec.ofChange fnExactPrefixCheckSpec)) fnExactPrefixCheckCard

/-- THE SECOND FORM's CARD OF 'laws.FnExactPrefixOf'. -/
def fnExactPrefixOfUptoCard : Claim7 := { stood := { row := fnExactPrefixOfUptoRow, standIns := [], harness := (true, "1e680152f8032679ae07580d031c5a978b61ac0b62ec0ff62bbf47759ffabd85"), looks := false }, kinds := [], alts := [], laidByText := true, laidKinds := [.data, .data, .data, .data], laidTests := true, laidLooks := .later }
def FnExactPrefixOfUptoCardSaid : Prop := Claim7.holds Tryd.pinned (.plain (OpenSpec.upto fnExactPrefixOfSpec)) fnExactPrefixOfUptoCard

/-- THE SECOND FORM's CARD OF 'laws.FnExactPrefixCheck'. -/
def fnExactPrefixCheckUptoCard : Claim7 := { stood := { row := fnExactPrefixCheckUptoRow, standIns := [], harness := (true, "1e680152f8032679ae07580d031c5a978b61ac0b62ec0ff62bbf47759ffabd85"), looks := false }, kinds := [], alts := [], laidByText := true, laidKinds := [.data, .data, .data, .data], laidTests := true, laidLooks := .later }
def FnExactPrefixCheckUptoCardSaid : Prop := Claim7.holds Tryd.pinned (.plain (OpenSpec.upto fnExactPrefixCheckSpec)) fnExactPrefixCheckUptoCard
end Rows
end Go.Proofs.YtoojimfimlpplaaDoor

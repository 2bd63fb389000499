/-
  DERIVED. GIVEN WITH THE SEED: THE CARDS: each row of YtnooadfgoccegaaDoorRows.lean that lists a variable, with what it lists TIED to the program's text (the seventh form; the later family's looks); each row that meets fmt, with fmt's text TOLD by the authors' own Lean function (tested against real Go, not proved from fmt's source: count such statements apart). THE CARD IS WHAT COUNTS. Prove the row's statement (the work); the ties are given (YtnooadfgoccegaaDoorTie.lean); close each card by the builder's one call (the guide's Derived/Test/ToyasCard.lean, 'card_holds'). Laid BY PROGRAM, IN A SANDBOX (cutbox-door.mjs). By AI agents, Wed Nov 11 2026. No macro, syntax, notation, axiom, sorry.
-/
import Derived.Test.YtnooadfgoccegaaDoorRows
import GoSem.ClaimSeven
namespace Go.Proofs.YtnooadfgoccegaaDoor
namespace Rows

/-- THE TIED CARD OF 'laws.FnExactRootProof'. -/
def fnExactRootProofCard : Claim7 := { stood := { row := fnExactRootProofRow, standIns := [], harness := (true, "a3aacbff2d3b744a3aabe46ad5c7193edd4ccfca33b0abca5a9e67bd151b9460"), looks := false }, kinds := [], alts := [], laidByText := true, laidKinds := [.data], laidTests := true, laidLooks := .later }
def FnExactRootProofCardSaid : Prop := Claim7.holds Tryd.pinned (.plain (OpenSpec.ofChange fnExactRootProofSpec)) fnExactRootProofCard

/-- THE SECOND FORM's CARD OF 'laws.FnExactRootProof'. -/
def fnExactRootProofUptoCard : Claim7 := { stood := { row := fnExactRootProofUptoRow, standIns := [], harness := (true, "a3aacbff2d3b744a3aabe46ad5c7193edd4ccfca33b0abca5a9e67bd151b9460"), looks := false }, kinds := [], alts := [], laidByText := true, laidKinds := [.data], laidTests := true, laidLooks := .later }
def FnExactRootProofUptoCardSaid : Prop := Claim7.holds Tryd.pinned (.plain (OpenSpec.upto fnExactRootProofSpec)) fnExactRootProofUptoCard
end Rows
end Go.Proofs.YtnooadfgoccegaaDoor

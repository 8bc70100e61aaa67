/-
  DERIVED. GIVEN WITH THE SEED: THE CARDS: each row of YtpoanbpgpgflcaaDoorRows.lean that lists a variable, with what it lists TIED to the program's text (the seventh form; the later family's looks); each row that meets fmt, with fmt's text TOLD by the authors' own Lean function (tested against real Go, not proved from fmt's source: count such statements apart). THE CARD IS WHAT COUNTS. Prove the row's statement (the work); the ties are given (YtpoanbpgpgflcaaDoorTie.lean); close each card by the builder's one call (the guide's Derived/Test/ToyasCard.lean, 'card_holds'). Laid BY PROGRAM, IN A SANDBOX (cutbox-door.mjs). By AI agents, Wed Nov 11 2026. No macro, syntax, notation, axiom, sorry.
-/
import Derived.Test.YtpoanbpgpgflcaaDoorRows
import GoSem.ClaimSeven
namespace Go.Proofs.YtpoanbpgpgflcaaDoor
namespace Rows

/-- THE TIED CARD OF 'laws.FnExactBuildGraph'. -/
def fnExactBuildGraphCard : Claim7 := { stood := { row := fnExactBuildGraphRow, standIns := [], harness := (true, "bd8a4ee301dac4960ddc4812dbf9ec6227bcdf402d8ff066305bd7cb8a516152"), looks := false }, kinds := [], alts := [], laidByText := true, laidKinds := [.data, .data, .pinned], laidTests := true, laidLooks := .later }
def FnExactBuildGraphCardSaid : Prop := Claim7.holds Tryd.pinned (.plain (OpenSpec.ofChange fnExactBuildGraphSpec)) fnExactBuildGraphCard

/-- THE SECOND FORM's CARD OF 'laws.FnExactBuildGraph'. -/
def fnExactBuildGraphUptoCard : Claim7 := { stood := { row := fnExactBuildGraphUptoRow, standIns := [], harness := (true, "bd8a4ee301dac4960ddc4812dbf9ec6227bcdf402d8ff066305bd7cb8a516152"), looks := false }, kinds := [], alts := [], laidByText := true, laidKinds := [.data, .data, .pinned], laidTests := true, laidLooks := .later }
def FnExactBuildGraphUptoCardSaid : Prop := Claim7.holds Tryd.pinned (.plain (OpenSpec.upto fnExactBuildGraphSpec)) fnExactBuildGraphUptoCard
end Rows
end Go.Proofs.YtpoanbpgpgflcaaDoor

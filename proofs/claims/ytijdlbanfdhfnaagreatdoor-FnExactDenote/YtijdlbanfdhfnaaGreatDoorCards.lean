/-
  DERIVED. GIVEN WITH THE SEED: THE CARDS: each row of YtijdlbanfdhfnaaGreatDoorRows.lean that lists a variable, with what it lists TIED to the program's text (the seventh form; the later family's looks); each row that meets fmt, with fmt's text TOLD by the authors' own Lean function (tested against real Go, not proved from fmt's source: count such statements apart). THE CARD IS WHAT COUNTS. Prove the row's statement (the work); the ties are given (YtijdlbanfdhfnaaGreatDoorTie.lean); close each card by the builder's one call (the guide's Derived/Test/ToyasCard.lean, 'card_holds'). Laid BY PROGRAM, IN A SANDBOX (cutbox-door.mjs). By AI agents, Wed Nov 11 2026. No macro, syntax, notation, axiom, sorry.
-/
import Derived.Test.YtijdlbanfdhfnaaGreatDoorRows
import GoSem.ClaimSeven
namespace Go.Proofs.YtijdlbanfdhfnaaGreatDoor
namespace Rows

/-- THE TIED CARD OF 'laws.FnExactDenote'. -/
def fnExactDenoteCard : Claim7 := { stood := { row := fnExactDenoteRow, standIns := [], harness := (true, "3dc04750639ce49c6d106f685f41f80fdb65ed9053a0c9cc26786d97a19973eb"), looks := false }, kinds := [], alts := [], laidByText := true, laidKinds := [.data, .data, .pinned], laidTests := true, laidLooks := .later }
def FnExactDenoteCardSaid : Prop := Claim7.holds Tryz.pinned (.plain (OpenSpec.ofChange fnExactDenoteSpec)) fnExactDenoteCard

/-- THE SECOND FORM's CARD OF 'laws.FnExactDenote'. -/
def fnExactDenoteUptoCard : Claim7 := { stood := { row := fnExactDenoteUptoRow, standIns := [], harness := (true, "3dc04750639ce49c6d106f685f41f80fdb65ed9053a0c9cc26786d97a19973eb"), looks := false }, kinds := [], alts := [], laidByText := true, laidKinds := [.data, .data, .pinned], laidTests := true, laidLooks := .later }
def FnExactDenoteUptoCardSaid : Prop := Claim7.holds Tryz.pinned (.plain (OpenSpec.upto fnExactDenoteSpec)) fnExactDenoteUptoCard
end Rows
end Go.Proofs.YtijdlbanfdhfnaaGreatDoor

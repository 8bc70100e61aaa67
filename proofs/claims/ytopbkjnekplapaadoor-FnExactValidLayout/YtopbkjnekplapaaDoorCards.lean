/-
  DERIVED. GIVEN WITH THE SEED: THE CARDS: each row of YtopbkjnekplapaaDoorRows.lean that lists a variable, with what it lists TIED to the program's text (the seventh form; the later family's looks); each row that meets fmt, with fmt's text TOLD by the authors' own Lean function (tested against real Go, not proved from fmt's source: count such statements apart). THE CARD IS WHAT COUNTS. Prove the row's statement (the work); the ties are given (YtopbkjnekplapaaDoorTie.lean); close each card by the builder's one call (the guide's Derived/Test/ToyasCard.lean, 'card_holds'). Laid BY PROGRAM, IN A SANDBOX (cutbox-door.mjs). By AI agents, Wed Nov 11 2026. No macro, syntax, notation, axiom, sorry.
-/
import Derived.Test.YtopbkjnekplapaaDoorRows
import GoSem.ClaimSeven
namespace Go.Proofs.YtopbkjnekplapaaDoor
namespace Rows

/-- THE TIED CARD OF 'laws.FnExactValidLayout'. -/
def fnExactValidLayoutCard : Claim7 := { stood := { row := fnExactValidLayoutRow, standIns := [], harness := (true, "2db3591109f5fc4d5f81892843403462823d494d5aecf47cebd404df9141c904"), looks := false }, kinds := [], alts := [], laidByText := true, laidKinds := [.data, .data, .pinned], laidTests := true, laidLooks := .later }
def FnExactValidLayoutCardSaid : Prop := Claim7.holds Tryd.pinned (.plain (OpenSpec.ofChange fnExactValidLayoutSpec)) fnExactValidLayoutCard

/-- THE SECOND FORM's CARD OF 'laws.FnExactValidLayout'. -/
def fnExactValidLayoutUptoCard : Claim7 := { stood := { row := fnExactValidLayoutUptoRow, standIns := [], harness := (true, "2db3591109f5fc4d5f81892843403462823d494d5aecf47cebd404df9141c904"), looks := false }, kinds := [], alts := [], laidByText := true, laidKinds := [.data, .data, .pinned], laidTests := true, laidLooks := .later }
def FnExactValidLayoutUptoCardSaid : Prop := Claim7.holds Tryd.pinned (.plain (OpenSpec.upto fnExactValidLayoutSpec)) fnExactValidLayoutUptoCard
end Rows
end Go.Proofs.YtopbkjnekplapaaDoor

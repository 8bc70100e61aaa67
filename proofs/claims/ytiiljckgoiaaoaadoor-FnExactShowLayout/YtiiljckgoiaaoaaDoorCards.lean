/-
  DERIVED. GIVEN WITH THE SEED: THE CARDS: each row of YtiiljckgoiaaoaaDoorRows.lean that lists a variable, with what it lists TIED to the program's text (the seventh form; the later family's looks); each row that meets fmt, with fmt's text TOLD by the authors' own Lean function (tested against real Go, not proved from fmt's source: count such statements apart). THE CARD IS WHAT COUNTS. Prove the row's statement (the work); the ties are given (YtiiljckgoiaaoaaDoorTie.lean); close each card by the builder's one call (the guide's Derived/Test/ToyasCard.lean, 'card_holds'). Laid BY PROGRAM, IN A SANDBOX (cutbox-door.mjs). By AI agents, Wed Nov 11 2026. No macro, syntax, notation, axiom, sorry.
-/
import Derived.Test.YtiiljckgoiaaoaaDoorRows
import GoSem.ClaimSeven
namespace Go.Proofs.YtiiljckgoiaaoaaDoor
namespace Rows

/-- THE TIED CARD OF 'laws.FnExactShowLayout'. -/
def fnExactShowLayoutCard : Claim7 := { stood := { row := fnExactShowLayoutRow, standIns := [], harness := (true, "bc9d6c7dec6d122188baa8cb8304560261aca52d58af29bdf655dd4df64da3ba"), looks := false }, kinds := [], alts := [], laidByText := true, laidKinds := [.data, .data, .data, .data, .data, .data, .pinned], laidTests := true, laidLooks := .later }
def FnExactShowLayoutCardSaid : Prop := Claim7.holds Tryd.pinned (.plain (OpenSpec.ofChange fnExactShowLayoutSpec)) fnExactShowLayoutCard

/-- THE TIED CARD OF 'laws.FnExactLayoutDecls'. -/
def fnExactLayoutDeclsCard : Claim7 := { stood := { row := fnExactLayoutDeclsRow, standIns := [], harness := (true, "bc9d6c7dec6d122188baa8cb8304560261aca52d58af29bdf655dd4df64da3ba"), looks := false }, kinds := [], alts := [], laidByText := true, laidKinds := [.data, .data, .pinned], laidTests := true, laidLooks := .later }
def FnExactLayoutDeclsCardSaid : Prop := Claim7.holds Tryd.pinned (.plain (OpenSpec.ofChange fnExactLayoutDeclsSpec)) fnExactLayoutDeclsCard

/-- THE SECOND FORM's CARD OF 'laws.FnExactShowLayout'. -/
def fnExactShowLayoutUptoCard : Claim7 := { stood := { row := fnExactShowLayoutUptoRow, standIns := [], harness := (true, "bc9d6c7dec6d122188baa8cb8304560261aca52d58af29bdf655dd4df64da3ba"), looks := false }, kinds := [], alts := [], laidByText := true, laidKinds := [.data, .data, .data, .data, .data, .data, .pinned], laidTests := true, laidLooks := .later }
def FnExactShowLayoutUptoCardSaid : Prop := Claim7.holds Tryd.pinned (.plain (OpenSpec.upto fnExactShowLayoutSpec)) fnExactShowLayoutUptoCard

/-- THE SECOND FORM's CARD OF 'laws.FnExactLayoutDecls'. -/
def fnExactLayoutDeclsUptoCard : Claim7 := { stood := { row := fnExactLayoutDeclsUptoRow, standIns := [], harness := (true, "bc9d6c7dec6d122188baa8cb8304560261aca52d58af29bdf655dd4df64da3ba"), looks := false }, kinds := [], alts := [], laidByText := true, laidKinds := [.data, .data, .pinned], laidTests := true, laidLooks := .later }
def FnExactLayoutDeclsUptoCardSaid : Prop := Claim7.holds Tryd.pinned (.plain (OpenSpec.upto fnExactLayoutDeclsSpec)) fnExactLayoutDeclsUptoCard
end Rows
end Go.Proofs.YtiiljckgoiaaoaaDoor

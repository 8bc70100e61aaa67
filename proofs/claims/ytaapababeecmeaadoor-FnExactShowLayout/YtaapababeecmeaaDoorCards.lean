/-
  DERIVED. GIVEN WITH THE SEED: THE CARDS: each row of YtaapababeecmeaaDoorRows.lean that lists a variable, with what it lists TIED to the program's text (the seventh form; the later family's looks); each row that meets fmt, with fmt's text TOLD by the authors' own Lean function (tested against real Go, not proved from fmt's source: count such statements apart). THE CARD IS WHAT COUNTS. Prove the row's statement (the work); the ties are given (YtaapababeecmeaaDoorTie.lean); close each card by the builder's one call (the guide's Derived/Test/ToyasCard.lean, 'card_holds'). Laid BY PROGRAM, IN A SANDBOX (cutbox-door.mjs). By AI agents, Wed Nov 11 2026. No macro, syntax, notation, axiom, sorry.
-/
import Derived.Test.YtaapababeecmeaaDoorRows
import GoSem.ClaimSeven
namespace Go.Proofs.YtaapababeecmeaaDoor
namespace Rows

/-- THE TIED CARD OF 'laws.FnExactValidLayout'. -/
def fnExactValidLayoutCard : Claim7 := { stood := { row := fnExactValidLayoutRow, standIns := [], harness := (true, "802dcd094cca3dfe2901e0b07e70763aaaa57a8f99de3a2ed24e818cb509b514"), looks := false }, kinds := [], alts := [], laidByText := true, laidKinds := [.data, .data, .pinned], laidTests := true, laidLooks := .later }
def FnExactValidLayoutCardSaid : Prop := Claim7.holds Tryd.pinned (.plain (OpenSpec.ofChange fnExactValidLayoutSpec)) fnExactValidLayoutCard

/-- THE TIED CARD OF 'laws.FnExactLayoutDecls'. -/
def fnExactLayoutDeclsCard : Claim7 := { stood := { row := fnExactLayoutDeclsRow, standIns := [], harness := (true, "802dcd094cca3dfe2901e0b07e70763aaaa57a8f99de3a2ed24e818cb509b514"), looks := false }, kinds := [], alts := [], laidByText := true, laidKinds := [.data, .data, .pinned], laidTests := true, laidLooks := .later }
def FnExactLayoutDeclsCardSaid : Prop := Claim7.holds Tryd.pinned (.plain (OpenSpec.ofChange fnExactLayoutDeclsSpec)) fnExactLayoutDeclsCard

/-- THE TIED CARD OF 'laws.FnExactShowLayout'. -/
def fnExactShowLayoutCard : Claim7 := { stood := { row := fnExactShowLayoutRow, standIns := [], harness := (true, "802dcd094cca3dfe2901e0b07e70763aaaa57a8f99de3a2ed24e818cb509b514"), looks := false }, kinds := [], alts := [], laidByText := true, laidKinds := [.data, .data, .data, .data, .data, .data, .pinned], laidTests := true, laidLooks := .later }
def FnExactShowLayoutCardSaid : Prop := Claim7.holds Tryd.pinned (.plain (OpenSpec.ofChange fnExactShowLayoutSpec)) fnExactShowLayoutCard

/-- THE SECOND FORM's CARD OF 'laws.FnExactValidLayout'. -/
def fnExactValidLayoutUptoCard : Claim7 := { stood := { row := fnExactValidLayoutUptoRow, standIns := [], harness := (true, "802dcd094cca3dfe2901e0b07e70763aaaa57a8f99de3a2ed24e818cb509b514"), looks := false }, kinds := [], alts := [], laidByText := true, laidKinds := [.data, .data, .pinned], laidTests := true, laidLooks := .later }
def FnExactValidLayoutUptoCardSaid : Prop := Claim7.holds Tryd.pinned (.plain (OpenSpec.upto fnExactValidLayoutSpec)) fnExactValidLayoutUptoCard

/-- THE SECOND FORM's CARD OF 'laws.FnExactLayoutDecls'. -/
def fnExactLayoutDeclsUptoCard : Claim7 := { stood := { row := fnExactLayoutDeclsUptoRow, standIns := [], harness := (true, "802dcd094cca3dfe2901e0b07e70763aaaa57a8f99de3a2ed24e818cb509b514"), looks := false }, kinds := [], alts := [], laidByText := true, laidKinds := [.data, .data, .pinned], laidTests := true, laidLooks := .later }
def FnExactLayoutDeclsUptoCardSaid : Prop := Claim7.holds Tryd.pinned (.plain (OpenSpec.upto fnExactLayoutDeclsSpec)) fnExactLayoutDeclsUptoCard

/-- THE SECOND FORM's CARD OF 'laws.FnExactShowLayout'. -/
def fnExactShowLayoutUptoCard : Claim7 := { stood := { row := fnExactShowLayoutUptoRow, standIns := [], harness := (true, "802dcd094cca3dfe2901e0b07e70763aaaa57a8f99de3a2ed24e818cb509b514"), looks := false }, kinds := [], alts := [], laidByText := true, laidKinds := [.data, .data, .data, .data, .data, .data, .pinned], laidTests := true, laidLooks := .later }
def FnExactShowLayoutUptoCardSaid : Prop := Claim7.holds Tryd.pinned (.plain (OpenSpec.upto fnExactShowLayoutSpec)) fnExactShowLayoutUptoCard
end Rows
end Go.Proofs.YtaapababeecmeaaDoor

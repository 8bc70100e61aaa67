/-
  DERIVED. GIVEN WITH THE SEED: THE CARDS: each row of YtncckdbjlkalmaaDoorRows.lean that lists a variable, with what it lists TIED to the program's text (the seventh form; the later family's looks); each row that meets fmt, with fmt's text TOLD by the authors' own Lean function (tested against real Go, not proved from fmt's source: count such statements apart). THE CARD IS WHAT COUNTS. Prove the row's statement (the work); the ties are given (YtncckdbjlkalmaaDoorTie.lean); close each card by the builder's one call (the guide's Derived/Test/ToyasCard.lean, 'card_holds'). Laid BY PROGRAM, IN A SANDBOX (cutbox-door.mjs). By AI agents, Wed Nov 11 2026. No macro, syntax, notation, axiom, sorry.
-/
import Derived.Test.YtncckdbjlkalmaaDoorRows
import GoSem.ClaimSeven
namespace Go.Proofs.YtncckdbjlkalmaaDoor
namespace Rows

/-- THE TIED CARD OF 'laws.FnExactValidTables'. -/
def fnExactValidTablesCard : Claim7 := { stood := { row := fnExactValidTablesRow, standIns := [], harness := (true, "dc661a530a8e0383fed934d7451e5e72ba0ab59fe5934f90daff715afee19d52"), looks := false }, kinds := [], alts := [], laidByText := true, laidKinds := [.data, .data, .pinned], laidTests := true, laidLooks := .later }
def FnExactValidTablesCardSaid : Prop := Claim7.holds Tryd.pinned (.plain (OpenSpec.ofChange fnExactValidTablesSpec)) fnExactValidTablesCard

/-- THE TIED CARD OF 'laws.FnExactNearest'. -/
def fnExactNearestCard : Claim7 := { stood := { row := fnExactNearestRow, standIns := [], harness := (true, "dc661a530a8e0383fed934d7451e5e72ba0ab59fe5934f90daff715afee19d52"), looks := false }, kinds := [], alts := [], laidByText := true, laidKinds := [.data, .data, .pinned], laidTests := true, laidLooks := .later }
def FnExactNearestCardSaid : Prop := Claim7.holds Tryd.pinned (.plain (OpenSpec.ofChange fnExactNearestSpec)) fnExactNearestCard

/-- THE SECOND FORM's CARD OF 'laws.FnExactValidTables'. -/
def fnExactValidTablesUptoCard : Claim7 := { stood := { row := fnExactValidTablesUptoRow, standIns := [], harness := (true, "dc661a530a8e0383fed934d7451e5e72ba0ab59fe5934f90daff715afee19d52"), looks := false }, kinds := [], alts := [], laidByText := true, laidKinds := [.data, .data, .pinned], laidTests := true, laidLooks := .later }
def FnExactValidTablesUptoCardSaid : Prop := Claim7.holds Tryd.pinned (.plain (OpenSpec.upto fnExactValidTablesSpec)) fnExactValidTablesUptoCard

/-- THE SECOND FORM's CARD OF 'laws.FnExactNearest'. -/
def fnExactNearestUptoCard : Claim7 := { stood := { row := fnExactNearestUptoRow, standIns := [], harness := (true, "dc661a530a8e0383fed934d7451e5e72ba0ab59fe5934f90daff715afee19d52"), looks := false }, kinds := [], alts := [], laidByText := true, laidKinds := [.data, .data, .pinned], laidTests := true, laidLooks := .later }
def FnExactNearestUptoCardSaid : Prop := Claim7.holds Tryd.pinned (.plain (OpenSpec.upto fnExactNearestSpec)) fnExactNearestUptoCard
end Rows
end Go.Proofs.YtncckdbjlkalmaaDoor

/-
  DERIVED. GIVEN WITH THE SEED: THE CARDS: each row of YteicpjbeihabnaaDoorRows.lean that lists a variable, with what it lists TIED to the program's text (the seventh form; the later family's looks); each row that meets fmt, with fmt's text TOLD by the authors' own Lean function (tested against real Go, not proved from fmt's source: count such statements apart). THE CARD IS WHAT COUNTS. Prove the row's statement (the work); the ties are given (YteicpjbeihabnaaDoorTie.lean); close each card by the builder's one call (the guide's Derived/Test/ToyasCard.lean, 'card_holds'). Laid BY PROGRAM, IN A SANDBOX (cutbox-door.mjs). By AI agents, Wed Nov 11 2026. No macro, syntax, notation, axiom, sorry.
-/
import Derived.Test.YteicpjbeihabnaaDoorRows
import GoSem.ClaimSeven
namespace Go.Proofs.YteicpjbeihabnaaDoor
namespace Rows

/-- THE TIED CARD OF 'laws.FnExactFindTarget'. -/
def fnExactFindTargetCard : Claim7 := { stood := { row := fnExactFindTargetRow, standIns := [], harness := (true, "35d8062c78ec0834d60de585662fe5db194bd7aef8297a898aff4365821a3d54"), looks := false }, kinds := [], alts := [], laidByText := true, laidKinds := [.data, .data, .pinned], laidTests := true, laidLooks := .later }
def FnExactFindTargetCardSaid : Prop := Claim7.holds Tryd.pinned (.plain (OpenSpec.ofChange fnExactFindTargetSpec)) fnExactFindTargetCard

/-- THE TIED CARD OF 'laws.FnExactNext'. -/
def fnExactNextCard : Claim7 := { stood := { row := fnExactNextRow, standIns := [], harness := (true, "35d8062c78ec0834d60de585662fe5db194bd7aef8297a898aff4365821a3d54"), looks := false }, kinds := [], alts := [], laidByText := true, laidKinds := [.data, .data, .pinned], laidTests := true, laidLooks := .later }
def FnExactNextCardSaid : Prop := Claim7.holds Tryd.pinned (.plain (OpenSpec.ofChange fnExactNextSpec)) fnExactNextCard

/-- THE TIED CARD OF 'laws.FnExactWalk'. -/
def fnExactWalkCard : Claim7 := { stood := { row := fnExactWalkRow, standIns := [], harness := (true, "35d8062c78ec0834d60de585662fe5db194bd7aef8297a898aff4365821a3d54"), looks := false }, kinds := [], alts := [], laidByText := true, laidKinds := [.data, .data, .pinned], laidTests := true, laidLooks := .later }
def FnExactWalkCardSaid : Prop := Claim7.holds Tryd.pinned (.plain (OpenSpec.ofChange fnExactWalkSpec)) fnExactWalkCard

/-- THE TIED CARD OF 'laws.FnExactValidFleet'. -/
def fnExactValidFleetCard : Claim7 := { stood := { row := fnExactValidFleetRow, standIns := [], harness := (true, "35d8062c78ec0834d60de585662fe5db194bd7aef8297a898aff4365821a3d54"), looks := false }, kinds := [], alts := [], laidByText := true, laidKinds := [.data, .data, .pinned], laidTests := true, laidLooks := .later }
def FnExactValidFleetCardSaid : Prop := Claim7.holds Tryd.pinned (.plain (OpenSpec.ofChange fnExactValidFleetSpec)) fnExactValidFleetCard

/-- THE TIED CARD OF 'laws.FnExactTickFleet'. -/
def fnExactTickFleetCard : Claim7 := { stood := { row := fnExactTickFleetRow, standIns := [], harness := (true, "35d8062c78ec0834d60de585662fe5db194bd7aef8297a898aff4365821a3d54"), looks := false }, kinds := [], alts := [], laidByText := true, laidKinds := [.data, .data, .pinned], laidTests := true, laidLooks := .later }
def FnExactTickFleetCardSaid : Prop := Claim7.holds Tryd.pinned (.plain (OpenSpec.ofChange fnExactTickFleetSpec)) fnExactTickFleetCard

/-- THE TIED CARD OF 'laws.FnExactRunFleet'. -/
def fnExactRunFleetCard : Claim7 := { stood := { row := fnExactRunFleetRow, standIns := [], harness := (true, "35d8062c78ec0834d60de585662fe5db194bd7aef8297a898aff4365821a3d54"), looks := false }, kinds := [], alts := [], laidByText := true, laidKinds := [.data, .data, .pinned], laidTests := true, laidLooks := .later }
def FnExactRunFleetCardSaid : Prop := Claim7.holds Tryd.pinned (.plain (OpenSpec.ofChange fnExactRunFleetSpec)) fnExactRunFleetCard

/-- THE SECOND FORM's CARD OF 'laws.FnExactFindTarget'. -/
def fnExactFindTargetUptoCard : Claim7 := { stood := { row := fnExactFindTargetUptoRow, standIns := [], harness := (true, "35d8062c78ec0834d60de585662fe5db194bd7aef8297a898aff4365821a3d54"), looks := false }, kinds := [], alts := [], laidByText := true, laidKinds := [.data, .data, .pinned], laidTests := true, laidLooks := .later }
def FnExactFindTargetUptoCardSaid : Prop := Claim7.holds Tryd.pinned (.plain (OpenSpec.upto fnExactFindTargetSpec)) fnExactFindTargetUptoCard

/-- THE SECOND FORM's CARD OF 'laws.FnExactNext'. -/
def fnExactNextUptoCard : Claim7 := { stood := { row := fnExactNextUptoRow, standIns := [], harness := (true, "35d8062c78ec0834d60de585662fe5db194bd7aef8297a898aff4365821a3d54"), looks := false }, kinds := [], alts := [], laidByText := true, laidKinds := [.data, .data, .pinned], laidTests := true, laidLooks := .later }
def FnExactNextUptoCardSaid : Prop := Claim7.holds Tryd.pinned (.plain (OpenSpec.upto fnExactNextSpec)) fnExactNextUptoCard

/-- THE SECOND FORM's CARD OF 'laws.FnExactWalk'. -/
def fnExactWalkUptoCard : Claim7 := { stood := { row := fnExactWalkUptoRow, standIns := [], harness := (true, "35d8062c78ec0834d60de585662fe5db194bd7aef8297a898aff4365821a3d54"), looks := false }, kinds := [], alts := [], laidByText := true, laidKinds := [.data, .data, .pinned], laidTests := true, laidLooks := .later }
def FnExactWalkUptoCardSaid : Prop := Claim7.holds Tryd.pinned (.plain (OpenSpec.upto fnExactWalkSpec)) fnExactWalkUptoCard

/-- THE SECOND FORM's CARD OF 'laws.FnExactValidFleet'. -/
def fnExactValidFleetUptoCard : Claim7 := { stood := { row := fnExactValidFleetUptoRow, standIns := [], harness := (true, "35d8062c78ec0834d60de585662fe5db194bd7aef8297a898aff4365821a3d54"), looks := false }, kinds := [], alts := [], laidByText := true, laidKinds := [.data, .data, .pinned], laidTests := true, laidLooks := .later }
def FnExactValidFleetUptoCardSaid : Prop := Claim7.holds Tryd.pinned (.plain (OpenSpec.upto fnExactValidFleetSpec)) fnExactValidFleetUptoCard

/-- THE SECOND FORM's CARD OF 'laws.FnExactTickFleet'. -/
def fnExactTickFleetUptoCard : Claim7 := { stood := { row := fnExactTickFleetUptoRow, standIns := [], harness := (true, "35d8062c78ec0834d60de585662fe5db194bd7aef8297a898aff4365821a3d54"), looks := false }, kinds := [], alts := [], laidByText := true, laidKinds := [.data, .data, .pinned], laidTests := true, laidLooks := .later }
def FnExactTickFleetUptoCardSaid : Prop := Claim7.holds Tryd.pinned (.plain (OpenSpec.upto fnExactTickFleetSpec)) fnExactTickFleetUptoCard

/-- THE SECOND FORM's CARD OF 'laws.FnExactRunFleet'. -/
def fnExactRunFleetUptoCard : Claim7 := { stood := { row := fnExactRunFleetUptoRow, standIns := [], harness := (true, "35d8062c78ec0834d60de585662fe5db194bd7aef8297a898aff4365821a3d54"), looks := false }, kinds := [], alts := [], laidByText := true, laidKinds := [.data, .data, .pinned], laidTests := true, laidLooks := .later }
def FnExactRunFleetUptoCardSaid : Prop := Claim7.holds Tryd.pinned (.plain (OpenSpec.upto fnExactRunFleetSpec)) fnExactRunFleetUptoCard
end Rows
end Go.Proofs.YteicpjbeihabnaaDoor

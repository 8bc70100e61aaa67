/-
  NARROWER THAN 'FOR EVERY INPUT', by the rows' own cells (each row's printed sentence says how): FnExactFindTarget: laid · FnExactNext: laid · FnExactWalk: laid · FnExactValidFleet: laid · FnExactTickFleet: laid · FnExactRunFleet: laid.
  DERIVED. THE GIVEN ROWS OF THIS SEAT. 6 by the template 'for every input the law returns true; each argument reads behind the call as it read before'; 0 by the template 'total and deterministic' (their statements: YteicpjbeihabnaaDoorTotals.lean).
  GIVEN WITH THE SEED: the statements are not yours to turn. If you find one false, say at which input.
  Laid BY PROGRAM, IN A SANDBOX (cutbox-rows.mjs): the forced cells as the released guide's own fill.sh prints them over the translation 98643a9261a7043f… (all of the seat's roots in one cut). By AI agents, Wed Nov 11 2026. No macro, syntax, notation, axiom, sorry.
-/
import Derived.Test.YteicpjbeihabnaaDoorChecked
import GoSem.PinnedTables
import GoSem.Claim
import GoSem.ClaimJoined
import GoSem.ClaimMapViews
import Derived.JoinedTies
import Derived.KernelRfl
namespace Go.Proofs.YteicpjbeihabnaaDoor
/- THE CELL 'sum', in the pinned program and in every row, IS THE sha256 OF THE DUMP (.gsa) THAT YteicpjbeihabnaaDoorProg.lean LOADS. Nothing in Lean hashes anything: it is a label: what it is worth is what the hold of that sum in a sandbox is worth. -/
noncomputable def Tryd.pinned : Pinned := { name := "yteicpjbeihabnaadoor", sum := "98643a9261a7043f7fa426451bd2eeecdb6ec0553a63e39b2afbd5e6f1ab030d", checked := Tryd.checked }
namespace Rows
def none {H : Type} : Left H := { results := [], args := [] }

/- WHAT THE LISTED PACKAGE-LEVEL VARIABLES READ AS WHEN THE CALL BEGINS. Each datum BY PROGRAM (the guide's laid-datum.mjs) off the statement by which the dump's own 'gosem.cut.vars' lays the variable. In a bare row this is a premise. The card (YteicpjbeihabnaaDoorCards.lean) ties it to the program's text. -/
def laid_unicode_utf8_acceptRanges {H : Type} : DataW H := .agg [.agg [.lit (.int .u8 128), .lit (.int .u8 191)], .agg [.lit (.int .u8 160), .lit (.int .u8 191)], .agg [.lit (.int .u8 128), .lit (.int .u8 159)], .agg [.lit (.int .u8 144), .lit (.int .u8 191)], .agg [.lit (.int .u8 128), .lit (.int .u8 143)], .agg [.lit (.int .u8 0), .lit (.int .u8 0)], .agg [.lit (.int .u8 0), .lit (.int .u8 0)], .agg [.lit (.int .u8 0), .lit (.int .u8 0)], .agg [.lit (.int .u8 0), .lit (.int .u8 0)], .agg [.lit (.int .u8 0), .lit (.int .u8 0)], .agg [.lit (.int .u8 0), .lit (.int .u8 0)], .agg [.lit (.int .u8 0), .lit (.int .u8 0)], .agg [.lit (.int .u8 0), .lit (.int .u8 0)], .agg [.lit (.int .u8 0), .lit (.int .u8 0)], .agg [.lit (.int .u8 0), .lit (.int .u8 0)], .agg [.lit (.int .u8 0), .lit (.int .u8 0)]]
def laid_loop_example_s02126_impl_wayMoves {H : Type} : DataW H := .agg [.agg [.lit (.int .i64 0), .lit (.int .i64 (-1))], .agg [.lit (.int .i64 1), .lit (.int .i64 0)], .agg [.lit (.int .i64 0), .lit (.int .i64 1)], .agg [.lit (.int .i64 (-1)), .lit (.int .i64 0)]]
/-- One of Go's own tables, pinned by name: the form's constant. -/
def laid_unicode_utf8_first : DataW Unit := Go.Pinned.utf8First

/-- 'laws.FnExactFindTarget': WHATEVER THE INPUT: true; the input reads as it did. -/
def fnExactFindTargetSpec : ChangeSpec := { name := "fnExactFindTarget", vars := ["loop.example/s02126/impl.wayMoves"], fn := fun _ => fun
  | [d1, d2, g1] => { results := [.lit (.bool true)], args := [d1, d2], vars := [g1] }
  | _ => none }
def fnExactFindTargetRow : OpenClaim := { program := "yteicpjbeihabnaadoor", sum := "98643a9261a7043f7fa426451bd2eeecdb6ec0553a63e39b2afbd5e6f1ab030d", func := "loop.example/s02126/laws.FnExactFindTarget", spec := "fnExactFindTarget", inPlace := ["internal/bytealg.Compare"], unfollowed := true, recurses := true, named := ["unicode/utf8.first", "unicode/utf8.acceptRanges", "loop.example/s02126/impl.wayMoves"], apart := false, laid := [("unicode/utf8.acceptRanges", laid_unicode_utf8_acceptRanges), ("loop.example/s02126/impl.wayMoves", laid_loop_example_s02126_impl_wayMoves), ("unicode/utf8.first", laid_unicode_utf8_first)] }
def FnExactFindTargetSaid : Prop := fnExactFindTargetRow.holds Tryd.pinned (OpenSpec.ofChange fnExactFindTargetSpec)

/-- ITS FALSE NEIGHBOUR: 'it returns false'. Refute it at one input. -/
def fnExactFindTargetWrong : ChangeSpec := { name := "fnExactFindTarget", vars := ["loop.example/s02126/impl.wayMoves"], fn := fun _ => fun
  | [d1, d2, g1] => { results := [.lit (.bool false)], args := [d1, d2], vars := [g1] }
  | _ => none }
def FnExactFindTargetWrongFalsely : Prop := fnExactFindTargetRow.holds Tryd.pinned (OpenSpec.ofChange fnExactFindTargetWrong)

/-- 'laws.FnExactNext': WHATEVER THE INPUT: true; the input reads as it did. -/
def fnExactNextSpec : ChangeSpec := { name := "fnExactNext", vars := ["loop.example/s02126/impl.wayMoves"], fn := fun _ => fun
  | [d1, d2, d3, g1] => { results := [.lit (.bool true)], args := [d1, d2, d3], vars := [g1] }
  | _ => none }
def fnExactNextRow : OpenClaim := { program := "yteicpjbeihabnaadoor", sum := "98643a9261a7043f7fa426451bd2eeecdb6ec0553a63e39b2afbd5e6f1ab030d", func := "loop.example/s02126/laws.FnExactNext", spec := "fnExactNext", inPlace := ["internal/bytealg.Compare"], named := ["unicode/utf8.first", "unicode/utf8.acceptRanges", "loop.example/s02126/impl.wayMoves"], apart := false, laid := [("unicode/utf8.acceptRanges", laid_unicode_utf8_acceptRanges), ("loop.example/s02126/impl.wayMoves", laid_loop_example_s02126_impl_wayMoves), ("unicode/utf8.first", laid_unicode_utf8_first)] }
def FnExactNextSaid : Prop := fnExactNextRow.holds Tryd.pinned (OpenSpec.ofChange fnExactNextSpec)

/-- ITS FALSE NEIGHBOUR: 'it returns false'. Refute it at one input. -/
def fnExactNextWrong : ChangeSpec := { name := "fnExactNext", vars := ["loop.example/s02126/impl.wayMoves"], fn := fun _ => fun
  | [d1, d2, d3, g1] => { results := [.lit (.bool false)], args := [d1, d2, d3], vars := [g1] }
  | _ => none }
def FnExactNextWrongFalsely : Prop := fnExactNextRow.holds Tryd.pinned (OpenSpec.ofChange fnExactNextWrong)

/-- 'laws.FnExactWalk': WHATEVER THE INPUT: true; the input reads as it did. -/
def fnExactWalkSpec : ChangeSpec := { name := "fnExactWalk", vars := ["loop.example/s02126/impl.wayMoves"], fn := fun _ => fun
  | [d1, d2, d3, g1] => { results := [.lit (.bool true)], args := [d1, d2, d3], vars := [g1] }
  | _ => none }
def fnExactWalkRow : OpenClaim := { program := "yteicpjbeihabnaadoor", sum := "98643a9261a7043f7fa426451bd2eeecdb6ec0553a63e39b2afbd5e6f1ab030d", func := "loop.example/s02126/laws.FnExactWalk", spec := "fnExactWalk", inPlace := ["internal/bytealg.Compare"], named := ["unicode/utf8.first", "unicode/utf8.acceptRanges", "loop.example/s02126/impl.wayMoves"], apart := false, laid := [("unicode/utf8.acceptRanges", laid_unicode_utf8_acceptRanges), ("loop.example/s02126/impl.wayMoves", laid_loop_example_s02126_impl_wayMoves), ("unicode/utf8.first", laid_unicode_utf8_first)] }
def FnExactWalkSaid : Prop := fnExactWalkRow.holds Tryd.pinned (OpenSpec.ofChange fnExactWalkSpec)

/-- ITS FALSE NEIGHBOUR: 'it returns false'. Refute it at one input. -/
def fnExactWalkWrong : ChangeSpec := { name := "fnExactWalk", vars := ["loop.example/s02126/impl.wayMoves"], fn := fun _ => fun
  | [d1, d2, d3, g1] => { results := [.lit (.bool false)], args := [d1, d2, d3], vars := [g1] }
  | _ => none }
def FnExactWalkWrongFalsely : Prop := fnExactWalkRow.holds Tryd.pinned (OpenSpec.ofChange fnExactWalkWrong)

/-- 'laws.FnExactValidFleet': WHATEVER THE INPUT: true; the input reads as it did. -/
def fnExactValidFleetSpec : ChangeSpec := { name := "fnExactValidFleet", vars := ["loop.example/s02126/impl.wayMoves"], fn := fun _ => fun
  | [d1, d2, g1] => { results := [.lit (.bool true)], args := [d1, d2], vars := [g1] }
  | _ => none }
def fnExactValidFleetRow : OpenClaim := { program := "yteicpjbeihabnaadoor", sum := "98643a9261a7043f7fa426451bd2eeecdb6ec0553a63e39b2afbd5e6f1ab030d", func := "loop.example/s02126/laws.FnExactValidFleet", spec := "fnExactValidFleet", inPlace := ["internal/bytealg.Compare"], named := ["unicode/utf8.first", "unicode/utf8.acceptRanges", "loop.example/s02126/impl.wayMoves"], apart := false, laid := [("unicode/utf8.acceptRanges", laid_unicode_utf8_acceptRanges), ("loop.example/s02126/impl.wayMoves", laid_loop_example_s02126_impl_wayMoves), ("unicode/utf8.first", laid_unicode_utf8_first)] }
def FnExactValidFleetSaid : Prop := fnExactValidFleetRow.holds Tryd.pinned (OpenSpec.ofChange fnExactValidFleetSpec)

/-- ITS FALSE NEIGHBOUR: 'it returns false'. Refute it at one input. -/
def fnExactValidFleetWrong : ChangeSpec := { name := "fnExactValidFleet", vars := ["loop.example/s02126/impl.wayMoves"], fn := fun _ => fun
  | [d1, d2, g1] => { results := [.lit (.bool false)], args := [d1, d2], vars := [g1] }
  | _ => none }
def FnExactValidFleetWrongFalsely : Prop := fnExactValidFleetRow.holds Tryd.pinned (OpenSpec.ofChange fnExactValidFleetWrong)

/-- 'laws.FnExactTickFleet': WHATEVER THE INPUT: true; the input reads as it did. -/
def fnExactTickFleetSpec : ChangeSpec := { name := "fnExactTickFleet", vars := ["loop.example/s02126/impl.wayMoves"], fn := fun _ => fun
  | [d1, d2, g1] => { results := [.lit (.bool true)], args := [d1, d2], vars := [g1] }
  | _ => none }
def fnExactTickFleetRow : OpenClaim := { program := "yteicpjbeihabnaadoor", sum := "98643a9261a7043f7fa426451bd2eeecdb6ec0553a63e39b2afbd5e6f1ab030d", func := "loop.example/s02126/laws.FnExactTickFleet", spec := "fnExactTickFleet", inPlace := ["internal/bytealg.Compare"], named := ["unicode/utf8.first", "unicode/utf8.acceptRanges", "loop.example/s02126/impl.wayMoves"], apart := false, laid := [("unicode/utf8.acceptRanges", laid_unicode_utf8_acceptRanges), ("loop.example/s02126/impl.wayMoves", laid_loop_example_s02126_impl_wayMoves), ("unicode/utf8.first", laid_unicode_utf8_first)] }
def FnExactTickFleetSaid : Prop := fnExactTickFleetRow.holds Tryd.pinned (OpenSpec.ofChange fnExactTickFleetSpec)

/-- ITS FALSE NEIGHBOUR: 'it returns false'. Refute it at one input. -/
def fnExactTickFleetWrong : ChangeSpec := { name := "fnExactTickFleet", vars := ["loop.example/s02126/impl.wayMoves"], fn := fun _ => fun
  | [d1, d2, g1] => { results := [.lit (.bool false)], args := [d1, d2], vars := [g1] }
  | _ => none }
def FnExactTickFleetWrongFalsely : Prop := fnExactTickFleetRow.holds Tryd.pinned (OpenSpec.ofChange fnExactTickFleetWrong)

/-- 'laws.FnExactRunFleet': WHATEVER THE INPUT: true; the input reads as it did. -/
def fnExactRunFleetSpec : ChangeSpec := { name := "fnExactRunFleet", vars := ["loop.example/s02126/impl.wayMoves"], fn := fun _ => fun
  | [d1, d2, d3, g1] => { results := [.lit (.bool true)], args := [d1, d2, d3], vars := [g1] }
  | _ => none }
def fnExactRunFleetRow : OpenClaim := { program := "yteicpjbeihabnaadoor", sum := "98643a9261a7043f7fa426451bd2eeecdb6ec0553a63e39b2afbd5e6f1ab030d", func := "loop.example/s02126/laws.FnExactRunFleet", spec := "fnExactRunFleet", inPlace := ["internal/bytealg.Compare"], named := ["unicode/utf8.first", "unicode/utf8.acceptRanges", "loop.example/s02126/impl.wayMoves"], apart := false, laid := [("unicode/utf8.acceptRanges", laid_unicode_utf8_acceptRanges), ("loop.example/s02126/impl.wayMoves", laid_loop_example_s02126_impl_wayMoves), ("unicode/utf8.first", laid_unicode_utf8_first)] }
def FnExactRunFleetSaid : Prop := fnExactRunFleetRow.holds Tryd.pinned (OpenSpec.ofChange fnExactRunFleetSpec)

/-- ITS FALSE NEIGHBOUR: 'it returns false'. Refute it at one input. -/
def fnExactRunFleetWrong : ChangeSpec := { name := "fnExactRunFleet", vars := ["loop.example/s02126/impl.wayMoves"], fn := fun _ => fun
  | [d1, d2, d3, g1] => { results := [.lit (.bool false)], args := [d1, d2, d3], vars := [g1] }
  | _ => none }
def FnExactRunFleetWrongFalsely : Prop := fnExactRunFleetRow.holds Tryd.pinned (OpenSpec.ofChange fnExactRunFleetWrong)

/- THE SECOND FORM. 'bulk': how many values and letters a reading holds, each counted each time it is reached (what is shared counts as often as it is met; a slice's spare places count too). A statement '..UptoSaid' is the law's where the arguments, and the package variables that the reading takes, are together of bulk at most 1048576: NARROWER than '..Said'. Prove '..Said' where nothing that the law and all that it calls make is longer than what came in: it says more and counts as full. Else prove '..UptoSaid'. A law counts once. -/
mutual
def uptoBulk {H : Type} : DataW H → Nat
  | .lit (.string bytes) => bytes.length + 1
  | .lit _ => 1
  | .nil => 1
  | .ptr d => uptoBulk d + 1
  | .slice elems spare => uptoBulkAll elems + uptoBulkAll spare + 1
  | .agg parts => uptoBulkAll parts + 1
  | .iface _ d => uptoBulk d + 1
  | .map entries => uptoBulkEntries entries + 1
  | .held _ => 1
def uptoBulkAll {H : Type} : List (DataW H) → Nat
  | [] => 0
  | d :: r => uptoBulk d + uptoBulkAll r
def uptoBulkEntries {H : Type} : List (Lit × DataW H) → Nat
  | [] => 0
  | x :: r => uptoBulkEntry x + uptoBulkEntries r
def uptoBulkEntry {H : Type} : Lit × DataW H → Nat
  | (.string bytes, d) => bytes.length + uptoBulk d + 1
  | (_, d) => uptoBulk d + 1
 end
def uptoSmall : (H : Type) → List (DataW H) → Bool := fun _ ds => decide (uptoBulkAll ds ≤ 1048576)
def OpenSpec.upto (s : _root_.Go.ChangeSpec) : _root_.Go.OpenSpec := { _root_.Go.OpenSpec.ofChange s with cond := some uptoSmall }

/-- 'laws.FnExactFindTarget', WHERE WHAT IT READS IS OF BULK AT MOST 1048576: true; the input reads as it did. -/
def fnExactFindTargetUptoRow : OpenClaim := { program := "yteicpjbeihabnaadoor", sum := "98643a9261a7043f7fa426451bd2eeecdb6ec0553a63e39b2afbd5e6f1ab030d", func := "loop.example/s02126/laws.FnExactFindTarget", spec := "fnExactFindTarget", inPlace := ["internal/bytealg.Compare"], unfollowed := true, recurses := true, named := ["unicode/utf8.first", "unicode/utf8.acceptRanges", "loop.example/s02126/impl.wayMoves"], apart := false, laid := [("unicode/utf8.acceptRanges", laid_unicode_utf8_acceptRanges), ("loop.example/s02126/impl.wayMoves", laid_loop_example_s02126_impl_wayMoves), ("unicode/utf8.first", laid_unicode_utf8_first)], narrowed := true }
def FnExactFindTargetUptoSaid : Prop := fnExactFindTargetUptoRow.holds Tryd.pinned (OpenSpec.upto fnExactFindTargetSpec)

/-- 'laws.FnExactNext', WHERE WHAT IT READS IS OF BULK AT MOST 1048576: true; the input reads as it did. -/
def fnExactNextUptoRow : OpenClaim := { program := "yteicpjbeihabnaadoor", sum := "98643a9261a7043f7fa426451bd2eeecdb6ec0553a63e39b2afbd5e6f1ab030d", func := "loop.example/s02126/laws.FnExactNext", spec := "fnExactNext", inPlace := ["internal/bytealg.Compare"], named := ["unicode/utf8.first", "unicode/utf8.acceptRanges", "loop.example/s02126/impl.wayMoves"], apart := false, laid := [("unicode/utf8.acceptRanges", laid_unicode_utf8_acceptRanges), ("loop.example/s02126/impl.wayMoves", laid_loop_example_s02126_impl_wayMoves), ("unicode/utf8.first", laid_unicode_utf8_first)], narrowed := true }
def FnExactNextUptoSaid : Prop := fnExactNextUptoRow.holds Tryd.pinned (OpenSpec.upto fnExactNextSpec)

/-- 'laws.FnExactWalk', WHERE WHAT IT READS IS OF BULK AT MOST 1048576: true; the input reads as it did. -/
def fnExactWalkUptoRow : OpenClaim := { program := "yteicpjbeihabnaadoor", sum := "98643a9261a7043f7fa426451bd2eeecdb6ec0553a63e39b2afbd5e6f1ab030d", func := "loop.example/s02126/laws.FnExactWalk", spec := "fnExactWalk", inPlace := ["internal/bytealg.Compare"], named := ["unicode/utf8.first", "unicode/utf8.acceptRanges", "loop.example/s02126/impl.wayMoves"], apart := false, laid := [("unicode/utf8.acceptRanges", laid_unicode_utf8_acceptRanges), ("loop.example/s02126/impl.wayMoves", laid_loop_example_s02126_impl_wayMoves), ("unicode/utf8.first", laid_unicode_utf8_first)], narrowed := true }
def FnExactWalkUptoSaid : Prop := fnExactWalkUptoRow.holds Tryd.pinned (OpenSpec.upto fnExactWalkSpec)

/-- 'laws.FnExactValidFleet', WHERE WHAT IT READS IS OF BULK AT MOST 1048576: true; the input reads as it did. -/
def fnExactValidFleetUptoRow : OpenClaim := { program := "yteicpjbeihabnaadoor", sum := "98643a9261a7043f7fa426451bd2eeecdb6ec0553a63e39b2afbd5e6f1ab030d", func := "loop.example/s02126/laws.FnExactValidFleet", spec := "fnExactValidFleet", inPlace := ["internal/bytealg.Compare"], named := ["unicode/utf8.first", "unicode/utf8.acceptRanges", "loop.example/s02126/impl.wayMoves"], apart := false, laid := [("unicode/utf8.acceptRanges", laid_unicode_utf8_acceptRanges), ("loop.example/s02126/impl.wayMoves", laid_loop_example_s02126_impl_wayMoves), ("unicode/utf8.first", laid_unicode_utf8_first)], narrowed := true }
def FnExactValidFleetUptoSaid : Prop := fnExactValidFleetUptoRow.holds Tryd.pinned (OpenSpec.upto fnExactValidFleetSpec)

/-- 'laws.FnExactTickFleet', WHERE WHAT IT READS IS OF BULK AT MOST 1048576: true; the input reads as it did. -/
def fnExactTickFleetUptoRow : OpenClaim := { program := "yteicpjbeihabnaadoor", sum := "98643a9261a7043f7fa426451bd2eeecdb6ec0553a63e39b2afbd5e6f1ab030d", func := "loop.example/s02126/laws.FnExactTickFleet", spec := "fnExactTickFleet", inPlace := ["internal/bytealg.Compare"], named := ["unicode/utf8.first", "unicode/utf8.acceptRanges", "loop.example/s02126/impl.wayMoves"], apart := false, laid := [("unicode/utf8.acceptRanges", laid_unicode_utf8_acceptRanges), ("loop.example/s02126/impl.wayMoves", laid_loop_example_s02126_impl_wayMoves), ("unicode/utf8.first", laid_unicode_utf8_first)], narrowed := true }
def FnExactTickFleetUptoSaid : Prop := fnExactTickFleetUptoRow.holds Tryd.pinned (OpenSpec.upto fnExactTickFleetSpec)

/-- 'laws.FnExactRunFleet', WHERE WHAT IT READS IS OF BULK AT MOST 1048576: true; the input reads as it did. -/
def fnExactRunFleetUptoRow : OpenClaim := { program := "yteicpjbeihabnaadoor", sum := "98643a9261a7043f7fa426451bd2eeecdb6ec0553a63e39b2afbd5e6f1ab030d", func := "loop.example/s02126/laws.FnExactRunFleet", spec := "fnExactRunFleet", inPlace := ["internal/bytealg.Compare"], named := ["unicode/utf8.first", "unicode/utf8.acceptRanges", "loop.example/s02126/impl.wayMoves"], apart := false, laid := [("unicode/utf8.acceptRanges", laid_unicode_utf8_acceptRanges), ("loop.example/s02126/impl.wayMoves", laid_loop_example_s02126_impl_wayMoves), ("unicode/utf8.first", laid_unicode_utf8_first)], narrowed := true }
def FnExactRunFleetUptoSaid : Prop := fnExactRunFleetUptoRow.holds Tryd.pinned (OpenSpec.upto fnExactRunFleetSpec)

end Rows
end Go.Proofs.YteicpjbeihabnaaDoor

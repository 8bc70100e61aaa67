/-
  NARROWER THAN 'FOR EVERY INPUT', by the rows' own cells (each row's printed sentence says how): FnExactValidTables: laid · FnExactNearest: laid · FnExactEncodeImage: laid · FnExactDecodeImage: ifaces, laid.
  DERIVED. THE GIVEN ROWS OF THIS SEAT. 4 by the template 'for every input the law returns true; each argument reads behind the call as it read before'; 0 by the template 'total and deterministic' (their statements: YtpnocklldlacjaaDoorTotals.lean).
  GIVEN WITH THE SEED: the statements are not yours to turn. If you find one false, say at which input.
  Laid BY PROGRAM, IN A SANDBOX (cutbox-rows.mjs): the forced cells as the released guide's own fill.sh prints them over the translation 8f8e2124af80a8df… (all of the seat's roots in one cut). By AI agents, Wed Nov 11 2026. No macro, syntax, notation, axiom, sorry.
-/
import Derived.Test.YtpnocklldlacjaaDoorChecked
import GoSem.PinnedTables
import GoSem.Claim
import GoSem.ClaimJoined
import GoSem.ClaimMapViews
import Derived.JoinedTies
import Derived.KernelRfl
namespace Go.Proofs.YtpnocklldlacjaaDoor
/- THE CELL 'sum', in the pinned program and in every row, IS THE sha256 OF THE DUMP (.gsa) THAT YtpnocklldlacjaaDoorProg.lean LOADS. Nothing in Lean hashes anything: it is a label: what it is worth is what the hold of that sum in a sandbox is worth. -/
noncomputable def Tryd.pinned : Pinned := { name := "ytpnocklldlacjaadoor", sum := "8f8e2124af80a8df35e1e4858d8b0ff64be6d2426d9adcff01ee91d33f94e6c1", checked := Tryd.checked }
namespace Rows
def none {H : Type} : Left H := { results := [], args := [] }

/- WHAT THE LISTED PACKAGE-LEVEL VARIABLES READ AS WHEN THE CALL BEGINS. Each datum BY PROGRAM (the guide's laid-datum.mjs) off the statement by which the dump's own 'gosem.cut.vars' lays the variable. In a bare row this is a premise. The card (YtpnocklldlacjaaDoorCards.lean) ties it to the program's text. -/
def laid_unicode_utf8_acceptRanges {H : Type} : DataW H := .agg [.agg [.lit (.int .u8 128), .lit (.int .u8 191)], .agg [.lit (.int .u8 160), .lit (.int .u8 191)], .agg [.lit (.int .u8 128), .lit (.int .u8 159)], .agg [.lit (.int .u8 144), .lit (.int .u8 191)], .agg [.lit (.int .u8 128), .lit (.int .u8 143)], .agg [.lit (.int .u8 0), .lit (.int .u8 0)], .agg [.lit (.int .u8 0), .lit (.int .u8 0)], .agg [.lit (.int .u8 0), .lit (.int .u8 0)], .agg [.lit (.int .u8 0), .lit (.int .u8 0)], .agg [.lit (.int .u8 0), .lit (.int .u8 0)], .agg [.lit (.int .u8 0), .lit (.int .u8 0)], .agg [.lit (.int .u8 0), .lit (.int .u8 0)], .agg [.lit (.int .u8 0), .lit (.int .u8 0)], .agg [.lit (.int .u8 0), .lit (.int .u8 0)], .agg [.lit (.int .u8 0), .lit (.int .u8 0)], .agg [.lit (.int .u8 0), .lit (.int .u8 0)]]
def laid_loop_example_s02126_impl_wayMoves {H : Type} : DataW H := .agg [.agg [.lit (.int .i64 0), .lit (.int .i64 (-1))], .agg [.lit (.int .i64 1), .lit (.int .i64 0)], .agg [.lit (.int .i64 0), .lit (.int .i64 1)], .agg [.lit (.int .i64 (-1)), .lit (.int .i64 0)]]
/-- One of Go's own tables, pinned by name: the form's constant. -/
def laid_unicode_utf8_first : DataW Unit := Go.Pinned.utf8First
def laid_loop_example_s02126_impl_errNoImage {H : Type} : DataW H := .iface "*errors.errorString" (.ptr (.agg [.lit (.string [116, 104, 101, 32, 98, 121, 116, 101, 115, 32, 97, 114, 101, 32, 110, 111, 32, 105, 109, 97, 103, 101])]))

/-- 'laws.FnExactValidTables': WHATEVER THE INPUT: true; the input reads as it did. -/
def fnExactValidTablesSpec : ChangeSpec := { name := "fnExactValidTables", vars := ["loop.example/s02126/impl.wayMoves"], fn := fun _ => fun
  | [d, g1] => { results := [.lit (.bool true)], args := [d], vars := [g1] }
  | _ => none }
def fnExactValidTablesRow : OpenClaim := { program := "ytpnocklldlacjaadoor", sum := "8f8e2124af80a8df35e1e4858d8b0ff64be6d2426d9adcff01ee91d33f94e6c1", func := "loop.example/s02126/laws.FnExactValidTables", spec := "fnExactValidTables", inPlace := ["internal/bytealg.Compare"], named := ["unicode/utf8.first", "unicode/utf8.acceptRanges", "loop.example/s02126/impl.wayMoves"], apart := false, laid := [("unicode/utf8.acceptRanges", laid_unicode_utf8_acceptRanges), ("loop.example/s02126/impl.wayMoves", laid_loop_example_s02126_impl_wayMoves), ("unicode/utf8.first", laid_unicode_utf8_first)] }
def FnExactValidTablesSaid : Prop := fnExactValidTablesRow.holds Tryd.pinned (OpenSpec.ofChange fnExactValidTablesSpec)

/-- ITS FALSE NEIGHBOUR: 'it returns false'. Refute it at one input. -/
def fnExactValidTablesWrong : ChangeSpec := { name := "fnExactValidTables", vars := ["loop.example/s02126/impl.wayMoves"], fn := fun _ => fun
  | [d, g1] => { results := [.lit (.bool false)], args := [d], vars := [g1] }
  | _ => none }
def FnExactValidTablesWrongFalsely : Prop := fnExactValidTablesRow.holds Tryd.pinned (OpenSpec.ofChange fnExactValidTablesWrong)

/-- 'laws.FnExactNearest': WHATEVER THE INPUT: true; the input reads as it did. -/
def fnExactNearestSpec : ChangeSpec := { name := "fnExactNearest", vars := ["loop.example/s02126/impl.wayMoves"], fn := fun _ => fun
  | [d1, d2, d3, g1] => { results := [.lit (.bool true)], args := [d1, d2, d3], vars := [g1] }
  | _ => none }
def fnExactNearestRow : OpenClaim := { program := "ytpnocklldlacjaadoor", sum := "8f8e2124af80a8df35e1e4858d8b0ff64be6d2426d9adcff01ee91d33f94e6c1", func := "loop.example/s02126/laws.FnExactNearest", spec := "fnExactNearest", inPlace := ["internal/bytealg.Compare"], named := ["unicode/utf8.first", "unicode/utf8.acceptRanges", "loop.example/s02126/impl.wayMoves"], apart := false, laid := [("unicode/utf8.acceptRanges", laid_unicode_utf8_acceptRanges), ("loop.example/s02126/impl.wayMoves", laid_loop_example_s02126_impl_wayMoves), ("unicode/utf8.first", laid_unicode_utf8_first)] }
def FnExactNearestSaid : Prop := fnExactNearestRow.holds Tryd.pinned (OpenSpec.ofChange fnExactNearestSpec)

/-- ITS FALSE NEIGHBOUR: 'it returns false'. Refute it at one input. -/
def fnExactNearestWrong : ChangeSpec := { name := "fnExactNearest", vars := ["loop.example/s02126/impl.wayMoves"], fn := fun _ => fun
  | [d1, d2, d3, g1] => { results := [.lit (.bool false)], args := [d1, d2, d3], vars := [g1] }
  | _ => none }
def FnExactNearestWrongFalsely : Prop := fnExactNearestRow.holds Tryd.pinned (OpenSpec.ofChange fnExactNearestWrong)

/-- 'laws.FnExactEncodeImage': WHATEVER THE INPUT: true; the input reads as it did. -/
def fnExactEncodeImageSpec : ChangeSpec := { name := "fnExactEncodeImage", vars := ["loop.example/s02126/impl.wayMoves"], fn := fun _ => fun
  | [d, g1] => { results := [.lit (.bool true)], args := [d], vars := [g1] }
  | _ => none }
def fnExactEncodeImageRow : OpenClaim := { program := "ytpnocklldlacjaadoor", sum := "8f8e2124af80a8df35e1e4858d8b0ff64be6d2426d9adcff01ee91d33f94e6c1", func := "loop.example/s02126/laws.FnExactEncodeImage", spec := "fnExactEncodeImage", inPlace := ["internal/bytealg.Compare"], unfollowed := true, recurses := true, named := ["unicode/utf8.first", "unicode/utf8.acceptRanges", "loop.example/s02126/impl.wayMoves"], apart := false, laid := [("unicode/utf8.acceptRanges", laid_unicode_utf8_acceptRanges), ("loop.example/s02126/impl.wayMoves", laid_loop_example_s02126_impl_wayMoves), ("unicode/utf8.first", laid_unicode_utf8_first)] }
def FnExactEncodeImageSaid : Prop := fnExactEncodeImageRow.holds Tryd.pinned (OpenSpec.ofChange fnExactEncodeImageSpec)

/-- ITS FALSE NEIGHBOUR: 'it returns false'. Refute it at one input. -/
def fnExactEncodeImageWrong : ChangeSpec := { name := "fnExactEncodeImage", vars := ["loop.example/s02126/impl.wayMoves"], fn := fun _ => fun
  | [d, g1] => { results := [.lit (.bool false)], args := [d], vars := [g1] }
  | _ => none }
def FnExactEncodeImageWrongFalsely : Prop := fnExactEncodeImageRow.holds Tryd.pinned (OpenSpec.ofChange fnExactEncodeImageWrong)

/-- 'laws.FnExactDecodeImage': WHATEVER THE INPUT: true; the input reads as it did. -/
def fnExactDecodeImageSpec : ChangeSpec := { name := "fnExactDecodeImage", vars := ["loop.example/s02126/impl.errNoImage", "loop.example/s02126/impl.wayMoves"], fn := fun _ => fun
  | [d, g1, g2] => { results := [.lit (.bool true)], args := [d], vars := [g1, g2] }
  | _ => none }
def fnExactDecodeImageRow : OpenClaim := { program := "ytpnocklldlacjaadoor", sum := "8f8e2124af80a8df35e1e4858d8b0ff64be6d2426d9adcff01ee91d33f94e6c1", func := "loop.example/s02126/laws.FnExactDecodeImage", spec := "fnExactDecodeImage", inPlace := ["internal/reflectlite.TypeOf", "internal/bytealg.Compare"], unfollowed := true, recurses := true, named := ["loop.example/s02126/impl.errNoImage", "unicode/utf8.first", "unicode/utf8.acceptRanges", "loop.example/s02126/impl.wayMoves"], ifaces := true, apart := false, laid := [("unicode/utf8.acceptRanges", laid_unicode_utf8_acceptRanges), ("loop.example/s02126/impl.wayMoves", laid_loop_example_s02126_impl_wayMoves), ("loop.example/s02126/impl.errNoImage", laid_loop_example_s02126_impl_errNoImage), ("unicode/utf8.first", laid_unicode_utf8_first)] }
def FnExactDecodeImageSaid : Prop := fnExactDecodeImageRow.holds Tryd.pinned (OpenSpec.ofChange fnExactDecodeImageSpec)

/-- ITS FALSE NEIGHBOUR: 'it returns false'. Refute it at one input. -/
def fnExactDecodeImageWrong : ChangeSpec := { name := "fnExactDecodeImage", vars := ["loop.example/s02126/impl.errNoImage", "loop.example/s02126/impl.wayMoves"], fn := fun _ => fun
  | [d, g1, g2] => { results := [.lit (.bool false)], args := [d], vars := [g1, g2] }
  | _ => none }
def FnExactDecodeImageWrongFalsely : Prop := fnExactDecodeImageRow.holds Tryd.pinned (OpenSpec.ofChange fnExactDecodeImageWrong)

/- THE SECOND FORM. 'bulk': how many values and letters a reading holds, each counted each time it is reached (what is shared counts as often as it is met; a slice's spare places count too). A statement '..UptoSaid' is the law's where the arguments, and the package variables that the reading takes, are together of bulk at most 1048576: NARROWER than '..Said'. Prove '..Said' where nothing that the law and all that it calls make is longer than what came in: it says more and counts as full. Else prove '..UptoSaid'. A law counts once. -/
mutual
def uptoBulk {H : Type} : DataW H → Nat
  | .lit (.string bytes) => bytes.length + 1
  | .lit _ => 1
  | .nil => 1
  | .ptr d => uptoBulk d + 1
  | .slice elems spare => uptoBulkAll elems + uptoBulkAll spare + 1
  | .agg parts => uptoBulkAll parts + 1
  | .iface _ d => uptoBulk d + 1
  | .map entries => uptoBulkEntries entries + 1
  | .held _ => 1
def uptoBulkAll {H : Type} : List (DataW H) → Nat
  | [] => 0
  | d :: r => uptoBulk d + uptoBulkAll r
def uptoBulkEntries {H : Type} : List (Lit × DataW H) → Nat
  | [] => 0
  | x :: r => uptoBulkEntry x + uptoBulkEntries r
def uptoBulkEntry {H : Type} : Lit × DataW H → Nat
  | (.string bytes, d) => bytes.length + uptoBulk d + 1
  | (_, d) => uptoBulk d + 1
 end
def uptoSmall : (H : Type) → List (DataW H) → Bool := fun _ ds => decide (uptoBulkAll ds ≤ 1048576)
def OpenSpec.upto (s : _root_.Go.ChangeSpec) : _root_.Go.OpenSpec := { _root_.Go.OpenSpec.ofChange s with cond := some uptoSmall }

/-- 'laws.FnExactValidTables', WHERE WHAT IT READS IS OF BULK AT MOST 1048576: true; the input reads as it did. -/
def fnExactValidTablesUptoRow : OpenClaim := { program := "ytpnocklldlacjaadoor", sum := "8f8e2124af80a8df35e1e4858d8b0ff64be6d2426d9adcff01ee91d33f94e6c1", func := "loop.example/s02126/laws.FnExactValidTables", spec := "fnExactValidTables", inPlace := ["internal/bytealg.Compare"], named := ["unicode/utf8.first", "unicode/utf8.acceptRanges", "loop.example/s02126/impl.wayMoves"], apart := false, laid := [("unicode/utf8.acceptRanges", laid_unicode_utf8_acceptRanges), ("loop.example/s02126/impl.wayMoves", laid_loop_example_s02126_impl_wayMoves), ("unicode/utf8.first", laid_unicode_utf8_first)], narrowed := true }
def FnExactValidTablesUptoSaid : Prop := fnExactValidTablesUptoRow.holds Tryd.pinned (OpenSpec.upto fnExactValidTablesSpec)

/-- 'laws.FnExactNearest', WHERE WHAT IT READS IS OF BULK AT MOST 1048576: true; the input reads as it did. -/
def fnExactNearestUptoRow : OpenClaim := { program := "ytpnocklldlacjaadoor", sum := "8f8e2124af80a8df35e1e4858d8b0ff64be6d2426d9adcff01ee91d33f94e6c1", func := "loop.example/s02126/laws.FnExactNearest", spec := "fnExactNearest", inPlace := ["internal/bytealg.Compare"], named := ["unicode/utf8.first", "unicode/utf8.acceptRanges", "loop.example/s02126/impl.wayMoves"], apart := false, laid := [("unicode/utf8.acceptRanges", laid_unicode_utf8_acceptRanges), ("loop.example/s02126/impl.wayMoves", laid_loop_example_s02126_impl_wayMoves), ("unicode/utf8.first", laid_unicode_utf8_first)], narrowed := true }
def FnExactNearestUptoSaid : Prop := fnExactNearestUptoRow.holds Tryd.pinned (OpenSpec.upto fnExactNearestSpec)

/-- 'laws.FnExactEncodeImage', WHERE WHAT IT READS IS OF BULK AT MOST 1048576: true; the input reads as it did. -/
def fnExactEncodeImageUptoRow : OpenClaim := { program := "ytpnocklldlacjaadoor", sum := "8f8e2124af80a8df35e1e4858d8b0ff64be6d2426d9adcff01ee91d33f94e6c1", func := "loop.example/s02126/laws.FnExactEncodeImage", spec := "fnExactEncodeImage", inPlace := ["internal/bytealg.Compare"], unfollowed := true, recurses := true, named := ["unicode/utf8.first", "unicode/utf8.acceptRanges", "loop.example/s02126/impl.wayMoves"], apart := false, laid := [("unicode/utf8.acceptRanges", laid_unicode_utf8_acceptRanges), ("loop.example/s02126/impl.wayMoves", laid_loop_example_s02126_impl_wayMoves), ("unicode/utf8.first", laid_unicode_utf8_first)], narrowed := true }
def FnExactEncodeImageUptoSaid : Prop := fnExactEncodeImageUptoRow.holds Tryd.pinned (OpenSpec.upto fnExactEncodeImageSpec)

/-- 'laws.FnExactDecodeImage', WHERE WHAT IT READS IS OF BULK AT MOST 1048576: true; the input reads as it did. -/
def fnExactDecodeImageUptoRow : OpenClaim := { program := "ytpnocklldlacjaadoor", sum := "8f8e2124af80a8df35e1e4858d8b0ff64be6d2426d9adcff01ee91d33f94e6c1", func := "loop.example/s02126/laws.FnExactDecodeImage", spec := "fnExactDecodeImage", inPlace := ["internal/reflectlite.TypeOf", "internal/bytealg.Compare"], unfollowed := true, recurses := true, named := ["loop.example/s02126/impl.errNoImage", "unicode/utf8.first", "unicode/utf8.acceptRanges", "loop.example/s02126/impl.wayMoves"], ifaces := true, apart := false, laid := [("unicode/utf8.acceptRanges", laid_unicode_utf8_acceptRanges), ("loop.example/s02126/impl.wayMoves", laid_loop_example_s02126_impl_wayMoves), ("loop.example/s02126/impl.errNoImage", laid_loop_example_s02126_impl_errNoImage), ("unicode/utf8.first", laid_unicode_utf8_first)], narrowed := true }
def FnExactDecodeImageUptoSaid : Prop := fnExactDecodeImageUptoRow.holds Tryd.pinned (OpenSpec.upto fnExactDecodeImageSpec)

end Rows
end Go.Proofs.YtpnocklldlacjaaDoor

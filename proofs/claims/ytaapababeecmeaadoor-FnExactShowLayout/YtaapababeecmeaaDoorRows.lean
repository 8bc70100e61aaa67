/-
  NARROWER THAN 'FOR EVERY INPUT', by the rows' own cells (each row's printed sentence says how): FnExactValidLayout: laid · FnExactLayoutDecls: laid · FnExactShowLayout: laid.
  DERIVED. THE GIVEN ROWS OF THIS SEAT. 3 by the template 'for every input the law returns true; each argument reads behind the call as it read before'; 0 by the template 'total and deterministic' (their statements: YtaapababeecmeaaDoorTotals.lean).
  GIVEN WITH THE SEED: the statements are not yours to turn. If you find one false, say at which input.
  Laid BY PROGRAM, IN A SANDBOX (cutbox-rows.mjs): the forced cells as the released guide's own fill.sh prints them over the translation 18812adff8a799bf… (all of the seat's roots in one cut). By AI agents, Wed Nov 11 2026. No macro, syntax, notation, axiom, sorry.
-/
import Derived.Test.YtaapababeecmeaaDoorChecked
import GoSem.PinnedTables
import GoSem.Claim
import GoSem.ClaimJoined
import GoSem.ClaimMapViews
import Derived.JoinedTies
import Derived.KernelRfl
namespace Go.Proofs.YtaapababeecmeaaDoor
/- THE CELL 'sum', in the pinned program and in every row, IS THE sha256 OF THE DUMP (.gsa) THAT YtaapababeecmeaaDoorProg.lean LOADS. Nothing in Lean hashes anything: it is a label: what it is worth is what the hold of that sum in a sandbox is worth. -/
noncomputable def Tryd.pinned : Pinned := { name := "ytaapababeecmeaadoor", sum := "18812adff8a799bfb28be45b46db0f142c8a5f81f39e8fb7147d3d08504756fa", checked := Tryd.checked }
namespace Rows
def none {H : Type} : Left H := { results := [], args := [] }

/- WHAT THE LISTED PACKAGE-LEVEL VARIABLES READ AS WHEN THE CALL BEGINS. Each datum BY PROGRAM (the guide's laid-datum.mjs) off the statement by which the dump's own 'gosem.cut.vars' lays the variable. In a bare row this is a premise. The card (YtaapababeecmeaaDoorCards.lean) ties it to the program's text. -/
def laid_unicode_utf8_acceptRanges {H : Type} : DataW H := .agg [.agg [.lit (.int .u8 128), .lit (.int .u8 191)], .agg [.lit (.int .u8 160), .lit (.int .u8 191)], .agg [.lit (.int .u8 128), .lit (.int .u8 159)], .agg [.lit (.int .u8 144), .lit (.int .u8 191)], .agg [.lit (.int .u8 128), .lit (.int .u8 143)], .agg [.lit (.int .u8 0), .lit (.int .u8 0)], .agg [.lit (.int .u8 0), .lit (.int .u8 0)], .agg [.lit (.int .u8 0), .lit (.int .u8 0)], .agg [.lit (.int .u8 0), .lit (.int .u8 0)], .agg [.lit (.int .u8 0), .lit (.int .u8 0)], .agg [.lit (.int .u8 0), .lit (.int .u8 0)], .agg [.lit (.int .u8 0), .lit (.int .u8 0)], .agg [.lit (.int .u8 0), .lit (.int .u8 0)], .agg [.lit (.int .u8 0), .lit (.int .u8 0)], .agg [.lit (.int .u8 0), .lit (.int .u8 0)], .agg [.lit (.int .u8 0), .lit (.int .u8 0)]]
def laid_loop_example_s02126_impl_wayMoves {H : Type} : DataW H := .agg [.agg [.lit (.int .i64 0), .lit (.int .i64 (-1))], .agg [.lit (.int .i64 1), .lit (.int .i64 0)], .agg [.lit (.int .i64 0), .lit (.int .i64 1)], .agg [.lit (.int .i64 (-1)), .lit (.int .i64 0)]]
/-- One of Go's own tables, pinned by name: the form's constant. -/
def laid_unicode_utf8_first : DataW Unit := Go.Pinned.utf8First
def laid_math_bits_deBruijn32tab {H : Type} : DataW H := .agg [.lit (.int .u8 0), .lit (.int .u8 1), .lit (.int .u8 28), .lit (.int .u8 2), .lit (.int .u8 29), .lit (.int .u8 14), .lit (.int .u8 24), .lit (.int .u8 3), .lit (.int .u8 30), .lit (.int .u8 22), .lit (.int .u8 20), .lit (.int .u8 15), .lit (.int .u8 25), .lit (.int .u8 17), .lit (.int .u8 4), .lit (.int .u8 8), .lit (.int .u8 31), .lit (.int .u8 27), .lit (.int .u8 13), .lit (.int .u8 23), .lit (.int .u8 21), .lit (.int .u8 19), .lit (.int .u8 16), .lit (.int .u8 7), .lit (.int .u8 26), .lit (.int .u8 12), .lit (.int .u8 18), .lit (.int .u8 6), .lit (.int .u8 11), .lit (.int .u8 5), .lit (.int .u8 10), .lit (.int .u8 9)]
def laid_math_bits_deBruijn64tab {H : Type} : DataW H := .agg [.lit (.int .u8 0), .lit (.int .u8 1), .lit (.int .u8 56), .lit (.int .u8 2), .lit (.int .u8 57), .lit (.int .u8 49), .lit (.int .u8 28), .lit (.int .u8 3), .lit (.int .u8 61), .lit (.int .u8 58), .lit (.int .u8 42), .lit (.int .u8 50), .lit (.int .u8 38), .lit (.int .u8 29), .lit (.int .u8 17), .lit (.int .u8 4), .lit (.int .u8 62), .lit (.int .u8 47), .lit (.int .u8 59), .lit (.int .u8 36), .lit (.int .u8 45), .lit (.int .u8 43), .lit (.int .u8 51), .lit (.int .u8 22), .lit (.int .u8 53), .lit (.int .u8 39), .lit (.int .u8 33), .lit (.int .u8 30), .lit (.int .u8 24), .lit (.int .u8 18), .lit (.int .u8 12), .lit (.int .u8 5), .lit (.int .u8 63), .lit (.int .u8 55), .lit (.int .u8 48), .lit (.int .u8 27), .lit (.int .u8 60), .lit (.int .u8 41), .lit (.int .u8 37), .lit (.int .u8 16), .lit (.int .u8 46), .lit (.int .u8 35), .lit (.int .u8 44), .lit (.int .u8 21), .lit (.int .u8 52), .lit (.int .u8 32), .lit (.int .u8 23), .lit (.int .u8 11), .lit (.int .u8 54), .lit (.int .u8 26), .lit (.int .u8 40), .lit (.int .u8 15), .lit (.int .u8 34), .lit (.int .u8 20), .lit (.int .u8 31), .lit (.int .u8 10), .lit (.int .u8 25), .lit (.int .u8 14), .lit (.int .u8 19), .lit (.int .u8 9), .lit (.int .u8 13), .lit (.int .u8 8), .lit (.int .u8 7), .lit (.int .u8 6)]
def laid_internal_strconv_uint64pow10 {H : Type} : DataW H := .agg [.lit (.int .u64 1), .lit (.int .u64 10), .lit (.int .u64 100), .lit (.int .u64 1000), .lit (.int .u64 10000), .lit (.int .u64 100000), .lit (.int .u64 1000000), .lit (.int .u64 10000000), .lit (.int .u64 100000000), .lit (.int .u64 1000000000), .lit (.int .u64 10000000000), .lit (.int .u64 100000000000), .lit (.int .u64 1000000000000), .lit (.int .u64 10000000000000), .lit (.int .u64 100000000000000), .lit (.int .u64 1000000000000000), .lit (.int .u64 10000000000000000), .lit (.int .u64 100000000000000000), .lit (.int .u64 1000000000000000000), .lit (.int .u64 10000000000000000000)]
def laid_loop_example_s02126_impl_statementWords {H : Type} : DataW H := .agg [.lit (.string []), .lit (.string []), .lit (.string []), .lit (.string [108, 101, 116]), .lit (.string [99, 97, 108, 108]), .lit (.string [102, 111, 114]), .lit (.string [105, 102]), .lit (.string [103, 114, 105, 100]), .lit (.string [119, 97, 108, 108]), .lit (.string [111, 112, 101, 110]), .lit (.string [108, 97, 110, 101]), .lit (.string [103, 97, 116, 101]), .lit (.string [98, 97, 114]), .lit (.string [122, 111, 110, 101]), .lit (.string [115, 116, 97, 116, 105, 111, 110]), .lit (.string [99, 104, 97, 114, 103, 101, 114])]

/-- 'laws.FnExactValidLayout': WHATEVER THE INPUT: true; the input reads as it did. -/
def fnExactValidLayoutSpec : ChangeSpec := { name := "fnExactValidLayout", vars := ["loop.example/s02126/impl.wayMoves"], fn := fun _ => fun
  | [d, g1] => { results := [.lit (.bool true)], args := [d], vars := [g1] }
  | _ => none }
def fnExactValidLayoutRow : OpenClaim := { program := "ytaapababeecmeaadoor", sum := "18812adff8a799bfb28be45b46db0f142c8a5f81f39e8fb7147d3d08504756fa", func := "loop.example/s02126/laws.FnExactValidLayout", spec := "fnExactValidLayout", inPlace := ["internal/bytealg.Compare"], unfollowed := true, recurses := true, named := ["loop.example/s02126/impl.wayMoves", "unicode/utf8.first", "unicode/utf8.acceptRanges"], apart := false, laid := [("unicode/utf8.acceptRanges", laid_unicode_utf8_acceptRanges), ("loop.example/s02126/impl.wayMoves", laid_loop_example_s02126_impl_wayMoves), ("unicode/utf8.first", laid_unicode_utf8_first)] }
def FnExactValidLayoutSaid : Prop := fnExactValidLayoutRow.holds Tryd.pinned (OpenSpec.ofChange fnExactValidLayoutSpec)

/-- ITS FALSE NEIGHBOUR: 'it returns false'. Refute it at one input. -/
def fnExactValidLayoutWrong : ChangeSpec := { name := "fnExactValidLayout", vars := ["loop.example/s02126/impl.wayMoves"], fn := fun _ => fun
  | [d, g1] => { results := [.lit (.bool false)], args := [d], vars := [g1] }
  | _ => none }
def FnExactValidLayoutWrongFalsely : Prop := fnExactValidLayoutRow.holds Tryd.pinned (OpenSpec.ofChange fnExactValidLayoutWrong)

/-- 'laws.FnExactLayoutDecls': WHATEVER THE INPUT: true; the input reads as it did. -/
def fnExactLayoutDeclsSpec : ChangeSpec := { name := "fnExactLayoutDecls", vars := ["loop.example/s02126/impl.wayMoves"], fn := fun _ => fun
  | [d, g1] => { results := [.lit (.bool true)], args := [d], vars := [g1] }
  | _ => none }
def fnExactLayoutDeclsRow : OpenClaim := { program := "ytaapababeecmeaadoor", sum := "18812adff8a799bfb28be45b46db0f142c8a5f81f39e8fb7147d3d08504756fa", func := "loop.example/s02126/laws.FnExactLayoutDecls", spec := "fnExactLayoutDecls", inPlace := ["internal/bytealg.Compare"], unfollowed := true, recurses := true, named := ["loop.example/s02126/impl.wayMoves", "unicode/utf8.first", "unicode/utf8.acceptRanges"], apart := false, laid := [("unicode/utf8.acceptRanges", laid_unicode_utf8_acceptRanges), ("loop.example/s02126/impl.wayMoves", laid_loop_example_s02126_impl_wayMoves), ("unicode/utf8.first", laid_unicode_utf8_first)] }
def FnExactLayoutDeclsSaid : Prop := fnExactLayoutDeclsRow.holds Tryd.pinned (OpenSpec.ofChange fnExactLayoutDeclsSpec)

/-- ITS FALSE NEIGHBOUR: 'it returns false'. Refute it at one input. -/
def fnExactLayoutDeclsWrong : ChangeSpec := { name := "fnExactLayoutDecls", vars := ["loop.example/s02126/impl.wayMoves"], fn := fun _ => fun
  | [d, g1] => { results := [.lit (.bool false)], args := [d], vars := [g1] }
  | _ => none }
def FnExactLayoutDeclsWrongFalsely : Prop := fnExactLayoutDeclsRow.holds Tryd.pinned (OpenSpec.ofChange fnExactLayoutDeclsWrong)

/-- 'laws.FnExactShowLayout': WHATEVER THE INPUT: true; the input reads as it did. -/
def fnExactShowLayoutSpec : ChangeSpec := { name := "fnExactShowLayout", vars := ["loop.example/s02126/impl.wayMoves", "loop.example/s02126/impl.statementWords"], fn := fun _ => fun
  | [d, g1, g2] => { results := [.lit (.bool true)], args := [d], vars := [g1, g2] }
  | _ => none }
def fnExactShowLayoutRow : OpenClaim := { program := "ytaapababeecmeaadoor", sum := "18812adff8a799bfb28be45b46db0f142c8a5f81f39e8fb7147d3d08504756fa", func := "loop.example/s02126/laws.FnExactShowLayout", spec := "fnExactShowLayout", inPlace := ["internal/bytealg.Compare"], unfollowed := true, recurses := true, named := ["loop.example/s02126/impl.wayMoves", "unicode/utf8.first", "unicode/utf8.acceptRanges", "loop.example/s02126/impl.statementWords", "internal/strconv.uint64pow10", "math/bits.deBruijn32tab", "math/bits.deBruijn64tab"], apart := false, laid := [("math/bits.deBruijn32tab", laid_math_bits_deBruijn32tab), ("math/bits.deBruijn64tab", laid_math_bits_deBruijn64tab), ("internal/strconv.uint64pow10", laid_internal_strconv_uint64pow10), ("unicode/utf8.acceptRanges", laid_unicode_utf8_acceptRanges), ("loop.example/s02126/impl.statementWords", laid_loop_example_s02126_impl_statementWords), ("loop.example/s02126/impl.wayMoves", laid_loop_example_s02126_impl_wayMoves), ("unicode/utf8.first", laid_unicode_utf8_first)] }
def FnExactShowLayoutSaid : Prop := fnExactShowLayoutRow.holds Tryd.pinned (OpenSpec.ofChange fnExactShowLayoutSpec)

/-- ITS FALSE NEIGHBOUR: 'it returns false'. Refute it at one input. -/
def fnExactShowLayoutWrong : ChangeSpec := { name := "fnExactShowLayout", vars := ["loop.example/s02126/impl.wayMoves", "loop.example/s02126/impl.statementWords"], fn := fun _ => fun
  | [d, g1, g2] => { results := [.lit (.bool false)], args := [d], vars := [g1, g2] }
  | _ => none }
def FnExactShowLayoutWrongFalsely : Prop := fnExactShowLayoutRow.holds Tryd.pinned (OpenSpec.ofChange fnExactShowLayoutWrong)

/- THE SECOND FORM. 'bulk': how many values and letters a reading holds, each counted each time it is reached (what is shared counts as often as it is met; a slice's spare places count too). A statement '..UptoSaid' is the law's where the arguments, and the package variables that the reading takes, are together of bulk at most 1048576: NARROWER than '..Said'. Prove '..Said' where nothing that the law and all that it calls make is longer than what came in: it says more and counts as full. Else prove '..UptoSaid'. A law counts once. -/
mutual
def uptoBulk {H : Type} : DataW H → Nat
  | .lit (.string bytes) => bytes.length + 1
  | .lit _ => 1
  | .nil => 1
  | .ptr d => uptoBulk d + 1
  | .slice elems spare => uptoBulkAll elems + uptoBulkAll spare + 1
  | .agg parts => uptoBulkAll parts + 1
  | .iface _ d => uptoBulk d + 1
  | .map entries => uptoBulkEntries entries + 1
  | .held _ => 1
def uptoBulkAll {H : Type} : List (DataW H) → Nat
  | [] => 0
  | d :: r => uptoBulk d + uptoBulkAll r
def uptoBulkEntries {H : Type} : List (Lit × DataW H) → Nat
  | [] => 0
  | x :: r => uptoBulkEntry x + uptoBulkEntries r
def uptoBulkEntry {H : Type} : Lit × DataW H → Nat
  | (.string bytes, d) => bytes.length + uptoBulk d + 1
  | (_, d) => uptoBulk d + 1
 end
def uptoSmall : (H : Type) → List (DataW H) → Bool := fun _ ds => decide (uptoBulkAll ds ≤ 1048576)
def OpenSpec.upto (s : _root_.Go.ChangeSpec) : _root_.Go.OpenSpec := { _root_.Go.OpenSpec.ofChange s with cond := some uptoSmall }

/-- 'laws.FnExactValidLayout', WHERE WHAT IT READS IS OF BULK AT MOST 1048576: true; the input reads as it did. -/
def fnExactValidLayoutUptoRow : OpenClaim := { program := "ytaapababeecmeaadoor", sum := "18812adff8a799bfb28be45b46db0f142c8a5f81f39e8fb7147d3d08504756fa", func := "loop.example/s02126/laws.FnExactValidLayout", spec := "fnExactValidLayout", inPlace := ["internal/bytealg.Compare"], unfollowed := true, recurses := true, named := ["loop.example/s02126/impl.wayMoves", "unicode/utf8.first", "unicode/utf8.acceptRanges"], apart := false, laid := [("unicode/utf8.acceptRanges", laid_unicode_utf8_acceptRanges), ("loop.example/s02126/impl.wayMoves", laid_loop_example_s02126_impl_wayMoves), ("unicode/utf8.first", laid_unicode_utf8_first)], narrowed := true }
def FnExactValidLayoutUptoSaid : Prop := fnExactValidLayoutUptoRow.holds Tryd.pinned (OpenSpec.upto fnExactValidLayoutSpec)

/-- 'laws.FnExactLayoutDecls', WHERE WHAT IT READS IS OF BULK AT MOST 1048576: true; the input reads as it did. -/
def fnExactLayoutDeclsUptoRow : OpenClaim := { program := "ytaapababeecmeaadoor", sum := "18812adff8a799bfb28be45b46db0f142c8a5f81f39e8fb7147d3d08504756fa", func := "loop.example/s02126/laws.FnExactLayoutDecls", spec := "fnExactLayoutDecls", inPlace := ["internal/bytealg.Compare"], unfollowed := true, recurses := true, named := ["loop.example/s02126/impl.wayMoves", "unicode/utf8.first", "unicode/utf8.acceptRanges"], apart := false, laid := [("unicode/utf8.acceptRanges", laid_unicode_utf8_acceptRanges), ("loop.example/s02126/impl.wayMoves", laid_loop_example_s02126_impl_wayMoves), ("unicode/utf8.first", laid_unicode_utf8_first)], narrowed := true }
def FnExactLayoutDeclsUptoSaid : Prop := fnExactLayoutDeclsUptoRow.holds Tryd.pinned (OpenSpec.upto fnExactLayoutDeclsSpec)

/-- 'laws.FnExactShowLayout', WHERE WHAT IT READS IS OF BULK AT MOST 1048576: true; the input reads as it did. -/
def fnExactShowLayoutUptoRow : OpenClaim := { program := "ytaapababeecmeaadoor", sum := "18812adff8a799bfb28be45b46db0f142c8a5f81f39e8fb7147d3d08504756fa", func := "loop.example/s02126/laws.FnExactShowLayout", spec := "fnExactShowLayout", inPlace := ["internal/bytealg.Compare"], unfollowed := true, recurses := true, named := ["loop.example/s02126/impl.wayMoves", "unicode/utf8.first", "unicode/utf8.acceptRanges", "loop.example/s02126/impl.statementWords", "internal/strconv.uint64pow10", "math/bits.deBruijn32tab", "math/bits.deBruijn64tab"], apart := false, laid := [("math/bits.deBruijn32tab", laid_math_bits_deBruijn32tab), ("math/bits.deBruijn64tab", laid_math_bits_deBruijn64tab), ("internal/strconv.uint64pow10", laid_internal_strconv_uint64pow10), ("unicode/utf8.acceptRanges", laid_unicode_utf8_acceptRanges), ("loop.example/s02126/impl.statementWords", laid_loop_example_s02126_impl_statementWords), ("loop.example/s02126/impl.wayMoves", laid_loop_example_s02126_impl_wayMoves), ("unicode/utf8.first", laid_unicode_utf8_first)], narrowed := true }
def FnExactShowLayoutUptoSaid : Prop := fnExactShowLayoutUptoRow.holds Tryd.pinned (OpenSpec.upto fnExactShowLayoutSpec)

end Rows
end Go.Proofs.YtaapababeecmeaaDoor

/-
  Proved: laws.FnExactShowLayout answers true for every argument (ShowLayout answers as its specification, in new memory that nothing else shares, and writes into no argument), where the seven tables (utf8's two, those of math/bits and strconv, impl.wayMoves and impl.statementWords) are laid as the texts lay them; the card ties them to the program's text.
-/
import Derived.Test.YtaapababeecmeaaDoorJShowLayoutLSH
import Derived.Test.YtaapababeecmeaaDoorJShowLayoutSSH
import Derived.Test.YtaapababeecmeaaDoorJShowLayoutISH
import Derived.Test.YtaapababeecmeaaDoorJShowLayoutRTg
import Derived.Test.YtaapababeecmeaaDoorCards
import Derived.Test.YtaapababeecmeaaDoorTie
import Derived.ProofKit
import Derived.OpenShut
import Derived.OpenVars
import Derived.ChangeVars
import Derived.Deep.DeepHandedRow
import Derived.Lib.LaidU8
namespace Go.Proofs.YtaapababeecmeaaDoor.fnExactShowLayout
open Go.ChangeShapes Go.WideShapes Go.ChangeAt Go.RowKit

theorem own : ownKnob Tryd.prog.godebug = none := by kernel_rfl
theorem laidOut : laidOutB Tryd.prog = true := by kernel_rfl
theorem first_eq : Rows.laid_unicode_utf8_first = Lib.firstData := by kernel_rfl
theorem accept_eq : (Rows.laid_unicode_utf8_acceptRanges : DataW Unit) = Lib.acceptData := by kernel_rfl
theorem tabs {W : World} (h : laidMet Tryd.prog Rows.fnExactShowLayoutRow.laid W) : Lib.Utf8Tabs 4 5 W :=
  utf8Tabs_of_reads (ρ := Tryd.lays260_ren) Tryd.lays260 ⟨by kernel_rfl, by kernel_rfl, by kernel_rfl, by kernel_rfl, by kernel_rfl, by kernel_rfl, by kernel_rfl⟩
    (first_eq ▸ Lib.laidMet.reads h (by simp [Rows.fnExactShowLayoutRow])) (accept_eq ▸ Lib.laidMet.reads h (by simp [Rows.fnExactShowLayoutRow]))
theorem moves {W : World} (h : laidMet Tryd.prog Rows.fnExactShowLayoutRow.laid W) : MvOk W := by
  obtain ⟨g, t, cs, fuel, p, hg, hty, hvar, hd⟩ := Lib.laidMet.reads h (show ("loop.example/s02126/impl.wayMoves", Rows.laid_loop_example_s02126_impl_wayMoves) ∈ Rows.fnExactShowLayoutRow.laid by simp [Rows.fnExactShowLayoutRow])
  obtain rfl : g = 1 := (Option.some.inj ((show Tryd.prog.globalNamed "loop.example/s02126/impl.wayMoves" = some 1 by kernel_rfl).symm.trans hg)).symm
  obtain rfl : t = 88 := (Option.some.inj ((show (Tryd.prog.globals[1]?).map (·.type) = some 88 by kernel_rfl).symm.trans hty)).symm
  have hst : Tryd.prog.cellsOf 87 = 2 := by kernel_rfl
  have c3 : Tryd.prog.cellsOf 3 = 1 := by kernel_rfl
  have key : ∀ (i : Nat) (a b : Int), i < 4 → [((0 : Int), (-1 : Int)), (1, 0), (0, 1), (-1, 0)][i]? = some (a, b) → W.cell? ⟨1, i * 2, none⟩ = some (.int .i64 a) ∧ W.cell? ⟨1, i * 2 + 1, none⟩ = some (.int .i64 b) := by
    intro i a b hi hab
    obtain ⟨fuel', d, q, hdi, he⟩ := Lib.array_elem Tryd.underlying88 hd i hi
    rw [hst] at he
    have hd2 : d = .agg ([a, b].map fun z => .lit (.int .i64 z)) := by
      match i, hi with
      | 0, _ => simp at hdi hab; obtain ⟨rfl, rfl⟩ := hab; exact hdi.symm
      | 1, _ => simp at hdi hab; obtain ⟨rfl, rfl⟩ := hab; exact hdi.symm
      | 2, _ => simp at hdi hab; obtain ⟨rfl, rfl⟩ := hab; exact hdi.symm
      | 3, _ => simp at hdi hab; obtain ⟨rfl, rfl⟩ := hab; exact hdi.symm
    subst hd2
    have hcs := Lib.ints_of_struct Tryd.underlying87 (fun j f hj => by
      match j, hj with
      | 0, hj => simp at hj; subst hj; exact ⟨Tryd.underlying3, rfl, c3⟩
      | 1, hj => simp at hj; subst hj; exact ⟨Tryd.underlying3, rfl, c3⟩
      | j + 2, hj => simp at hj) (by rw [hst]; rfl) he
    have e0 := congrArg (·[0]?) hcs
    have e1 := congrArg (·[1]?) hcs
    simp only [List.getElem?_take, List.getElem?_drop] at e0 e1
    constructor
    · rw [World.var?_cell hg hvar (i * 2), ← Array.getElem?_toList]
      simpa using e0
    · rw [World.var?_cell hg hvar (i * 2 + 1), ← Array.getElem?_toList]
      simpa using e1
  obtain ⟨k0, k1⟩ := key 0 0 (-1) (by omega) rfl
  obtain ⟨k2, k3⟩ := key 1 1 0 (by omega) rfl
  obtain ⟨k4, k5⟩ := key 2 0 1 (by omega) rfl
  obtain ⟨k6, k7⟩ := key 3 (-1) 0 (by omega) rfl
  exact ⟨k0, k1, k2, k3, k4, k5, k6, k7⟩

def zs64 : List Int := [0, 1, 56, 2, 57, 49, 28, 3, 61, 58, 42, 50, 38, 29, 17, 4, 62, 47, 59, 36, 45, 43, 51, 22, 53, 39, 33, 30, 24, 18, 12, 5, 63, 55, 48, 27, 60, 41, 37, 16, 46, 35, 44, 21, 52, 32, 23, 11, 54, 26, 40, 15, 34, 20, 31, 10, 25, 14, 19, 9, 13, 8, 7, 6]
theorem db_eq : (Rows.laid_math_bits_deBruijn64tab : DataW Unit) = Lib.tabData .u8 zs64 := by kernel_rfl
theorem nDB : Tryd.prog.globalNamed "math/bits.deBruijn64tab" = some 7 := by kernel_rfl
theorem tDB : (Tryd.prog.globals[7]?).map (·.type) = some 117 := by kernel_rfl
theorem cDB : Tryd.prog.cellsOf 117 = 64 := by kernel_rfl
theorem c5 : Tryd.prog.cellsOf 5 = 1 := by kernel_rfl
theorem db_cell {W : World} (h : laidMet Tryd.prog Rows.fnExactShowLayoutRow.laid W) : W.cell? ⟨7, 15, none⟩ = some (.int .u8 4) := by
  have h1 : Lib.VarReads Tryd.prog W "math/bits.deBruijn64tab" (Lib.tabData .u8 zs64) := db_eq ▸ Lib.laidMet.reads h (by simp [Rows.fnExactShowLayoutRow])
  obtain ⟨g, t, cs, fuel, p, hg, hty, hvar, hd⟩ := h1
  obtain rfl := Option.some.inj (nDB.symm.trans hg)
  obtain rfl := Option.some.inj (tDB.symm.trans hty)
  have hcs := Lib.cells_of_tab Tryd.underlying117 Tryd.underlying5 c5 cDB hd
  have := World.var?_cell hg hvar 15
  rw [this, ← Array.getElem?_toList, hcs]
  rfl

theorem str_elem {H : Type} {enc : TypeId × Value → H} {w : World} {base : Nat} {sp : Nat → Bool} {held : Bool} {fuel i : Nat} {cs : List Value} {l : List UInt8} {q : List MemPlace} (c9 : Tryd.prog.cellsOf 9 = 1)
    (he : DataW.trod enc Tryd.prog w base sp held fuel 9 ((cs.drop (i * Tryd.prog.cellsOf 9)).take (Tryd.prog.cellsOf 9)) = some (.lit (.string l), q)) : cs[i]? = some (.string ⟨l.toArray⟩) := by
  rw [c9, Nat.mul_one] at he
  obtain ⟨s', hcs, hx, _⟩ := DataW.trod_string Tryd.underlying9 he
  have e0 := congrArg (·[0]?) hcs
  simp only [List.getElem?_take, List.getElem?_drop] at e0
  have hl : l = s'.data.toList := by
    have := congrArg Prod.fst hx
    simpa using this
  subst hl
  simpa using e0
set_option maxRecDepth 1000000 in
theorem words {W : World} (h : laidMet Tryd.prog Rows.fnExactShowLayoutRow.laid W) : StW W := by
  obtain ⟨g, t, cs, fuel, p, hg, hty, hvar, hd⟩ := Lib.laidMet.reads h (show ("loop.example/s02126/impl.statementWords", Rows.laid_loop_example_s02126_impl_statementWords) ∈ Rows.fnExactShowLayoutRow.laid by simp [Rows.fnExactShowLayoutRow])
  obtain rfl : g = 0 := (Option.some.inj ((show Tryd.prog.globalNamed "loop.example/s02126/impl.statementWords" = some 0 by kernel_rfl).symm.trans hg)).symm
  obtain rfl : t = 84 := (Option.some.inj ((show (Tryd.prog.globals[0]?).map (·.type) = some 84 by kernel_rfl).symm.trans hty)).symm
  have c9 : Tryd.prog.cellsOf 9 = 1 := by kernel_rfl
  constructor
  · obtain ⟨fuel', d, q, hdi, he⟩ := Lib.array_elem Tryd.underlying84 hd 14 (by omega)
    have hd2 : d = .lit (.string [115, 116, 97, 116, 105, 111, 110]) := by simp at hdi; exact hdi.symm
    subst hd2
    have e := str_elem (i := 14) c9 he
    rw [World.var?_cell hg hvar 14, ← Array.getElem?_toList, e]
    exact congrArg (fun x => some (Value.string x)) (by kernel_rfl)
  · obtain ⟨fuel', d, q, hdi, he⟩ := Lib.array_elem Tryd.underlying84 hd 15 (by omega)
    have hd2 : d = .lit (.string [99, 104, 97, 114, 103, 101, 114]) := by simp at hdi; exact hdi.symm
    subst hd2
    have e := str_elem (i := 15) c9 he
    rw [World.var?_cell hg hvar 15, ← Array.getElem?_toList, e]
    exact congrArg (fun x => some (Value.string x)) (by kernel_rfl)

set_option maxRecDepth 1000000 in
theorem contract (H : Type) (enc : TypeId × Value → H) (W : World) (base : Nat) (args : Array Value) (ds gs : List (DataW H)) (before : List MemPlace)
    (hval0 : ∀ (j : Nat) t v, Tryd.f5.params[j]? = some t → args[j]? = some v → Value.okWide Tryd.prog W .any base t v)
    (hW : DataW.Whole enc Tryd.prog Tryd.f5.params.toList Rows.fnExactShowLayoutSpec.vars false W args.toList ds gs before) (hL : laidMetH Tryd.prog Rows.fnExactShowLayoutRow.laid W) :
    Calls Tryd.prog 5 args W fun e W' => ∃ v, e = .returned v ∧ Rows.fnExactShowLayoutSpec.post enc Tryd.prog Tryd.f5 false true false false W args v W' := by
  have hval : ∀ (j : Nat) t v, Tryd.f5.params[j]? = some t → args[j]? = some v → Value.okWide Tryd.prog W .any base t v := hval0
  have hW' := hW
  obtain ⟨p, q, hA0, hV, rfl, hfz, hnd⟩ := hW
  have hA : DataW.TrodAll enc Tryd.prog W 0 (fun _ => true) true Tryd.f5.params.toList args.toList ds p := hA0
  rw [Tryd.params5] at hA hval
  obtain ⟨v0, vs0, d0, ds0, p0, q0, hargs, rfl, rfl, h0, r0⟩ := trodAll_cons hA
  obtain ⟨rfl, rfl, rfl⟩ := trodAll_nil r0
  obtain rfl : args = #[v0] := by cases args; simp_all
  obtain ⟨_, _, _, _, gv0, _, _, _, _, _, gv1, _, rfl, _⟩ := trodVars_two hV
  obtain ⟨cs0, hcs0, hz0⟩ := okWide_struct Tryd.underlying25 (hval 0 25 v0 rfl rfl)
  have k0 := h0
  have lt0 : ∀ x ∈ p0, x.block < W.heap.size := by obtain ⟨m, hm⟩ := k0; exact DataW.trod_lt m _ _ _ hm
  obtain ⟨g0, u0_2, u0_3, u0_4, he0, hv0, hl0⟩ := (show ∃ (d : Ly) (u0_2 u0_3 u0_4 : Value), v0 = lyagg d u0_2 u0_3 u0_4 ∧ LyV W d u0_2 u0_3 u0_4 ∧ LyL d from by
    obtain ⟨fuel, hf⟩ := h0
    obtain ⟨d, u0_2, u0_3, u0_4, hc, hv, hl⟩ := ly_of Tryd.underlying3 (by kernel_rfl) Tryd.underlying22 (by kernel_rfl) Tryd.underlying23 Tryd.underlying39 Tryd.underlying5 (by kernel_rfl) (by kernel_rfl) Tryd.underlying71 (by kernel_rfl) ⟨rfl, rfl, rfl⟩ ⟨rfl, rfl, rfl⟩ (by kernel_rfl) Tryd.underlying25 (by kernel_rfl) ⟨rfl, rfl, rfl, rfl, rfl⟩ ⟨rfl, rfl, rfl, rfl, rfl⟩ hf
    refine ⟨d, u0_2, u0_3, u0_4, ?_, hv, hl⟩
    rw [hcs0] at hc ⊢
    have hc' : cs0.toList = _ := hc
    unfold lyagg
    rw [← hc'])
  subst he0
  clear hA0 hval0
  refine (lawSH (fun d => byt (shL d)) (fun d w => LyL d ∧ MvOk w ∧ Lib.Utf8Tabs 4 5 w ∧ w.cell? ⟨7, 15, none⟩ = some (.int .u8 4) ∧ StW w) (fun _ _ _ h hb => ⟨h.1, h.2.1.below hb, Utf8Tabs_below h.2.2.1 hb, cell_kept h.2.2.2.1 hb, h.2.2.2.2.below hb⟩) (fun d _ => by rw [byt_size]; have := shL_le d; omega) (fun d _ _ _ w hb _ h => specSH_any d _ _ _ w hb h) (fun d _ _ _ w hb hq h => implSH_any d _ _ _ w hb hq.1 hq.2.1 hq.2.2.1 hq.2.2.2.1 hq.2.2.2.2 h) g0 _ _ _ W hl0 ⟨hl0, moves hL, tabs hL, db_cell hL, words hL⟩ hv0).mono fun e W' ⟨he, bel⟩ => ?_
  subst he
  exact ⟨_, rfl, _, _, _, _, _, _, hW', trodAll_mk1 (shut_bool Tryd.underlying4 _), (trodAll_cons_mk (Below.trod laidOut (by kernel_rfl) (of_decide_eq_true (by kernel_rfl)) k0 bel lt0) trodAll_mk0), Below.trodVars laidOut bel (by kernel_rfl) hV, bel.frame _, fun h => by cases h⟩

/-- A world for the witness: the settled one, what is listed as it is laid. -/
def layCells (cs : Array Value) : Obj → Obj
  | .cells _ t frozen => .cells cs t frozen
  | o => o
def firstCells : Array Value := ((List.range 256).map fun c => Value.int .u8 (Lib.firstT c : Int)).toArray
def acceptCells : Array Value := ((List.range 32).map fun c => Value.int .u8 (if c % 2 = 0 then (Lib.accLo (c / 2) : Int) else (Lib.accHi (c / 2) : Int))).toArray
def moveCells : Array Value := #[.int .i64 0, .int .i64 (-1), .int .i64 1, .int .i64 0, .int .i64 0, .int .i64 1, .int .i64 (-1), .int .i64 0]
def tabCells (d : DataW Unit) : Array Value :=
  match d with
  | .agg ps => (ps.map fun x => match x with | .lit (.int k n) => Value.int k n | .lit (.string l) => Value.string ⟨l.toArray⟩ | _ => Value.nilIface).toArray
  | _ => #[]
def IsLaid (os : Os) (lw : World) : Prop :=
  lw = { World.holding Tryd.prog os ⟨#[], #[], []⟩ with heap := ((((World.holding Tryd.prog os ⟨#[], #[], []⟩).heap.modify 4 (layCells firstCells)).modify 5 (layCells acceptCells)).modify 1 (layCells moveCells)).modify 3 (layCells (tabCells Rows.laid_internal_strconv_uint64pow10)) |>.modify 6 (layCells (tabCells Rows.laid_math_bits_deBruijn32tab)) |>.modify 7 (layCells (tabCells Rows.laid_math_bits_deBruijn64tab)) |>.modify 0 (layCells (tabCells Rows.laid_loop_example_s02126_impl_statementWords)) }
theorem laid_met (os : Os) (lw : World) (h : IsLaid os lw) : laidMet Tryd.prog Rows.fnExactShowLayoutRow.laid (lw.forCall (fun _ _ => 0) ⟨#[], #[.agg #[.int .i64 0, .int .i64 0, .slice none 0 0, .slice none 0 0, .slice none 0 0]], []⟩).memory := by
  unfold IsLaid at h
  subst h
  exact laidMet_of_run' 8 (by kernel_rfl) (by kernel_rfl)
theorem reads (os : Os) (lw : World) (h : IsLaid os lw) {H : Type} (enc : TypeId × Value → H) : ∃ x, DataW.whole enc Tryd.prog (lw.forCall (fun _ _ => 0) ⟨#[], #[.agg #[.int .i64 0, .int .i64 0, .slice none 0 0, .slice none 0 0, .slice none 0 0]], []⟩).memory Tryd.f5.params.toList Rows.fnExactShowLayoutSpec.vars false #[(.agg #[.int .i64 0, .int .i64 0, .slice none 0 0, .slice none 0 0, .slice none 0 0] : Value)].toList 8 = some x := by
  unfold IsLaid at h
  subst h
  exact Option.isSome_iff_exists.1 (by kernel_rfl)

set_option maxRecDepth 100000 in
theorem lifted (os : Os) (started : os.Started) (H : Type) (enc : TypeId × Value → H) (F : Stop.Interp) :
    ReturnsInHanded {} Tryd.checked os 5 .any ((OpenSpec.ofChange Rows.fnExactShowLayoutSpec).preRow enc Tryd.prog Tryd.f5 Rows.fnExactShowLayoutRow.domain false Rows.fnExactShowLayoutRow.laid) (((OpenSpec.ofChange Rows.fnExactShowLayoutSpec).at F).post enc Tryd.prog Tryd.f5 false true false false) := by
  obtain ⟨lw, hlw⟩ : ∃ lw, IsLaid os lw := ⟨_, rfl⟩
  obtain ⟨x, hx⟩ := reads os lw hlw enc
  have hm := laid_met os lw hlw
  unfold IsLaid at hlw
  refine returnsInHanded_of_row (C := Tryd.checked) (s := OpenSpec.ofChange Rows.fnExactShowLayoutSpec) own started (by kernel_rfl) Tryd.func5
    (witness_row_at (enc := enc) (C := Tryd.checked) false lw #[.agg #[.int .i64 0, .int .i64 0, .slice none 0 0, .slice none 0 0, .slice none 0 0]] (by subst hlw; rfl) (by subst hlw; kernel_rfl) (by subst hlw; kernel_rfl) (by subst hlw; kernel_rfl)
      (OpenSpec.preRow_of_cond 8 hx (by subst hlw; kernel_rfl) (fun k hk => by cases hk) (by subst hlw; kernel_rfl) hm)) ?_
  intro W base args ds gs before hval hW _ _ _ hL _ _
  exact contract H enc W base args ds gs before hval hW hL

theorem said : Rows.FnExactShowLayoutSaid :=
  OpenClaim.holds_of_cond 5 Tryd.f5 rfl rfl rfl rfl rfl rfl rfl ⟨rfl, rfl, rfl, rfl, rfl⟩ rfl rfl rfl rfl rfl (by kernel_rfl) Tryd.func5 (by kernel_rfl)
    (of_decide_eq_true (by kernel_rfl)) (by unfold Func.isWrapper; first | (rw [if_pos (by decide +kernel)]; kernel_rfl) | (rw [if_neg (by decide +kernel)]; exact ⟨rfl, rfl⟩))
    (fun os started H enc _ F => by rw [OpenClaim.pre_eq_preRow]; exact lifted os started H enc F)

theorem plain (f : FuncId) (fn : Func) (hf : Tryd.pinned.checked.prog.funcNamed "loop.example/s02126/laws.FnExactShowLayout" = some f) (hfn : Tryd.pinned.checked.prog.funcs[f]? = some fn) :
    false = Tryd.pinned.checked.prog.looks [] ∧ ∀ (j : Nat) t, fn.params[j]? = some t → Tryd.pinned.checked.prog.wantsStandIn t = false := by
  obtain rfl : f = 5 := Option.some.inj ((show Tryd.prog.funcNamed "loop.example/s02126/laws.FnExactShowLayout" = some 5 by kernel_rfl).symm.trans hf) |>.symm
  obtain rfl : fn = Tryd.f5 := (Option.some.inj (Tryd.func5.symm.trans hfn)).symm
  refine ⟨by kernel_rfl, fun j t ht => ?_⟩
  rw [Tryd.params5] at ht
  obtain rfl : t = 25 := by simpa using Array.mem_of_getElem? ht
  exact (show Tryd.prog.wantsStandIn 25 = false by kernel_rfl)

theorem card : Rows.FnExactShowLayoutCardSaid :=
  Claim7.holds_tied_plain_at .later [] _ _ _ _ said (fun _ h => by cases h) (by kernel_rfl) (fun _ h => by cases h) fnExactShowLayout_row_tie rfl ⟨rfl, rfl⟩ (by kernel_rfl) rfl plain (by kernel_rfl)
end Go.Proofs.YtaapababeecmeaaDoor.fnExactShowLayout
namespace Go.Proofs.YtaapababeecmeaaDoor
theorem showLayout_holds : Rows.FnExactShowLayoutCardSaid := fnExactShowLayout.card
#print axioms showLayout_holds
end Go.Proofs.YtaapababeecmeaaDoor

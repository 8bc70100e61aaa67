/-
  Proved: laws.FnExactRunFleet answers true for every argument (RunFleet answers as its specification, writes into no argument, and its answer owns its memory), where utf8's two tables and impl.wayMoves are laid as the texts lay them; the card ties them to the program's text.
-/
import Derived.Test.YteicpjbeihabnaaDoorJRunFleetLRn
import Derived.Test.YteicpjbeihabnaaDoorJRunFleetSRR
import Derived.Test.YteicpjbeihabnaaDoorJRunFleetIRR
import Derived.Test.YteicpjbeihabnaaDoorJRunFleetRTg
import Derived.Test.YteicpjbeihabnaaDoorJRunFleetRTg
import Derived.Test.YteicpjbeihabnaaDoorCards
import Derived.Test.YteicpjbeihabnaaDoorTie
import Derived.ProofKit
import Derived.OpenShut
import Derived.OpenVars
import Derived.ChangeVars
import Derived.Deep.DeepHandedRow
import Derived.Lib.LaidU8
namespace Go.Proofs.YteicpjbeihabnaaDoor.fnExactRunFleet
open Go.ChangeShapes Go.WideShapes Go.ChangeAt Go.RowKit

theorem own : ownKnob Tryd.prog.godebug = none := by kernel_rfl
theorem laidOut : laidOutB Tryd.prog = true := by kernel_rfl
theorem first_eq : Rows.laid_unicode_utf8_first = Lib.firstData := by kernel_rfl
theorem accept_eq : (Rows.laid_unicode_utf8_acceptRanges : DataW Unit) = Lib.acceptData := by kernel_rfl
theorem tabs {W : World} (h : laidMet Tryd.prog Rows.fnExactRunFleetRow.laid W) : Lib.Utf8Tabs 2 3 W :=
  utf8Tabs_of_reads (ρ := Tryd.lays260_ren) Tryd.lays260 ⟨by kernel_rfl, by kernel_rfl, by kernel_rfl, by kernel_rfl, by kernel_rfl, by kernel_rfl, by kernel_rfl⟩
    (first_eq ▸ Lib.laidMet.reads h (by simp [Rows.fnExactRunFleetRow])) (accept_eq ▸ Lib.laidMet.reads h (by simp [Rows.fnExactRunFleetRow]))
theorem moves {W : World} (h : laidMet Tryd.prog Rows.fnExactRunFleetRow.laid W) : MvOk W := by
  obtain ⟨g, t, cs, fuel, p, hg, hty, hvar, hd⟩ := Lib.laidMet.reads h (show ("loop.example/s02126/impl.wayMoves", Rows.laid_loop_example_s02126_impl_wayMoves) ∈ Rows.fnExactRunFleetRow.laid by simp [Rows.fnExactRunFleetRow])
  obtain rfl : g = 0 := (Option.some.inj ((show Tryd.prog.globalNamed "loop.example/s02126/impl.wayMoves" = some 0 by kernel_rfl).symm.trans hg)).symm
  obtain rfl : t = 108 := (Option.some.inj ((show (Tryd.prog.globals[0]?).map (·.type) = some 108 by kernel_rfl).symm.trans hty)).symm
  have hst : Tryd.prog.cellsOf 107 = 2 := by kernel_rfl
  have c3 : Tryd.prog.cellsOf 3 = 1 := by kernel_rfl
  have key : ∀ (i : Nat) (a b : Int), i < 4 → [((0 : Int), (-1 : Int)), (1, 0), (0, 1), (-1, 0)][i]? = some (a, b) → W.cell? ⟨0, i * 2, none⟩ = some (.int .i64 a) ∧ W.cell? ⟨0, i * 2 + 1, none⟩ = some (.int .i64 b) := by
    intro i a b hi hab
    obtain ⟨fuel', d, q, hdi, he⟩ := Lib.array_elem Tryd.underlying108 hd i hi
    rw [hst] at he
    have hd2 : d = .agg ([a, b].map fun z => .lit (.int .i64 z)) := by
      match i, hi with
      | 0, _ => simp at hdi hab; obtain ⟨rfl, rfl⟩ := hab; exact hdi.symm
      | 1, _ => simp at hdi hab; obtain ⟨rfl, rfl⟩ := hab; exact hdi.symm
      | 2, _ => simp at hdi hab; obtain ⟨rfl, rfl⟩ := hab; exact hdi.symm
      | 3, _ => simp at hdi hab; obtain ⟨rfl, rfl⟩ := hab; exact hdi.symm
    subst hd2
    have hcs := Lib.ints_of_struct Tryd.underlying107 (fun j f hj => by
      match j, hj with
      | 0, hj => simp at hj; subst hj; exact ⟨Tryd.underlying3, rfl, c3⟩
      | 1, hj => simp at hj; subst hj; exact ⟨Tryd.underlying3, rfl, c3⟩
      | j + 2, hj => simp at hj) (by rw [hst]; rfl) he
    have e0 := congrArg (·[0]?) hcs
    have e1 := congrArg (·[1]?) hcs
    simp only [List.getElem?_take, List.getElem?_drop] at e0 e1
    constructor
    · rw [World.var?_cell hg hvar (i * 2), ← Array.getElem?_toList]
      simpa using e0
    · rw [World.var?_cell hg hvar (i * 2 + 1), ← Array.getElem?_toList]
      simpa using e1
  obtain ⟨k0, k1⟩ := key 0 0 (-1) (by omega) rfl
  obtain ⟨k2, k3⟩ := key 1 1 0 (by omega) rfl
  obtain ⟨k4, k5⟩ := key 2 0 1 (by omega) rfl
  obtain ⟨k6, k7⟩ := key 3 (-1) 0 (by omega) rfl
  exact ⟨k0, k1, k2, k3, k4, k5, k6, k7⟩

set_option maxRecDepth 100000 in
theorem contract (H : Type) (enc : TypeId × Value → H) (W : World) (base : Nat) (args : Array Value) (ds gs : List (DataW H)) (before : List MemPlace)
    (hval0 : ∀ (j : Nat) t v, Tryd.f8.params[j]? = some t → args[j]? = some v → Value.okWide Tryd.prog W .any base t v)
    (hW : DataW.Whole enc Tryd.prog Tryd.f8.params.toList Rows.fnExactRunFleetSpec.vars false W args.toList ds gs before) (hL : laidMetH Tryd.prog Rows.fnExactRunFleetRow.laid W) :
    Calls Tryd.prog 8 args W fun e W' => ∃ v, e = .returned v ∧ Rows.fnExactRunFleetSpec.post enc Tryd.prog Tryd.f8 false true false false W args v W' := by
  have hval : ∀ (j : Nat) t v, Tryd.f8.params[j]? = some t → args[j]? = some v → Value.okWide Tryd.prog W .any base t v := hval0
  have hW' := hW
  obtain ⟨p, q, hA0, hV, rfl, hfz, hnd⟩ := hW
  have hA : DataW.TrodAll enc Tryd.prog W 0 (fun _ => true) true Tryd.f8.params.toList args.toList ds p := hA0
  rw [Tryd.params8] at hA hval
  obtain ⟨v0, vs0, d0, ds0, p0, q0, hargs, rfl, rfl, h0, r0⟩ := trodAll_cons hA
  obtain ⟨v1, vs1, d1, ds1, p1, q1, rfl, rfl, rfl, h1, r1⟩ := trodAll_cons r0
  obtain ⟨v2, vs2, d2, ds2, p2, q2, rfl, rfl, rfl, h2, r2⟩ := trodAll_cons r1
  obtain ⟨rfl, rfl, rfl⟩ := trodAll_nil r2
  obtain rfl : args = #[v0, v1, v2] := by cases args; simp_all
  obtain ⟨_, _, _, _, gv, _, rfl, _⟩ := trodVars_one hV
  obtain ⟨cs0, hcs0, hz0⟩ := okWide_struct Tryd.underlying25 (hval 0 25 v0 rfl rfl)
  have k0 := h0
  have lt0 : ∀ x ∈ p0, x.block < W.heap.size := by obtain ⟨m, hm⟩ := k0; exact DataW.trod_lt m _ _ _ hm
  obtain ⟨g0, u0_2, u0_3, u0_4, he0, hv0, hl0⟩ := (show ∃ (d : Tb) (u0_2 u0_3 u0_4 : Value), v0 = tbagg d u0_2 u0_3 u0_4 ∧ TbV W d u0_2 u0_3 u0_4 ∧ TbL d from by
    obtain ⟨fuel, hf⟩ := h0
    obtain ⟨d, u0_2, u0_3, u0_4, hc, hv, hl⟩ := tb_of Tryd.underlying3 (by kernel_rfl) Tryd.underlying22 Tryd.underlying26 Tryd.underlying5 (by kernel_rfl) (by kernel_rfl) Tryd.underlying92 (by kernel_rfl) ⟨rfl, rfl, rfl⟩ ⟨rfl, rfl, rfl⟩ (by kernel_rfl) Tryd.underlying23 Tryd.underlying40 (by kernel_rfl) (by kernel_rfl) Tryd.underlying25 (by kernel_rfl) ⟨rfl, rfl, rfl, rfl, rfl⟩ ⟨rfl, rfl, rfl, rfl, rfl⟩ hf
    refine ⟨d, u0_2, u0_3, u0_4, ?_, hv, hl⟩
    rw [hcs0] at hc ⊢
    have hc' : cs0.toList = _ := hc
    unfold tbagg
    rw [← hc'])
  subst he0
  obtain ⟨a1, len1, cap1, rfl⟩ := okWide_slice Tryd.underlying46 (hval 1 46 v1 rfl rfl)
  have k1 := h1
  have lt1 : ∀ x ∈ p1, x.block < W.heap.size := by obtain ⟨m, hm⟩ := k1; exact DataW.trod_lt m _ _ _ hm
  obtain ⟨s1, hs1, hl1⟩ := (show ∃ s : List Ro, RoS W (.slice a1 len1 cap1) s ∧ RoL s from by obtain ⟨fuel, hf⟩ := h1; exact ros_of Tryd.underlying46 Tryd.underlying3 (by kernel_rfl) Tryd.underlying4 (by kernel_rfl) Tryd.underlying79 (by kernel_rfl) ⟨rfl, rfl, rfl, rfl, rfl⟩ ⟨rfl, rfl, rfl, rfl, rfl⟩ hf)
  obtain ⟨a2, rfl, rfl, rfl, w2⟩ := open_int Tryd.underlying3 (hval 2 3 v2 rfl rfl) h2
  clear hA0 hval0
  refine (lawRn a2 (rnF a2) (rnC a2) (rnT a2) (fun d L w => TbL d ∧ RoL L ∧ MvOk w ∧ Lib.Utf8Tabs 2 3 w) (fun _ _ _ _ h hb => ⟨h.1, h.2.1, h.2.2.1.below hb, Utf8Tabs_below h.2.2.2 hb⟩) (fun d L _ h => rnF_len a2 d L h) (fun d _ _ _ L u w hb hL _ h hu hn => specRn_any a2 d _ _ _ L u w hb hL h hu hn) (fun d _ _ _ L u w hb hL hq h hu => implRn_any a2 d _ _ _ L u w hb hL hq.1 hq.2.1 hq.2.2.1 hq.2.2.2 h hu) g0 _ _ _ s1 _ W hl0 hl1 ⟨hl0, hl1, moves hL, tabs hL⟩ hv0 hs1).mono fun e W' ⟨he, bel⟩ => ?_
  subst he
  exact ⟨_, rfl, _, _, _, _, _, _, hW', trodAll_mk1 (shut_bool Tryd.underlying4 _), (trodAll_cons_mk (Below.trod laidOut (by kernel_rfl) (of_decide_eq_true (by kernel_rfl)) k0 bel lt0) (trodAll_cons_mk (Below.trod laidOut (by kernel_rfl) (of_decide_eq_true (by kernel_rfl)) k1 bel lt1) (trodAll_cons_mk (shut_int Tryd.underlying3 w2) trodAll_mk0))), Below.trodVars laidOut bel (by kernel_rfl) hV, bel.frame _, fun h => by cases h⟩

/-- A world for the witness: the settled one, what is listed as it is laid. -/
def layCells (cs : Array Value) : Obj → Obj
  | .cells _ t frozen => .cells cs t frozen
  | o => o
def firstCells : Array Value := ((List.range 256).map fun c => Value.int .u8 (Lib.firstT c : Int)).toArray
def acceptCells : Array Value := ((List.range 32).map fun c => Value.int .u8 (if c % 2 = 0 then (Lib.accLo (c / 2) : Int) else (Lib.accHi (c / 2) : Int))).toArray
def moveCells : Array Value := #[.int .i64 0, .int .i64 (-1), .int .i64 1, .int .i64 0, .int .i64 0, .int .i64 1, .int .i64 (-1), .int .i64 0]
def IsLaid (os : Os) (lw : World) : Prop :=
  lw = { World.holding Tryd.prog os ⟨#[], #[], []⟩ with heap := ((((World.holding Tryd.prog os ⟨#[], #[], []⟩).heap.modify 2 (layCells firstCells)).modify 3 (layCells acceptCells)).modify 0 (layCells moveCells)) }
theorem laid_met (os : Os) (lw : World) (h : IsLaid os lw) : laidMet Tryd.prog Rows.fnExactRunFleetRow.laid (lw.forCall (fun _ _ => 0) ⟨#[], #[.agg #[.int .i64 0, .int .i64 0, .slice none 0 0, .slice none 0 0, .slice none 0 0], .slice none 0 0, .int .i64 0], []⟩).memory := by
  unfold IsLaid at h
  subst h
  exact laidMet_of_run' 8 (by kernel_rfl) (by kernel_rfl)
theorem reads (os : Os) (lw : World) (h : IsLaid os lw) {H : Type} (enc : TypeId × Value → H) : ∃ x, DataW.whole enc Tryd.prog (lw.forCall (fun _ _ => 0) ⟨#[], #[.agg #[.int .i64 0, .int .i64 0, .slice none 0 0, .slice none 0 0, .slice none 0 0], .slice none 0 0, .int .i64 0], []⟩).memory Tryd.f8.params.toList Rows.fnExactRunFleetSpec.vars false (#[.agg #[.int .i64 0, .int .i64 0, .slice none 0 0, .slice none 0 0, .slice none 0 0], .slice none 0 0, .int .i64 0] : Array Value).toList 8 = some x := by
  unfold IsLaid at h
  subst h
  exact Option.isSome_iff_exists.1 (by kernel_rfl)

set_option maxRecDepth 100000 in
theorem lifted (os : Os) (started : os.Started) (H : Type) (enc : TypeId × Value → H) (F : Stop.Interp) :
    ReturnsInHanded {} Tryd.checked os 8 .any ((OpenSpec.ofChange Rows.fnExactRunFleetSpec).preRow enc Tryd.prog Tryd.f8 Rows.fnExactRunFleetRow.domain false Rows.fnExactRunFleetRow.laid) (((OpenSpec.ofChange Rows.fnExactRunFleetSpec).at F).post enc Tryd.prog Tryd.f8 false true false false) := by
  obtain ⟨lw, hlw⟩ : ∃ lw, IsLaid os lw := ⟨_, rfl⟩
  obtain ⟨x, hx⟩ := reads os lw hlw enc
  have hm := laid_met os lw hlw
  unfold IsLaid at hlw
  refine returnsInHanded_of_row (C := Tryd.checked) (s := OpenSpec.ofChange Rows.fnExactRunFleetSpec) own started (by kernel_rfl) Tryd.func8
    (witness_row_at (enc := enc) (C := Tryd.checked) false lw #[.agg #[.int .i64 0, .int .i64 0, .slice none 0 0, .slice none 0 0, .slice none 0 0], .slice none 0 0, .int .i64 0] (by subst hlw; rfl) (by subst hlw; kernel_rfl) (by subst hlw; kernel_rfl) (by subst hlw; kernel_rfl)
      (OpenSpec.preRow_of_cond 8 hx (by subst hlw; kernel_rfl) (fun k hk => by cases hk) (by subst hlw; kernel_rfl) hm)) ?_
  intro W base args ds gs before hval hW _ _ _ hL _ _
  exact contract H enc W base args ds gs before hval hW hL

theorem said : Rows.FnExactRunFleetSaid :=
  OpenClaim.holds_of_cond 8 Tryd.f8 rfl rfl rfl rfl rfl rfl rfl ⟨rfl, rfl, rfl, rfl, rfl⟩ rfl rfl rfl rfl rfl (by kernel_rfl) Tryd.func8 (by kernel_rfl)
    (of_decide_eq_true (by kernel_rfl)) (by unfold Func.isWrapper; first | (rw [if_pos (by decide +kernel)]; kernel_rfl) | (rw [if_neg (by decide +kernel)]; exact ⟨rfl, rfl⟩))
    (fun os started H enc _ F => by rw [OpenClaim.pre_eq_preRow]; exact lifted os started H enc F)

theorem plain (f : FuncId) (fn : Func) (hf : Tryd.pinned.checked.prog.funcNamed "loop.example/s02126/laws.FnExactRunFleet" = some f) (hfn : Tryd.pinned.checked.prog.funcs[f]? = some fn) :
    false = Tryd.pinned.checked.prog.looks [] ∧ ∀ (j : Nat) t, fn.params[j]? = some t → Tryd.pinned.checked.prog.wantsStandIn t = false := by
  obtain rfl : f = 8 := Option.some.inj ((show Tryd.prog.funcNamed "loop.example/s02126/laws.FnExactRunFleet" = some 8 by kernel_rfl).symm.trans hf) |>.symm
  obtain rfl : fn = Tryd.f8 := (Option.some.inj (Tryd.func8.symm.trans hfn)).symm
  refine ⟨by kernel_rfl, fun j t ht => ?_⟩
  rw [Tryd.params8] at ht
  have hm := Array.mem_of_getElem? ht
  simp at hm
  rcases hm with rfl | rfl | rfl
  · exact (show Tryd.prog.wantsStandIn 25 = false by kernel_rfl)
  · exact (show Tryd.prog.wantsStandIn 46 = false by kernel_rfl)
  · exact (show Tryd.prog.wantsStandIn 3 = false by kernel_rfl)

theorem card : Rows.FnExactRunFleetCardSaid :=
  Claim7.holds_tied_plain_at .later [] _ _ _ _ said (fun _ h => by cases h) (by kernel_rfl) (fun _ h => by cases h) fnExactRunFleet_row_tie rfl ⟨rfl, rfl⟩ (by kernel_rfl) rfl plain (by kernel_rfl)
end Go.Proofs.YteicpjbeihabnaaDoor.fnExactRunFleet
namespace Go.Proofs.YteicpjbeihabnaaDoor
theorem runFleet_holds : Rows.FnExactRunFleetCardSaid := fnExactRunFleet.card
#print axioms runFleet_holds
end Go.Proofs.YteicpjbeihabnaaDoor

/-
  A list of nodes that came in, as a tree.
  Proved: laws.FnExactCheck answers true for every argument (Check answers as its specification at every list of nodes, and writes into no argument), where utf8's two tables are laid as the library's text lays them; the card ties them to the program's text.
-/
import Derived.Test.YtdlahabeegmjiaaDoorJCkAP
import Derived.Test.YtdlahabeegmjiaaDoorJCkIKK
import Derived.Deep.Slices
import Derived.Test.YtdlahabeegmjiaaDoorCards
import Derived.Test.YtdlahabeegmjiaaDoorTie
import Derived.ProofKit
import Derived.OpenShut
import Derived.Deep.DeepHandedRow
import Derived.Lib.LaidU8
namespace Go.Proofs.YtdlahabeegmjiaaDoor
open Go.ChangeShapes Go.WideShapes Go.ChangeAt Go.RowKit Go.Deep

theorem ss_of {H : Type} {enc : TypeId × Value → H} {P : Program} {w : World} {base : Nat} {held : Bool} {t e q : TypeId} (ht : P.underlying t = some (.slice e)) (he : P.underlying e = some (.slice q)) (hq : P.underlying q = some (.int .u8)) (hc : P.cellsOf e = 1) (hcq : P.cellsOf q = 1) {fuel : Nat} {v : Value} {x : DataW H × List MemPlace}
    (h : DataW.trod enc P w base (fun _ => true) held fuel t [v] = some x) : ∃ L : List ByteArray, SS w v L ∧ (L.length : Int) ≤ 9223372036854775807 ∧ ∀ j, j < L.length → ((L.getD j .empty).size : Int) ≤ 9223372036854775807 := by
  have mf := max_fits
  rcases open_slice1 ht hc h with ⟨hcs, _⟩ | ⟨a, len, cap, m, n, V, D, Pl, hcs, _, hl, hm, hmm, _, hx⟩
  · simp only [List.cons.injEq, and_true] at hcs
    exact ⟨[], ⟨none, 0, 0, 0, hcs, fun h => absurd h (by decide), fun j hj => absurd hj (Nat.not_lt_zero _)⟩, by simp, fun j hj => absurd hj (Nat.not_lt_zero _)⟩
  · simp only [List.cons.injEq, and_true] at hcs
    have hmc : m = cap := by simpa using hmm
    obtain ⟨S, hS⟩ := choose_lt (α := ByteArray) (n := len) (p := fun i s => BS w (V i) s ∧ (s.size : Int) ≤ 9223372036854775807) (fun i hi => bs_of he hq hcq (hx i (by omega)).2)
    have hlen : ((List.range len).map S).length = len := by simp
    by_cases h0 : len = 0
    · subst h0
      exact ⟨[], ⟨some a, 0, 0, cap, hcs, fun h => absurd h (by decide), fun j hj => absurd hj (Nat.not_lt_zero _)⟩, by simp, fun j hj => absurd hj (Nat.not_lt_zero _)⟩
    · obtain ⟨b, off, spot⟩ := a
      have hspot : spot = none := by simpa [Addr.add] using World.cell?_spot (hx 0 (by omega)).1
      subst hspot
      refine ⟨(List.range len).map S, ⟨_, b, off, cap, by rw [hcs, hlen], fun _ => rfl, fun j hj => ?_⟩, by omega, fun j hj => ?_⟩
      · rw [hlen] at hj
        refine ⟨V j, ?_, ?_⟩
        · rw [← Go.WideShapes.add_plain]; exact (hx j (by omega)).1
        · rw [range_getD S _ _ _ hj]; exact (hS j hj).1
      · rw [hlen] at hj
        rw [range_getD S _ _ _ hj]; exact (hS j hj).2

theorem ns_of {H : Type} {enc : TypeId × Value → H} {P : Program} {w : World} {base : Nat} {held : Bool} {t e tb ts ti q : TypeId} {f0 f1 f2 f3 f4 f5 : Field} (ht : P.underlying t = some (.slice e)) (he : P.underlying e = some (.struct #[f0, f1, f2, f3, f4, f5])) (ce : P.cellsOf e = 6)
    (o : f0.offset = 0 ∧ f1.offset = 1 ∧ f2.offset = 2 ∧ f3.offset = 3 ∧ f4.offset = 4 ∧ f5.offset = 5) (y : f0.type = q ∧ f1.type = q ∧ f2.type = tb ∧ f3.type = ts ∧ f4.type = ti ∧ f5.type = q)
    {u : TypeId} (hq : P.underlying q = some (.int .i64)) (hu : P.underlying u = some (.int .u8)) (htb : P.underlying tb = some (.slice u)) (hts : P.underlying ts = some (.slice tb)) (hti : P.underlying ti = some (.slice q))
    (cq : P.cellsOf q = 1) (cu : P.cellsOf u = 1) (ctb : P.cellsOf tb = 1) (cts : P.cellsOf ts = 1) (cti : P.cellsOf ti = 1) {fuel : Nat} {v : Value} {x : DataW H × List MemPlace}
    (h : DataW.trod enc P w base (fun _ => true) held fuel t [v] = some x) : ∃ L : List Nd, NS w v L ∧ (L.length : Int) ≤ 9223372036854775807 ∧ ∀ j, j < L.length → NL (L.getD j .zero) := by
  have mf := max_fits
  obtain ⟨o0, o1, o2, o3, o4, o5⟩ := o
  obtain ⟨y0, y1, y2, y3, y4, y5⟩ := y
  rcases open_slice ht h with ⟨hcs, _⟩ | ⟨a, len, cap, m, n, D, Pl, hcs, _, hl, hm, hmm, _, hx⟩
  · simp only [List.cons.injEq, and_true] at hcs
    exact ⟨[], ⟨none, 0, 0, 0, hcs, fun h => absurd h (by decide), fun j hj => absurd hj (Nat.not_lt_zero _)⟩, by simp, fun j hj => absurd hj (Nat.not_lt_zero _)⟩
  · simp only [List.cons.injEq, and_true] at hcs
    have hmc : m = cap := by simpa using hmm
    have each : ∀ i, i < len → ∃ d : Nd, ∃ vt vn vy, (w.cell? (a.add (i * 6)) = some (.int .i64 d.kind) ∧ w.cell? (a.add (i * 6 + 1)) = some (.int .i64 d.n) ∧ w.cell? (a.add (i * 6 + 2)) = some vt ∧ w.cell? (a.add (i * 6 + 3)) = some vn ∧ w.cell? (a.add (i * 6 + 4)) = some vy ∧ w.cell? (a.add (i * 6 + 5)) = some (.int .i64 d.count)) ∧ NV w d vt vn vy ∧ NL d := by
      intro i hi
      obtain ⟨cs', h1, h2⟩ := hx i (by omega)
      rw [ce] at h1
      obtain ⟨_, hlen, hcell⟩ := World.cells?_some h1
      obtain ⟨xs, k, hk, _, _, hxl, hf⟩ := DataW.trod_struct he h2
      match xs, hxl, cs', hlen with
      | [z0, z1, z2, z3, z4, z5], _, [v0, v1, v2, v3, v4, v5], _ =>
        have g0 := hf 0 f0 rfl
        have g1 := hf 1 f1 rfl
        have g2 := hf 2 f2 rfl
        have g3 := hf 3 f3 rfl
        have g4 := hf 4 f4 rfl
        have g5 := hf 5 f5 rfl
        rw [o0, y0, cq] at g0
        rw [o1, y1, cq] at g1
        rw [o2, y2, ctb] at g2
        rw [o3, y3, cts] at g3
        rw [o4, y4, cti] at g4
        rw [o5, y5, cq] at g5
        have e0 := hcell 0 (by omega)
        have e1 := hcell 1 (by omega)
        have e2 := hcell 2 (by omega)
        have e3 := hcell 3 (by omega)
        have e4 := hcell 4 (by omega)
        have e5 := hcell 5 (by omega)
        rw [add_add] at e0 e1 e2 e3 e4 e5
        obtain ⟨K, hK, _⟩ := DataW.trod_int hq (x := z0) g0
        obtain ⟨N, hN, _⟩ := DataW.trod_int hq (x := z1) g1
        obtain ⟨C, hC, _⟩ := DataW.trod_int hq (x := z5) g5
        obtain ⟨T, hT, hT2⟩ := bs_of htb hu cu (x := z2) (v := v2) g2
        obtain ⟨M, hM, hM2, hM3⟩ := ss_of hts htb hu ctb cu (x := z3) (v := v3) g3
        obtain ⟨Y, hY, hY2⟩ := is_of hti hq cq (x := z4) (v := v4) g4
        simp at hK hN hC
        subst hK hN hC
        refine ⟨⟨K, N, T, M, Y, C⟩, v2, v3, v4, ⟨by simpa using e0, by simpa using e1, by simpa using e2, by simpa using e3, by simpa using e4, by simpa using e5⟩, ⟨hT, hM, hY⟩, ?_⟩
        exact ⟨by show (T.size : Int) ≤ _; omega, by show (M.length : Int) ≤ _; omega, fun j hj => by have := hM3 j hj; show ((M.getD j .empty).size : Int) ≤ _; omega, by show (Y.length : Int) ≤ _; exact hY2.len⟩
    have : Inhabited Nd := ⟨.zero⟩
    obtain ⟨S, hS⟩ := choose_lt (α := Nd) each
    have hlen : ((List.range len).map S).length = len := by simp
    by_cases h0 : len = 0
    · subst h0
      exact ⟨[], ⟨some a, 0, 0, cap, hcs, fun h => absurd h (by decide), fun j hj => absurd hj (Nat.not_lt_zero _)⟩, by simp, fun j hj => absurd hj (Nat.not_lt_zero _)⟩
    · obtain ⟨b, off, spot⟩ := a
      have hspot : spot = none := by
        obtain ⟨_, _, _, hh, _⟩ := hS 0 (by omega)
        simpa [Addr.add] using World.cell?_spot hh.1
      subst hspot
      refine ⟨(List.range len).map S, ⟨_, b, off, cap, by rw [hcs, hlen], fun _ => rfl, fun j hj => ?_⟩, by omega, fun j hj => ?_⟩
      · rw [hlen] at hj
        rw [range_getD S _ _ _ hj]
        obtain ⟨vt, vn, vy, ⟨k0, k1, k2, k3, k4, k5⟩, hv, _⟩ := hS j hj
        simp only [Go.WideShapes.add_plain] at k0 k1 k2 k3 k4 k5
        exact ⟨vt, vn, vy, ⟨k0, k1, k2, k3, k4, k5⟩, hv⟩
      · rw [hlen] at hj
        rw [range_getD S _ _ _ hj]
        obtain ⟨_, _, _, _, _, hn⟩ := hS j hj
        exact hn
end Go.Proofs.YtdlahabeegmjiaaDoor

namespace Go.Proofs.YtdlahabeegmjiaaDoor.fnExactCheck
open Go.ChangeShapes Go.WideShapes Go.ChangeAt Go.RowKit

theorem own : ownKnob Tryd.prog.godebug = none := by kernel_rfl
theorem laidOut : laidOutB Tryd.prog = true := by kernel_rfl
theorem first_eq : Rows.laid_unicode_utf8_first = Lib.firstData := by kernel_rfl
theorem accept_eq : (Rows.laid_unicode_utf8_acceptRanges : DataW Unit) = Lib.acceptData := by kernel_rfl
theorem tabs {W : World} (h : laidMet Tryd.prog Rows.fnExactCheckRow.laid W) : Lib.Utf8Tabs 0 1 W :=
  utf8Tabs_of_reads (ρ := Tryd.lays260_ren) Tryd.lays260 ⟨by kernel_rfl, by kernel_rfl, by kernel_rfl, by kernel_rfl, by kernel_rfl, by kernel_rfl, by kernel_rfl⟩
    (first_eq ▸ Lib.laidMet.reads h (by simp [Rows.fnExactCheckRow])) (accept_eq ▸ Lib.laidMet.reads h (by simp [Rows.fnExactCheckRow]))

set_option maxRecDepth 100000 in
theorem contract (H : Type) (enc : TypeId × Value → H) (W : World) (base : Nat) (args : Array Value) (ds gs : List (DataW H)) (before : List MemPlace)
    (hval0 : ∀ (j : Nat) t v, Tryd.f3.params[j]? = some t → args[j]? = some v → Value.okWide Tryd.prog W .any base t v)
    (hW : DataW.Whole enc Tryd.prog Tryd.f3.params.toList Rows.fnExactCheckSpec.vars false W args.toList ds gs before) (hL : laidMetH Tryd.prog Rows.fnExactCheckRow.laid W) :
    Calls Tryd.prog 3 args W fun e W' => ∃ v, e = .returned v ∧ Rows.fnExactCheckSpec.post enc Tryd.prog Tryd.f3 false true false false W args v W' := by
  have hT := tabs hL
  have hval : ∀ (j : Nat) t v, Tryd.f3.params[j]? = some t → args[j]? = some v → Value.okWide Tryd.prog W .any base t v := hval0
  have hW' := hW
  obtain ⟨p, q, hA0, hV, rfl, hfz, hnd⟩ := hW
  have hA : DataW.TrodAll enc Tryd.prog W 0 (fun _ => true) true Tryd.f3.params.toList args.toList ds p := hA0
  rw [Tryd.params3] at hA hval
  obtain ⟨v0, vs0, d0, ds0, p0, q0, hargs, rfl, rfl, h0, r0⟩ := trodAll_cons hA
  obtain ⟨rfl, rfl, rfl⟩ := trodAll_nil r0
  obtain rfl : args = #[v0] := by cases args; simp_all
  obtain ⟨rfl, rfl⟩ := trodVars_none hV
  obtain ⟨a0, len0, cap0, rfl⟩ := okWide_slice Tryd.underlying22 (hval 0 22 v0 rfl rfl)
  have k0 := h0
  have lt0 : ∀ x ∈ p0, x.block < W.heap.size := by obtain ⟨m, hm⟩ := k0; exact DataW.trod_lt m _ _ _ hm
  obtain ⟨L, hNS, hLn, hLz⟩ : ∃ L : List Nd, NS W (.slice a0 len0 cap0) L ∧ (L.length : Int) ≤ 9223372036854775807 ∧ ∀ j, j < L.length → NL (L.getD j .zero) := by
    obtain ⟨fuel, hf⟩ := h0
    exact ns_of Tryd.underlying22 Tryd.underlying35 (by kernel_rfl) ⟨rfl, rfl, rfl, rfl, rfl, rfl⟩ ⟨rfl, rfl, rfl, rfl, rfl, rfl⟩ Tryd.underlying3 Tryd.underlying5 Tryd.underlying31 Tryd.underlying32 Tryd.underlying33
      (by kernel_rfl) (by kernel_rfl) (by kernel_rfl) (by kernel_rfl) (by kernel_rfl) hf
  clear hA0 hval0
  refine (lawCk_any _ L W hLn hLz hNS hT).mono fun e W' ⟨he, bel⟩ => ?_
  subst he
  exact ⟨_, rfl, _, _, _, [], _, [], hW', trodAll_mk1 (shut_bool Tryd.underlying4 _), (trodAll_cons_mk (Below.trod laidOut (by kernel_rfl) (of_decide_eq_true (by kernel_rfl)) k0 bel lt0) trodAll_mk0), rfl, bel.frame _, fun h => by cases h⟩

/-- A world for the witness: the settled one, the two tables as they are laid. -/
def layCells (cs : Array Value) : Obj → Obj
  | .cells _ t frozen => .cells cs t frozen
  | o => o
def firstCells : Array Value := ((List.range 256).map fun c => Value.int .u8 (Lib.firstT c : Int)).toArray
def acceptCells : Array Value := ((List.range 32).map fun c => Value.int .u8 (if c % 2 = 0 then (Lib.accLo (c / 2) : Int) else (Lib.accHi (c / 2) : Int))).toArray
def IsLaid (os : Os) (lw : World) : Prop :=
  lw = { World.holding Tryd.prog os ⟨#[], #[], []⟩ with heap := ((World.holding Tryd.prog os ⟨#[], #[], []⟩).heap.modify 0 (layCells firstCells)).modify 1 (layCells acceptCells) }
theorem laid_met (os : Os) (lw : World) (h : IsLaid os lw) : laidMet Tryd.prog Rows.fnExactCheckRow.laid (lw.forCall (fun _ _ => 0) ⟨#[], #[.slice none 0 0], []⟩).memory := by
  unfold IsLaid at h
  subst h
  exact laidMet_of_run' 8 (by kernel_rfl) (by kernel_rfl)
theorem reads (os : Os) (lw : World) (h : IsLaid os lw) {H : Type} (enc : TypeId × Value → H) : ∃ places, DataW.whole enc Tryd.prog (lw.forCall (fun _ _ => 0) ⟨#[], #[.slice none 0 0], []⟩).memory Tryd.f3.params.toList Rows.fnExactCheckSpec.vars false #[Value.slice none 0 0].toList 8 = some ([.nil], [], places) := by
  unfold IsLaid at h
  subst h
  exact ⟨[], by kernel_rfl⟩

set_option maxRecDepth 100000 in
theorem lifted (os : Os) (started : os.Started) (H : Type) (enc : TypeId × Value → H) (F : Stop.Interp) :
    ReturnsInHanded {} Tryd.checked os 3 .any ((OpenSpec.ofChange Rows.fnExactCheckSpec).preRow enc Tryd.prog Tryd.f3 Rows.fnExactCheckRow.domain false Rows.fnExactCheckRow.laid) (((OpenSpec.ofChange Rows.fnExactCheckSpec).at F).post enc Tryd.prog Tryd.f3 false true false false) := by
  obtain ⟨lw, hlw⟩ : ∃ lw, IsLaid os lw := ⟨_, rfl⟩
  obtain ⟨places, hx⟩ := reads os lw hlw enc
  have hm := laid_met os lw hlw
  unfold IsLaid at hlw
  refine returnsInHanded_of_row (C := Tryd.checked) (s := OpenSpec.ofChange Rows.fnExactCheckSpec) own started (by kernel_rfl) Tryd.func3
    (witness_row_at (enc := enc) (C := Tryd.checked) false lw #[.slice none 0 0] (by subst hlw; rfl) (by subst hlw; kernel_rfl) (by subst hlw; kernel_rfl) (by subst hlw; kernel_rfl)
      (OpenSpec.preRow_of_cond 8 hx (by subst hlw; kernel_rfl) (fun k hk => by cases hk) (by subst hlw; kernel_rfl) hm)) ?_
  intro W base args ds gs before hval hW _ _ _ hL _ _
  exact contract H enc W base args ds gs before hval hW hL

theorem said : Rows.FnExactCheckSaid :=
  OpenClaim.holds_of_cond 3 Tryd.f3 rfl rfl rfl rfl rfl rfl rfl ⟨rfl, rfl, rfl, rfl, rfl⟩ rfl rfl rfl rfl rfl (by kernel_rfl) Tryd.func3 (by kernel_rfl)
    (of_decide_eq_true (by kernel_rfl)) (by unfold Func.isWrapper; first | (rw [if_pos (by decide +kernel)]; kernel_rfl) | (rw [if_neg (by decide +kernel)]; exact ⟨rfl, rfl⟩))
    (fun os started H enc _ F => by rw [OpenClaim.pre_eq_preRow]; exact lifted os started H enc F)

theorem plain (f : FuncId) (fn : Func) (hf : Tryd.pinned.checked.prog.funcNamed "loop.example/s02126/laws.FnExactCheck" = some f) (hfn : Tryd.pinned.checked.prog.funcs[f]? = some fn) :
    false = Tryd.pinned.checked.prog.looks [] ∧ ∀ (j : Nat) t, fn.params[j]? = some t → Tryd.pinned.checked.prog.wantsStandIn t = false := by
  obtain rfl : f = 3 := Option.some.inj ((show Tryd.prog.funcNamed "loop.example/s02126/laws.FnExactCheck" = some 3 by kernel_rfl).symm.trans hf) |>.symm
  obtain rfl : fn = Tryd.f3 := (Option.some.inj (Tryd.func3.symm.trans hfn)).symm
  refine ⟨by kernel_rfl, fun j t ht => ?_⟩
  rw [Tryd.params3] at ht
  obtain rfl : t = 22 := by simpa using Array.mem_of_getElem? ht
  exact (show Tryd.prog.wantsStandIn 22 = false by kernel_rfl)

theorem card : Rows.FnExactCheckCardSaid :=
  Claim7.holds_tied_plain_at .later [] _ _ _ _ said (fun _ h => by cases h) (by kernel_rfl) (fun _ h => by cases h) fnExactCheck_row_tie rfl ⟨rfl, rfl⟩ (by kernel_rfl) rfl plain (by kernel_rfl)
end Go.Proofs.YtdlahabeegmjiaaDoor.fnExactCheck
namespace Go.Proofs.YtdlahabeegmjiaaDoor
theorem check_holds : Rows.FnExactCheckCardSaid := fnExactCheck.card
#print axioms check_holds
end Go.Proofs.YtdlahabeegmjiaaDoor

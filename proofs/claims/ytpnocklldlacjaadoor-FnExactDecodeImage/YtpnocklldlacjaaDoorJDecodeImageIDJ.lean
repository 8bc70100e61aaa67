/-
  impl.DecodeImage at all bytes.
  A slice of bytes that came in, as a text.
  Slices of bytes and of numbers that came in, and lists of lists.
  Proved: laws.FnExactDecodeImage answers true for every argument (DecodeImage answers as its specification, writes into no argument, and its answer owns its memory), where utf8's two tables, impl.wayMoves and impl.errNoImage are laid as the texts lay them; the card ties them to the program's text.
-/
import Derived.Test.YtpnocklldlacjaaDoorJDecodeImageIDI
import Derived.Test.YtpnocklldlacjaaDoorJDecodeImageIRC
import Derived.Test.YtpnocklldlacjaaDoorJDecodeImageT
import Derived.Laws.BytesArg
import Derived.ProofKit
import Derived.OpenShut
import Derived.Test.YtpnocklldlacjaaDoorJDecodeImageIN0
import Derived.Deep.Slices
import Derived.Test.YtpnocklldlacjaaDoorJDecodeImageLDI
import Derived.Test.YtpnocklldlacjaaDoorJDecodeImageSDJ
import Derived.Test.YtpnocklldlacjaaDoorCards
import Derived.Test.YtpnocklldlacjaaDoorTie
import Derived.OpenVars
import Derived.ChangeVars
import Derived.Deep.DeepHandedRow
import Derived.Lib.LaidU8
import Derived.Stop.LaidErr
import Derived.Deep.DeepWitnessRowRef
namespace Go.Proofs.YtpnocklldlacjaaDoor
open Go.RowKit

theorem implDecode_any (s : ByteArray) (u : Value) (w : World) (hs : s.size ≤ 1048576) (hmv : MvOk w) (hT : Lib.Utf8Tabs 3 4 w) (hE : ∃ a, ErC w a) (h : BS w u s) (hc : Cp u) :
    Calls Tryd.prog 22 #[u] w fun e w' => ∃ v2 v3 v4 bl, e = .returned (.tuple #[tbagg (diF s) v2 v3 v4, .int .i64 (diC s)]) ∧ TbF w' (diF s) v2 v3 v4 bl ∧ Fr w w' bl ∧ Below w.heap.size w w' :=
  implDecode_of (fun _ _ _ _ _ _ _ h => rtables_any h) s u w hs hmv hT hE h hc
end Go.Proofs.YtpnocklldlacjaaDoor

namespace Go.Proofs.YtpnocklldlacjaaDoor
open Go.ChangeShapes Go.WideShapes Go.ChangeAt Go.RowKit

/-- What is told of a slice of bytes that came in. -/
def IsRow (k : IntKind) (w : World) (a : Option Addr) (len cap : Nat) (zs : List Int) : Prop :=
  (a = none ∧ len = 0 ∧ cap = 0 ∧ zs = []) ∨
  ∃ x, a = some x ∧ len ≤ cap ∧ cap ≤ maxLen ∧ zs.length = cap ∧ (∀ i, i < zs.length → w.cell? (x.add i) = some (.int k (zs.getD i 0))) ∧ ∀ n ∈ zs, (Lit.int k n).wf = true

/-- The text that a slice of bytes holds. -/
theorem text_of_row {w : World} {a : Option Addr} {len cap : Nat} {zs : List Int} (h : IsRow .u8 w a len cap zs) :
    ∃ (s : ByteArray) (b off : Nat), s.size = len ∧ (0 < s.size → a = some ⟨b, off, none⟩) ∧ ∀ j, j < s.size → w.cell? ⟨b, off + j, none⟩ = some (bts s j) := by
  rcases h with ⟨rfl, rfl, rfl, rfl⟩ | ⟨x, rfl, hl, _, hz, hcell, hwf⟩
  · exact ⟨ByteArray.empty, 0, 0, rfl, fun h => absurd h (by decide), fun j hj => absurd hj (Nat.not_lt_zero _)⟩
  · have hsz : (strOfNums (zs.take len)).size = len := by rw [strOfNums_size]; simp; omega
    by_cases h0 : len = 0
    · exact ⟨strOfNums (zs.take len), 0, 0, hsz, fun h => by omega, fun j hj => by omega⟩
    · obtain ⟨b, off, rfl, hc⟩ := ints_at hcell (by omega)
      refine ⟨strOfNums (zs.take len), b, off, hsz, fun _ => rfl, fun j hj => ?_⟩
      have hj' : j < zs.length := by omega
      rw [hc j hj']
      have hw := hwf zs[j] (List.getElem_mem hj')
      have h1 : IntKind.u8.min = 0 := rfl
      have h2 : IntKind.u8.max = 255 := rfl
      simp only [Lit.wf, Bool.and_eq_true, decide_eq_true_eq] at hw
      have hb : 0 ≤ zs[j] ∧ zs[j] ≤ 255 := by omega
      have e : (strOfNums (zs.take len)).get! j = UInt8.ofNat zs[j].toNat := by
        have hjt : j < ((zs.take len).map fun n => UInt8.ofNat n.toNat).toArray.size := by simp; omega
        show ((zs.take len).map fun n => UInt8.ofNat n.toNat).toArray[j]! = _
        rw [getElem!_pos _ j hjt]
        simp
      have e2 : (UInt8.ofNat zs[j].toNat).toNat = zs[j].toNat := by rw [UInt8.toNat_ofNat']; omega
      have e3 : zs.getD j 0 = zs[j] := by simp [List.getD, hj']
      unfold bts
      rw [e, e2, e3, Int.toNat_of_nonneg hb.1]

end Go.Proofs.YtpnocklldlacjaaDoor

namespace Go.Proofs.YtpnocklldlacjaaDoor
open Go.ChangeShapes Go.WideShapes Go.ChangeAt Go.RowKit Go.Deep

theorem max_fits : (maxLen : Int) ≤ 9223372036854775807 := by unfold maxLen; omega

theorem bs_of {H : Type} {enc : TypeId × Value → H} {P : Program} {w : World} {base : Nat} {held : Bool} {t e : TypeId} (ht : P.underlying t = some (.slice e)) (he : P.underlying e = some (.int .u8)) (hc : P.cellsOf e = 1) {fuel : Nat} {v : Value} {x : DataW H × List MemPlace}
    (h : DataW.trod enc P w base (fun _ => true) held fuel t [v] = some x) : ∃ s : ByteArray, BS w v s ∧ (s.size : Int) ≤ 9223372036854775807 := by
  have mf := max_fits
  rcases open_ints ht he hc h with ⟨hcs, _⟩ | ⟨a, l, c, zs, hcs, _, hl, hm, hz, _, hcell, hwz⟩
  · simp only [List.cons.injEq, and_true] at hcs
    exact ⟨.empty, ⟨none, 0, 0, 0, hcs, fun h => absurd h (by decide), fun j hj => absurd hj (Nat.not_lt_zero _)⟩, by decide⟩
  · simp only [List.cons.injEq, and_true] at hcs
    have hr : IsRow .u8 w (some a) l c zs := .inr ⟨_, rfl, hl, hm, by simpa using hz, hcell, hwz⟩
    obtain ⟨s, b, off, h1, h2, h3⟩ := text_of_row hr
    exact ⟨s, ⟨some a, b, off, c, by rw [hcs, h1], h2, h3⟩, by omega⟩

theorem cap_of {H : Type} {enc : TypeId × Value → H} {P : Program} {w : World} {base : Nat} {held : Bool} {t e : TypeId} (ht : P.underlying t = some (.slice e)) (he : P.underlying e = some (.int .u8)) (hc : P.cellsOf e = 1) {fuel : Nat} {a0 : Option Addr} {l0 c0 : Nat} {x : DataW H × List MemPlace}
    (h : DataW.trod enc P w base (fun _ => true) held fuel t [.slice a0 l0 c0] = some x) : l0 ≤ c0 := by
  rcases open_ints ht he hc h with ⟨hcs, _⟩ | ⟨a, l, c, zs, hcs, _, hl, _⟩
  · simp only [List.cons.injEq, and_true, Value.slice.injEq] at hcs
    omega
  · simp only [List.cons.injEq, and_true, Value.slice.injEq] at hcs
    omega
theorem is_of {H : Type} {enc : TypeId × Value → H} {P : Program} {w : World} {base : Nat} {held : Bool} {t e : TypeId} (ht : P.underlying t = some (.slice e)) (he : P.underlying e = some (.int .i64)) (hc : P.cellsOf e = 1) {fuel : Nat} {v : Value} {x : DataW H × List MemPlace}
    (h : DataW.trod enc P w base (fun _ => true) held fuel t [v] = some x) : ∃ l : List Int, IS w v l ∧ IL l := by
  have mf := max_fits
  rcases open_ints ht he hc h with ⟨hcs, _⟩ | ⟨a, l, c, zs, hcs, _, hl, hm, hz, _, hcell, hwf⟩
  · simp only [List.cons.injEq, and_true] at hcs
    exact ⟨[], ⟨none, 0, 0, 0, hcs, fun h => absurd h (by decide), fun j hj => absurd hj (Nat.not_lt_zero _)⟩, ⟨by simp, fun j hj => absurd hj (Nat.not_lt_zero _)⟩⟩
  · simp only [List.cons.injEq, and_true] at hcs
    have hzl : zs.length = c := by simpa using hz
    have hlen : (zs.take l).length = l := by rw [List.length_take]; omega
    by_cases h0 : l = 0
    · subst h0
      exact ⟨[], ⟨some a, 0, 0, c, hcs, fun h => absurd h (by decide), fun j hj => absurd hj (Nat.not_lt_zero _)⟩, ⟨by simp, fun j hj => absurd hj (Nat.not_lt_zero _)⟩⟩
    · obtain ⟨b, off, rfl, hc⟩ := ints_at hcell (by omega)
      refine ⟨zs.take l, ⟨_, b, off, c, by rw [hcs, hlen], fun _ => rfl, fun j hj => ?_⟩, ⟨by omega, fun j hj => ?_⟩⟩
      rotate_left
      · rw [List.getD_eq_getElem?_getD, List.getElem?_eq_getElem hj, Option.getD_some]
        exact hwf _ (List.mem_of_mem_take (List.getElem_mem hj))
      rw [hc j (by omega)]
      have : (zs.take l).getD j 0 = zs.getD j 0 := by
        simp only [List.getD_eq_getElem?_getD, List.getElem?_take]; rw [if_pos (by omega)]
      rw [this]

theorem range_getD {α : Type} (S : Nat → α) (z : α) (n j : Nat) (h : j < n) : ((List.range n).map S).getD j z = S j := by
  simp [List.getD, h]
end Go.Proofs.YtpnocklldlacjaaDoor

namespace Go.Proofs.YtpnocklldlacjaaDoor.fnExactDecodeImage
open Go.ChangeShapes Go.WideShapes Go.ChangeAt Go.RowKit

theorem own : ownKnob Tryd.prog.godebug = none := by kernel_rfl
theorem laidOut : laidOutB Tryd.prog = true := by kernel_rfl
theorem first_eq : Rows.laid_unicode_utf8_first = Lib.firstData := by kernel_rfl
theorem accept_eq : (Rows.laid_unicode_utf8_acceptRanges : DataW Unit) = Lib.acceptData := by kernel_rfl
theorem tabs {W : World} (h : laidMet Tryd.prog Rows.fnExactDecodeImageRow.laid W) : Lib.Utf8Tabs 3 4 W :=
  utf8Tabs_of_reads (ρ := Tryd.lays260_ren) Tryd.lays260 ⟨by kernel_rfl, by kernel_rfl, by kernel_rfl, by kernel_rfl, by kernel_rfl, by kernel_rfl, by kernel_rfl⟩
    (first_eq ▸ Lib.laidMet.reads h (by simp [Rows.fnExactDecodeImageRow])) (accept_eq ▸ Lib.laidMet.reads h (by simp [Rows.fnExactDecodeImageRow]))
theorem moves {W : World} (h : laidMet Tryd.prog Rows.fnExactDecodeImageRow.laid W) : MvOk W := by
  obtain ⟨g, t, cs, fuel, p, hg, hty, hvar, hd⟩ := Lib.laidMet.reads h (show ("loop.example/s02126/impl.wayMoves", Rows.laid_loop_example_s02126_impl_wayMoves) ∈ Rows.fnExactDecodeImageRow.laid by simp [Rows.fnExactDecodeImageRow])
  obtain rfl : g = 2 := (Option.some.inj ((show Tryd.prog.globalNamed "loop.example/s02126/impl.wayMoves" = some 2 by kernel_rfl).symm.trans hg)).symm
  obtain rfl : t = 127 := (Option.some.inj ((show (Tryd.prog.globals[2]?).map (·.type) = some 127 by kernel_rfl).symm.trans hty)).symm
  have hst : Tryd.prog.cellsOf 126 = 2 := by kernel_rfl
  have c3 : Tryd.prog.cellsOf 3 = 1 := by kernel_rfl
  have key : ∀ (i : Nat) (a b : Int), i < 4 → [((0 : Int), (-1 : Int)), (1, 0), (0, 1), (-1, 0)][i]? = some (a, b) → W.cell? ⟨2, i * 2, none⟩ = some (.int .i64 a) ∧ W.cell? ⟨2, i * 2 + 1, none⟩ = some (.int .i64 b) := by
    intro i a b hi hab
    obtain ⟨fuel', d, q, hdi, he⟩ := Lib.array_elem Tryd.underlying127 hd i hi
    rw [hst] at he
    have hd2 : d = .agg ([a, b].map fun z => .lit (.int .i64 z)) := by
      match i, hi with
      | 0, _ => simp at hdi hab; obtain ⟨rfl, rfl⟩ := hab; exact hdi.symm
      | 1, _ => simp at hdi hab; obtain ⟨rfl, rfl⟩ := hab; exact hdi.symm
      | 2, _ => simp at hdi hab; obtain ⟨rfl, rfl⟩ := hab; exact hdi.symm
      | 3, _ => simp at hdi hab; obtain ⟨rfl, rfl⟩ := hab; exact hdi.symm
    subst hd2
    have hcs := Lib.ints_of_struct Tryd.underlying126 (fun j f hj => by
      match j, hj with
      | 0, hj => simp at hj; subst hj; exact ⟨Tryd.underlying3, rfl, c3⟩
      | 1, hj => simp at hj; subst hj; exact ⟨Tryd.underlying3, rfl, c3⟩
      | j + 2, hj => simp at hj) (by rw [hst]; rfl) he
    have e0 := congrArg (·[0]?) hcs
    have e1 := congrArg (·[1]?) hcs
    simp only [List.getElem?_take, List.getElem?_drop] at e0 e1
    constructor
    · rw [World.var?_cell hg hvar (i * 2), ← Array.getElem?_toList]
      simpa using e0
    · rw [World.var?_cell hg hvar (i * 2 + 1), ← Array.getElem?_toList]
      simpa using e1
  obtain ⟨k0, k1⟩ := key 0 0 (-1) (by omega) rfl
  obtain ⟨k2, k3⟩ := key 1 1 0 (by omega) rfl
  obtain ⟨k4, k5⟩ := key 2 0 1 (by omega) rfl
  obtain ⟨k6, k7⟩ := key 3 (-1) 0 (by omega) rfl
  exact ⟨k0, k1, k2, k3, k4, k5, k6, k7⟩

theorem star : "*" ++ "errors.errorString" = "*errors.errorString" := by decide
theorem rowE (u : TypeId) (h : Tryd.prog.typeName? 3 u = some "*errors.errorString") : u = 136 :=
  typeName_ptr_named (nm := "errors.errorString") (by rw [star]; kernel_rfl) (by kernel_rfl) (by decide) u (by rw [star]; exact h)
theorem err_cell {W : World} (h : laidMet Tryd.prog Rows.fnExactDecodeImageRow.laid W) : ∃ a, ErC W a := by
  have h' : laidMet Tryd.prog [("unicode/utf8.acceptRanges", Rows.laid_unicode_utf8_acceptRanges), ("loop.example/s02126/impl.wayMoves", Rows.laid_loop_example_s02126_impl_wayMoves), ("loop.example/s02126/impl.errNoImage", Rows.laid_loop_example_s02126_impl_errNoImage), ("unicode/utf8.first", Rows.laid_unicode_utf8_first)] W := h
  obtain ⟨a0, t0, hv0, hc0, _, _⟩ := laid_sentinel (g := 0) (laidMet.tail (laidMet.tail h')) (by kernel_rfl) (by kernel_rfl) Tryd.underlying75 rowE Tryd.underlying136 Tryd.underlying161 rfl rfl Tryd.underlying9 (by kernel_rfl) (by kernel_rfl)
  exact ⟨a0, by unfold ErC; simpa using World.var?_cell (show Tryd.prog.globalNamed "loop.example/s02126/impl.errNoImage" = some 0 by kernel_rfl) hv0 0⟩

set_option maxRecDepth 100000 in
theorem contract (H : Type) (enc : TypeId × Value → H) (W : World) (base : Nat) (args : Array Value) (ds gs : List (DataW H)) (before : List MemPlace)
    (hval0 : ∀ (j : Nat) t v, Tryd.f6.params[j]? = some t → args[j]? = some v → Value.okWide Tryd.prog W .any base t v)
    (hW : DataW.Whole enc Tryd.prog Tryd.f6.params.toList Rows.fnExactDecodeImageSpec.vars false W args.toList ds gs before) (hL : laidMetH Tryd.prog Rows.fnExactDecodeImageRow.laid W) :
    Calls Tryd.prog 6 args W fun e W' => ∃ v, e = .returned v ∧ Rows.fnExactDecodeImageSpec.post enc Tryd.prog Tryd.f6 false true false false W args v W' := by
  have hval : ∀ (j : Nat) t v, Tryd.f6.params[j]? = some t → args[j]? = some v → Value.okWide Tryd.prog W .any base t v := hval0
  have hW' := hW
  obtain ⟨p, q, hA0, hV, rfl, hfz, hnd⟩ := hW
  have hA : DataW.TrodAll enc Tryd.prog W 0 (fun _ => true) true Tryd.f6.params.toList args.toList ds p := hA0
  rw [Tryd.params6] at hA hval
  obtain ⟨v0, vs0, d0, ds0, p0, q0, hargs, rfl, rfl, h0, r0⟩ := trodAll_cons hA
  obtain ⟨rfl, rfl, rfl⟩ := trodAll_nil r0
  obtain rfl : args = #[v0] := by cases args; simp_all
  obtain ⟨_, _, _, _, gv0, _, _, _, _, _, gv1, _, rfl, _⟩ := trodVars_two hV
  obtain ⟨a0, len0, cap0, rfl⟩ := okWide_slice Tryd.underlying37 (hval 0 37 v0 rfl rfl)
  have k0 := h0
  have lt0 : ∀ x ∈ p0, x.block < W.heap.size := by obtain ⟨m, hm⟩ := k0; exact DataW.trod_lt m _ _ _ hm
  obtain ⟨s0, hs0, hl0⟩ := (show ∃ s : ByteArray, BS W (.slice a0 len0 cap0) s ∧ (s.size : Int) ≤ 9223372036854775807 from by obtain ⟨fuel, hf⟩ := h0; exact bs_of Tryd.underlying37 Tryd.underlying5 (by kernel_rfl) hf)
  clear hA0 hval0
  refine (lawDI diF diC (fun w => MvOk w ∧ Lib.Utf8Tabs 3 4 w ∧ ∃ a, ErC w a) (fun _ _ h hb => ⟨h.1.below hb, Utf8Tabs_below h.2.1 hb, by obtain ⟨a, ha⟩ := h.2.2; exact ⟨a, ha.below hb⟩⟩) (fun s _ => diF_b s) (fun s u w hs _ h hc => specDecode_any s u w hs h hc) (fun s u w hs hq h hc => implDecode_any s u w hs hq.1 hq.2.1 hq.2.2 h hc) s0 _ W hl0 ⟨moves hL, tabs hL, err_cell hL⟩ hs0).mono fun e W' ⟨he, bel⟩ => ?_
  subst he
  exact ⟨_, rfl, _, _, _, _, _, _, hW', trodAll_mk1 (shut_bool Tryd.underlying4 _), (trodAll_cons_mk (Below.trod laidOut (by kernel_rfl) (of_decide_eq_true (by kernel_rfl)) k0 bel lt0) trodAll_mk0), Below.trodVars laidOut bel (by kernel_rfl) hV, bel.frame _, fun h => by cases h⟩

/-- A world for the witness: the settled one, what is listed as it is laid. -/
def layCells (cs : Array Value) : Obj → Obj
  | .cells _ t frozen => .cells cs t frozen
  | o => o
def firstCells : Array Value := ((List.range 256).map fun c => Value.int .u8 (Lib.firstT c : Int)).toArray
def acceptCells : Array Value := ((List.range 32).map fun c => Value.int .u8 (if c % 2 = 0 then (Lib.accLo (c / 2) : Int) else (Lib.accHi (c / 2) : Int))).toArray
def moveCells : Array Value := #[.int .i64 0, .int .i64 (-1), .int .i64 1, .int .i64 0, .int .i64 0, .int .i64 1, .int .i64 (-1), .int .i64 0]
def errText : ByteArray := ⟨#[116, 104, 101, 32, 98, 121, 116, 101, 115, 32, 97, 114, 101, 32, 110, 111, 32, 105, 109, 97, 103, 101]⟩
def IsLaid (os : Os) (lw : World) : Prop :=
  lw = { World.holding Tryd.prog os ⟨#[.cells #[.string errText] 161], #[], []⟩ with heap := (((((World.holding Tryd.prog os ⟨#[.cells #[.string errText] 161], #[], []⟩).heap.modify 3 (layCells firstCells)).modify 4 (layCells acceptCells)).modify 2 (layCells moveCells)).modify 0 (layCells #[.iface 136 (.pointer (some ⟨(World.settled Tryd.prog os).heap.size, 0, none⟩))])) }
theorem laid_met (os : Os) (lw : World) (h : IsLaid os lw) : laidMet Tryd.prog Rows.fnExactDecodeImageRow.laid (lw.forCall (fun _ _ => 0) ⟨#[], #[.slice none 0 0], []⟩).memory := by
  unfold IsLaid at h
  subst h
  exact laidMet_of_run' 8 (by kernel_rfl) (by kernel_rfl)
theorem reads (os : Os) (lw : World) (h : IsLaid os lw) {H : Type} (enc : TypeId × Value → H) : ∃ x, DataW.whole enc Tryd.prog (lw.forCall (fun _ _ => 0) ⟨#[], #[.slice none 0 0], []⟩).memory Tryd.f6.params.toList Rows.fnExactDecodeImageSpec.vars false (#[.slice none 0 0] : Array Value).toList 8 = some x := by
  unfold IsLaid at h
  subst h
  exact Option.isSome_iff_exists.1 (by kernel_rfl)

set_option maxRecDepth 100000 in
theorem lifted (os : Os) (started : os.Started) (H : Type) (enc : TypeId × Value → H) (F : Stop.Interp) :
    ReturnsInHanded {} Tryd.checked os 6 .any ((OpenSpec.ofChange Rows.fnExactDecodeImageSpec).preRow enc Tryd.prog Tryd.f6 Rows.fnExactDecodeImageRow.domain false Rows.fnExactDecodeImageRow.laid) (((OpenSpec.ofChange Rows.fnExactDecodeImageSpec).at F).post enc Tryd.prog Tryd.f6 false true false false) := by
  obtain ⟨lw, hlw⟩ : ∃ lw, IsLaid os lw := ⟨_, rfl⟩
  obtain ⟨x, hx⟩ := reads os lw hlw enc
  have hm := laid_met os lw hlw
  unfold IsLaid at hlw
  refine returnsInHanded_of_row (C := Tryd.checked) (s := OpenSpec.ofChange Rows.fnExactDecodeImageSpec) own started (by kernel_rfl) Tryd.func6
    (witness_row_atRef (enc := enc) (C := Tryd.checked) false lw #[.slice none 0 0] (by subst hlw; rfl) (by subst hlw; kernel_rfl) (by subst hlw; kernel_rfl) (by subst hlw; kernel_rfl)
      (OpenSpec.preRow_of_cond 8 hx (by subst hlw; kernel_rfl) (fun k hk => by cases hk) (by subst hlw; kernel_rfl) hm)) ?_
  intro W base args ds gs before hval hW _ _ _ hL _ _
  exact contract H enc W base args ds gs before hval hW hL

theorem said : Rows.FnExactDecodeImageSaid :=
  OpenClaim.holds_of_cond 6 Tryd.f6 rfl rfl rfl rfl rfl rfl rfl ⟨rfl, rfl, rfl, rfl, rfl⟩ rfl rfl rfl rfl rfl (by kernel_rfl) Tryd.func6 (by kernel_rfl)
    (of_decide_eq_true (by kernel_rfl)) (by unfold Func.isWrapper; first | (rw [if_pos (by decide +kernel)]; kernel_rfl) | (rw [if_neg (by decide +kernel)]; exact ⟨rfl, rfl⟩))
    (fun os started H enc _ F => by rw [OpenClaim.pre_eq_preRow]; exact lifted os started H enc F)

theorem plain (f : FuncId) (fn : Func) (hf : Tryd.pinned.checked.prog.funcNamed "loop.example/s02126/laws.FnExactDecodeImage" = some f) (hfn : Tryd.pinned.checked.prog.funcs[f]? = some fn) :
    true = Tryd.pinned.checked.prog.looks [] ∧ ∀ (j : Nat) t, fn.params[j]? = some t → Tryd.pinned.checked.prog.wantsStandIn t = false := by
  obtain rfl : f = 6 := Option.some.inj ((show Tryd.prog.funcNamed "loop.example/s02126/laws.FnExactDecodeImage" = some 6 by kernel_rfl).symm.trans hf) |>.symm
  obtain rfl : fn = Tryd.f6 := (Option.some.inj (Tryd.func6.symm.trans hfn)).symm
  refine ⟨by kernel_rfl, fun j t ht => ?_⟩
  rw [Tryd.params6] at ht
  obtain rfl : t = 37 := by simpa using Array.mem_of_getElem? ht
  exact (show Tryd.prog.wantsStandIn 37 = false by kernel_rfl)

theorem card : Rows.FnExactDecodeImageCardSaid :=
  Claim7.holds_tied_plain_at .later [] _ _ _ _ said (fun _ h => by cases h) (by kernel_rfl) (fun _ h => by cases h) fnExactDecodeImage_row_tie rfl ⟨rfl, rfl⟩ (by kernel_rfl) rfl plain (by kernel_rfl)
end Go.Proofs.YtpnocklldlacjaaDoor.fnExactDecodeImage
namespace Go.Proofs.YtpnocklldlacjaaDoor
theorem decodeImage_holds : Rows.FnExactDecodeImageCardSaid := fnExactDecodeImage.card
#print axioms decodeImage_holds
end Go.Proofs.YtpnocklldlacjaaDoor

/-
  Plainly: which ways a cell bars.
  Appends of Decl in a fence; what a round of cellDecls keeps.
-/
import Derived.Test.YtaapababeecmeaaDoorJLayoutDeclsILD0
import Derived.Test.YtaapababeecmeaaDoorJLayoutDeclsIL2
import Derived.Test.YtaapababeecmeaaDoorJLayoutDeclsSLY
import Derived.Maps.OwnIn
import Derived.RangeFuncBox
namespace Go.Proofs.YtaapababeecmeaaDoor
open Go.RowKit Go.Shelf

def pvb (b0 b1 b2 b3 : Bool) : Int :=
  let a0 : Int := if b0 then bits .or .i64 0 1 else 0
  let a1 : Int := if b1 then bits .or .i64 a0 2 else a0
  let a2 : Int := if b2 then bits .or .i64 a1 4 else a1
  if b3 then bits .or .i64 a2 8 else a2
theorem accw_all (d : Ly) (c : Nat) : accw d c [0, 1, 2, 3] = pvb (okw d c 0) (okw d c 1) (okw d c 2) (okw d c 3) := rfl
theorem pvb_bits : ∀ (b0 b1 b2 b3 : Bool) (E : Fin 16),
    (bits .and .i64 (bits .andNot .i64 (pvb b0 b1 b2 b3) E.1) 1 != 0) = (b0 && !bitAt E.1 0) ∧
    (bits .and .i64 (bits .andNot .i64 (pvb b0 b1 b2 b3) E.1) 2 != 0) = (b1 && !bitAt E.1 1) ∧
    (bits .and .i64 (bits .andNot .i64 (pvb b0 b1 b2 b3) E.1) 4 != 0) = (b2 && !bitAt E.1 2) ∧
    (bits .and .i64 (bits .andNot .i64 (pvb b0 b1 b2 b3) E.1) 8 != 0) = (b3 && !bitAt E.1 3) ∧
    (bits .andNot .i64 (pvb b0 b1 b2 b3) E.1 = IntKind.i64.wrap (bits .andNot .i64 (pvb b0 b1 b2 b3) E.1)) := by decide +kernel
/-- A way that is barred. -/
def barw (d : Ly) (c k : Nat) : Bool := (d.cost.getD c 0 != 0) && (okw d c k && !bitAt (d.exits.getD c 0) k)
theorem bar_bits (d : Ly) (c : Nat) (h : ClOk d c) :
    (bits .and .i64 (bits .andNot .i64 (pex d c) (d.exits.getD c 0)) 1 != 0) = barw d c 0 ∧
    (bits .and .i64 (bits .andNot .i64 (pex d c) (d.exits.getD c 0)) 2 != 0) = barw d c 1 ∧
    (bits .and .i64 (bits .andNot .i64 (pex d c) (d.exits.getD c 0)) 4 != 0) = barw d c 2 ∧
    (bits .and .i64 (bits .andNot .i64 (pex d c) (d.exits.getD c 0)) 8 != 0) = barw d c 3 := by
  have he0 := h.e0
  have he1 := h.e1
  obtain ⟨e, he⟩ : ∃ e : Nat, d.exits.getD c 0 = e := ⟨(d.exits.getD c 0).toNat, by omega⟩
  unfold barw pex
  rw [he]
  by_cases h0 : d.cost.getD c 0 = 0
  · have hz := h.wall h0
    obtain rfl : e = 0 := by omega
    have f0 : ((0 : Int) != 0) = false := rfl
    rw [if_pos h0, h0]
    simp only [f0, Bool.false_and]
    exact ⟨by decide, by decide, by decide, by decide⟩
  · have t0 : (d.cost.getD c 0 != 0) = true := by rw [bne_iff_ne]; exact h0
    rw [if_neg h0, accw_all, t0]
    simp only [Bool.true_and]
    obtain ⟨h1, h2, h3, h4, _⟩ := pvb_bits (okw d c 0) (okw d c 1) (okw d c 2) (okw d c 3) ⟨e, by omega⟩
    exact ⟨h1, h2, h3, h4⟩
theorem barD_if (d : Ly) (c k : Nat) (hc : ∀ j, j < d.cost.length → 0 ≤ d.cost.getD j 0) (h0 : d.cost.getD c 0 ≠ 0) : barD d c k = if barw d c k then [{ dAt 12 d.w c with dir := k }] else [] := by
  unfold barD barw okw
  have t0 : (d.cost.getD c 0 != 0) = true := by rw [bne_iff_ne]; exact h0
  rw [t0, Bool.true_and]
  have hn : 0 ≤ d.cost.getD (toC d.w d.h c k).toNat 0 := by
    rcases Nat.lt_or_ge (toC d.w d.h c k).toNat d.cost.length with h | h
    · exact hc _ h
    · rw [List.getD_eq_getElem?_getD, List.getElem?_eq_none h]; exact Int.le_refl _
  by_cases h1 : 0 ≤ toC d.w d.h c k
  · by_cases h2 : d.cost.getD (toC d.w d.h c k).toNat 0 = 0
    · rw [if_neg (by rintro ⟨_, h, _⟩; omega), h2]
      simp
    · have h3 : (d.cost.getD (toC d.w d.h c k).toNat 0 != 0) = true := by rw [bne_iff_ne]; exact h2
      have h4 : 0 < d.cost.getD (toC d.w d.h c k).toNat 0 := by omega
      rw [h3, decide_eq_true h1]
      cases h5 : bitAt (d.exits.getD c 0) k
      · rw [if_pos ⟨h1, h4, rfl⟩]; rfl
      · rw [if_neg (by rintro ⟨_, _, h⟩; cases h)]; rfl
  · rw [if_neg (by rintro ⟨h, _⟩; exact h1 h), decide_eq_false h1]
    simp
/-- The bars of some ways. -/
def barsL (d : Ly) (c : Nat) (l : List (Fin 4)) : List Dc := l.map fun x => { dAt 12 d.w c with dir := (x.1 : Int) }
theorem barsL_snoc (d : Ly) (c : Nat) (l : List (Fin 4)) (x : Fin 4) : barsL d c (l ++ [x]) = barsL d c l ++ [{ dAt 12 d.w c with dir := (x.1 : Int) }] := by unfold barsL; rw [List.map_append]; rfl
theorem bars_all (d : Ly) (c : Nat) (hc : ∀ j, j < d.cost.length → 0 ≤ d.cost.getD j 0) (h0 : d.cost.getD c 0 ≠ 0) : barsTo d c 4 = barsL d c (wyr (barw d c) 0) := by
  simp only [barsTo, barD_if d c _ hc h0, barsL]
  have hw : wyr (barw d c) 0 = (if barw d c 0 then [0] else []) ++ ((if barw d c 1 then [1] else []) ++ ((if barw d c 2 then [2] else []) ++ ((if barw d c 3 then [3] else []) ++ []))) := rfl
  rw [hw]
  cases barw d c 0 <;> cases barw d c 1 <;> cases barw d c 2 <;> cases barw d c 3 <;> rfl
theorem bars_wall (d : Ly) (c : Nat) (h0 : d.cost.getD c 0 = 0) : wyr (barw d c) 0 = [] := by
  have : barw d c = fun _ => false := by funext k; unfold barw; rw [h0]; rfl
  rw [this]; rfl
end Go.Proofs.YtaapababeecmeaaDoor

namespace Go.Proofs.YtaapababeecmeaaDoor
open Go.RowKit Go.Shelf

/-- append of one, laid in a new block, onto a row of the call's own, in a fence. -/
theorem wpIn_app1Dc {F : Fence} {nF : Nat} {ops : Array Oper} {rest : List Oper} {o : Oper} {a : Act} {Q : Exit → Act → World → Prop} {W : World} (hgd : o.guard = none) (s x : Operand)
    (ho : o.op = .call { callee := .builtin .append, args := #[s, x], argTypes := #[34, 34] }) (B : Nat) (v : Value) (xs : List (Dc × Value)) (hs : a.eval s = v) (hown : DcOw W B v xs)
    (d : Dc) (u : Value) (g0 : Nat) (hx : a.eval x = .slice (some ⟨g0, 0, none⟩) 1 1) (hg0 : W.heap.size = g0) (hone : u.oneCell' = true) (hlen : xs.length + 1 ≤ 100000000) (hbase : B ≤ W.heap.size)
    (h : ∀ v' w' l, Hid (l = xs ++ [(d, u)]) → Hid (DcOw w' B v' l) → Hid ((W.alloc (.cells (dcc d u).toArray 59)).grownBy w' v.ownBlock) → wpListIn F nF Tryd.prog ops Q rest (a.put o.dst v') w') : wpListIn F nF Tryd.prog ops Q (o :: rest) a (W.alloc (.cells (dcc d u).toArray 59)) := by
  subst hg0
  have hk := hown.kept ((Below.refl _ W).alloc (Nat.le_refl _) (.cells (dcc d u).toArray 59))
  obtain ⟨i0, hi, hz0, hz1, hz2⟩ := info_partsDc Tryd.infoDc
  refine wpListIn_append_own_at _ hgd s x 34 ho B 59 i0 _ 9 88 Tryd.underlying34 hi hz0 hz1 hz2 rfl (by decide) v xs.length (dccs xs) hs hk ⟨W.heap.size, 0, none⟩ 1 1 (dccs [(d, u)]) hx (dccs_length _) (fun j y hj => ?_) (dccs_one (fun p hp => by rw [List.mem_singleton.1 hp]; exact hone)) (by unfold maxLen; omega) (by omega) (by rw [World.size_alloc]; omega) (fun v' w' h1 h2 _ _ => ?_)
  · have e : (⟨W.heap.size, 0, none⟩ : Addr).add j = ⟨W.heap.size, j, none⟩ := by unfold Addr.add; split <;> simp_all
    have e2 : dccs [(d, u)] = dcc d u := List.append_nil _
    rw [e, (Blk.new _ _ _).cell j, List.getElem?_toArray]
    rw [e2] at hj
    exact hj
  · refine h v' w' (xs ++ [(d, u)]) rfl ?_ h2
    show DcOw _ _ _ _
    unfold DcOw
    rw [List.length_append, dccs_append]
    exact h1

theorem wyr_le (P : Nat → Bool) : (wyr P 0).length ≤ 4 := by
  have h : ∀ d, (wy1 P d).length ≤ 1 := fun d => by unfold wy1; split <;> simp
  have := h 0
  have := h 1
  have := h 2
  have := h 3
  simp only [wyr, List.length_append, List.length_nil]
  omega
theorem barsL_length (d : Ly) (c : Nat) (l : List (Fin 4)) : (barsL d c l).length = l.length := List.length_map _
/-- What a round of cellDecls finds. -/
def CdR (d : Ly) (v2 v3 v4 : Value) (c : Nat) (w : World) (Bn : Nat) (sx : Int) (L0 : List Dc) (pre : List (Fin 4)) (W : World) : Prop :=
  (∃ v LV, Blk W w.heap.size 30 #[.int .i64 d.w, .int .i64 d.h, v2, v3, v4] ∧ Boxed W (w.heap.size + 1) 3 (.int .i64 c) ∧ Boxed W (w.heap.size + 1 + 1) 34 v ∧ Boxed W Bn 3 (.int .i64 sx) ∧ DcOw W w.heap.size v LV ∧ LV.map (·.1) = L0 ++ barsL d c pre ∧ (∀ p ∈ LV, p.2 = .slice none 0 0)) ∧ Below w.heap.size w W
theorem cdR_own (d : Ly) (v2 v3 v4 : Value) (c : Nat) (w : World) (Bn : Nat) (sx : Int) (L0 : List Dc) (B : Nat) (hB : w.heap.size ≤ B) : OwnFrom B (CdR d v2 v3 v4 c w Bn sx L0) := by
  refine OwnFrom.and (Own.from ?_ B) (ownFrom_below (Nat.le_refl _) hB)
  rintro pre X Y row ⟨v, LV, h1, h2, h3, h4, h5, h6, h7⟩ hg hr
  refine ⟨v, LV, blk_kept h1 hg hr, box_kept h2 hg hr, box_kept h3 hg hr, box_kept h4 hg hr, World.ownsRow.kept h5 hg ?_, h6, h7⟩
  cases hv : v.ownBlock with
  | none => exact .inl rfl
  | some g =>
    refine .inr fun e => ?_
    obtain ⟨o, ho, hc⟩ := hr g e.symm
    obtain ⟨cur, hb⟩ := h5.blk hv
    rw [hb] at ho
    cases ho
    cases hc
theorem ownBlock_ne {W : World} {B : Nat} {v : Value} {LV : List (Dc × Value)} (h : DcOw W B v LV) {D : Nat} {o : Obj} (ho : W.heap[D]? = some o) (hc : o.isCells = false) : v.ownBlock = none ∨ v.ownBlock ≠ some D := by
  cases hv : v.ownBlock with
  | none => exact .inl rfl
  | some g =>
    refine .inr fun e => ?_
    cases e
    obtain ⟨cur, hb⟩ := h.blk hv
    rw [hb] at ho
    cases ho
    cases hc
/-- One more declaration in the box. -/
theorem cdR_step {d : Ly} {v2 v3 v4 : Value} {c : Nat} {w : World} {Bn : Nat} {sx : Int} {W w1 : World} {v v' : Value} {LV l : List (Dc × Value)} {o : Obj}
    (hn : w.heap.size ≤ W.heap.size) (hBn : Bn ≠ w.heap.size + 1 + 1)
    (h1 : Blk W w.heap.size 30 #[.int .i64 d.w, .int .i64 d.h, v2, v3, v4]) (h2 : Boxed W (w.heap.size + 1) 3 (.int .i64 c)) (h3 : Boxed W (w.heap.size + 1 + 1) 34 v) (h4 : Boxed W Bn 3 (.int .i64 sx)) (h5 : DcOw W w.heap.size v LV)
    (h6 : DcOw w1 w.heap.size v' l) (hg : (W.alloc o).grownBy w1 v.ownBlock) :
    (Blk (w1.setCell ⟨w.heap.size + 1 + 1, 0, none⟩ v') w.heap.size 30 #[.int .i64 d.w, .int .i64 d.h, v2, v3, v4] ∧ Boxed (w1.setCell ⟨w.heap.size + 1 + 1, 0, none⟩ v') (w.heap.size + 1) 3 (.int .i64 c) ∧ Boxed (w1.setCell ⟨w.heap.size + 1 + 1, 0, none⟩ v') (w.heap.size + 1 + 1) 34 v' ∧ Boxed (w1.setCell ⟨w.heap.size + 1 + 1, 0, none⟩ v') Bn 3 (.int .i64 sx) ∧ DcOw (w1.setCell ⟨w.heap.size + 1 + 1, 0, none⟩ v') w.heap.size v' l) ∧ Boxed w1 (w.heap.size + 1 + 1) 34 v ∧ KeepsOthers W (w1.setCell ⟨w.heap.size + 1 + 1, 0, none⟩ v') ∧ Below w.heap.size W (w1.setCell ⟨w.heap.size + 1 + 1, 0, none⟩ v') := by
  obtain ⟨a1, a2, a3, a4, a5⟩ := Boxed.appended h3 (by decide) h5 hn (by omega) h6 hg
  have k1 : Blk w1 w.heap.size 30 #[.int .i64 d.w, .int .i64 d.h, v2, v3, v4] := (hg.block w.heap.size (by rw [World.size_alloc]; have := h1.lt; omega) (fun e => by
    obtain ⟨cur, hb⟩ := h5.blk e.symm
    have := blk_ty h1 hb
    exact absurd this (by decide))).trans (h1.alloc _)
  have k2 : Boxed w1 (w.heap.size + 1) 3 (.int .i64 c) := (h2.alloc o).kept hg (h2.not_row (by decide) h5)
  have k4 : Boxed w1 Bn 3 (.int .i64 sx) := (h4.alloc o).kept hg (h4.not_row (by decide) h5)
  exact ⟨⟨k1.other _ _ (by omega), k2.other (by omega) _, a2, k4.other hBn _, a3⟩, a1, a4, a5⟩
end Go.Proofs.YtaapababeecmeaaDoor

/-
  Appends of Decl in a fence; what a round of cellDecls keeps.
-/
import Derived.Test.YtiiljckgoiaaoaaDoorILD1
import Derived.Maps.OwnIn
import Derived.RangeFuncBox
namespace Go.Proofs.YtiiljckgoiaaoaaDoor
open Go.RowKit Go.Shelf

/-- append of one, laid in a new block, onto a row of the call's own, in a fence. -/
theorem wpIn_app1Dc {F : Fence} {nF : Nat} {ops : Array Oper} {rest : List Oper} {o : Oper} {a : Act} {Q : Exit → Act → World → Prop} {W : World} (hgd : o.guard = none) (s x : Operand)
    (ho : o.op = .call { callee := .builtin .append, args := #[s, x], argTypes := #[38, 38] }) (B : Nat) (v : Value) (xs : List (Dc × Value)) (hs : a.eval s = v) (hown : DcOw W B v xs)
    (d : Dc) (u : Value) (g0 : Nat) (hx : a.eval x = .slice (some ⟨g0, 0, none⟩) 1 1) (hg0 : W.heap.size = g0) (hone : u.oneCell' = true) (hlen : xs.length + 1 ≤ 100000000) (hbase : B ≤ W.heap.size)
    (h : ∀ v' w' l, Hid (l = xs ++ [(d, u)]) → Hid (DcOw w' B v' l) → Hid ((W.alloc (.cells (dcc d u).toArray 58)).grownBy w' v.ownBlock) → wpListIn F nF Tryd.prog ops Q rest (a.put o.dst v') w') : wpListIn F nF Tryd.prog ops Q (o :: rest) a (W.alloc (.cells (dcc d u).toArray 58)) := by
  subst hg0
  have hk := hown.kept ((Below.refl _ W).alloc (Nat.le_refl _) (.cells (dcc d u).toArray 58))
  obtain ⟨i0, hi, hz0, hz1, hz2⟩ := info_partsDc Tryd.infoDc
  refine wpListIn_append_own_at _ hgd s x 38 ho B 58 i0 _ 9 88 Tryd.underlying38 hi hz0 hz1 hz2 rfl (by decide) v xs.length (dccs xs) hs hk ⟨W.heap.size, 0, none⟩ 1 1 (dccs [(d, u)]) hx (dccs_length _) (fun j y hj => ?_) (dccs_one (fun p hp => by rw [List.mem_singleton.1 hp]; exact hone)) (by unfold maxLen; omega) (by omega) (by rw [World.size_alloc]; omega) (fun v' w' h1 h2 _ _ => ?_)
  · have e : (⟨W.heap.size, 0, none⟩ : Addr).add j = ⟨W.heap.size, j, none⟩ := by unfold Addr.add; split <;> simp_all
    have e2 : dccs [(d, u)] = dcc d u := List.append_nil _
    rw [e, (Blk.new _ _ _).cell j, List.getElem?_toArray]
    rw [e2] at hj
    exact hj
  · refine h v' w' (xs ++ [(d, u)]) rfl ?_ h2
    show DcOw _ _ _ _
    unfold DcOw
    rw [List.length_append, dccs_append]
    exact h1

theorem wyr_le (P : Nat → Bool) : (wyr P 0).length ≤ 4 := by
  have h : ∀ d, (wy1 P d).length ≤ 1 := fun d => by unfold wy1; split <;> simp
  have := h 0
  have := h 1
  have := h 2
  have := h 3
  simp only [wyr, List.length_append, List.length_nil]
  omega
theorem barsL_length (d : Ly) (c : Nat) (l : List (Fin 4)) : (barsL d c l).length = l.length := List.length_map _
/-- What a round of cellDecls finds. -/
def CdR (d : Ly) (v2 v3 v4 : Value) (c : Nat) (w : World) (Bn : Nat) (sx : Int) (L0 : List Dc) (pre : List (Fin 4)) (W : World) : Prop :=
  (∃ v LV, Blk W w.heap.size 31 #[.int .i64 d.w, .int .i64 d.h, v2, v3, v4] ∧ Boxed W (w.heap.size + 1) 3 (.int .i64 c) ∧ Boxed W (w.heap.size + 1 + 1) 38 v ∧ Boxed W Bn 3 (.int .i64 sx) ∧ DcOw W w.heap.size v LV ∧ LV.map (·.1) = L0 ++ barsL d c pre ∧ (∀ p ∈ LV, p.2 = .slice none 0 0)) ∧ Below w.heap.size w W
theorem cdR_own (d : Ly) (v2 v3 v4 : Value) (c : Nat) (w : World) (Bn : Nat) (sx : Int) (L0 : List Dc) (B : Nat) (hB : w.heap.size ≤ B) : OwnFrom B (CdR d v2 v3 v4 c w Bn sx L0) := by
  refine OwnFrom.and (Own.from ?_ B) (ownFrom_below (Nat.le_refl _) hB)
  rintro pre X Y row ⟨v, LV, h1, h2, h3, h4, h5, h6, h7⟩ hg hr
  refine ⟨v, LV, blk_kept h1 hg hr, box_kept h2 hg hr, box_kept h3 hg hr, box_kept h4 hg hr, World.ownsRow.kept h5 hg ?_, h6, h7⟩
  cases hv : v.ownBlock with
  | none => exact .inl rfl
  | some g =>
    refine .inr fun e => ?_
    obtain ⟨o, ho, hc⟩ := hr g e.symm
    obtain ⟨cur, hb⟩ := h5.blk hv
    rw [hb] at ho
    cases ho
    cases hc
theorem ownBlock_ne {W : World} {B : Nat} {v : Value} {LV : List (Dc × Value)} (h : DcOw W B v LV) {D : Nat} {o : Obj} (ho : W.heap[D]? = some o) (hc : o.isCells = false) : v.ownBlock = none ∨ v.ownBlock ≠ some D := by
  cases hv : v.ownBlock with
  | none => exact .inl rfl
  | some g =>
    refine .inr fun e => ?_
    cases e
    obtain ⟨cur, hb⟩ := h.blk hv
    rw [hb] at ho
    cases ho
    cases hc
/-- One more declaration in the box. -/
theorem cdR_step {d : Ly} {v2 v3 v4 : Value} {c : Nat} {w : World} {Bn : Nat} {sx : Int} {W w1 : World} {v v' : Value} {LV l : List (Dc × Value)} {o : Obj}
    (hn : w.heap.size ≤ W.heap.size) (hBn : Bn ≠ w.heap.size + 1 + 1)
    (h1 : Blk W w.heap.size 31 #[.int .i64 d.w, .int .i64 d.h, v2, v3, v4]) (h2 : Boxed W (w.heap.size + 1) 3 (.int .i64 c)) (h3 : Boxed W (w.heap.size + 1 + 1) 38 v) (h4 : Boxed W Bn 3 (.int .i64 sx)) (h5 : DcOw W w.heap.size v LV)
    (h6 : DcOw w1 w.heap.size v' l) (hg : (W.alloc o).grownBy w1 v.ownBlock) :
    (Blk (w1.setCell ⟨w.heap.size + 1 + 1, 0, none⟩ v') w.heap.size 31 #[.int .i64 d.w, .int .i64 d.h, v2, v3, v4] ∧ Boxed (w1.setCell ⟨w.heap.size + 1 + 1, 0, none⟩ v') (w.heap.size + 1) 3 (.int .i64 c) ∧ Boxed (w1.setCell ⟨w.heap.size + 1 + 1, 0, none⟩ v') (w.heap.size + 1 + 1) 38 v' ∧ Boxed (w1.setCell ⟨w.heap.size + 1 + 1, 0, none⟩ v') Bn 3 (.int .i64 sx) ∧ DcOw (w1.setCell ⟨w.heap.size + 1 + 1, 0, none⟩ v') w.heap.size v' l) ∧ Boxed w1 (w.heap.size + 1 + 1) 38 v ∧ KeepsOthers W (w1.setCell ⟨w.heap.size + 1 + 1, 0, none⟩ v') ∧ Below w.heap.size W (w1.setCell ⟨w.heap.size + 1 + 1, 0, none⟩ v') := by
  obtain ⟨a1, a2, a3, a4, a5⟩ := Boxed.appended h3 (by decide) h5 hn (by omega) h6 hg
  have k1 : Blk w1 w.heap.size 31 #[.int .i64 d.w, .int .i64 d.h, v2, v3, v4] := (hg.block w.heap.size (by rw [World.size_alloc]; have := h1.lt; omega) (fun e => by
    obtain ⟨cur, hb⟩ := h5.blk e.symm
    have := blk_ty h1 hb
    exact absurd this (by decide))).trans (h1.alloc _)
  have k2 : Boxed w1 (w.heap.size + 1) 3 (.int .i64 c) := (h2.alloc o).kept hg (h2.not_row (by decide) h5)
  have k4 : Boxed w1 Bn 3 (.int .i64 sx) := (h4.alloc o).kept hg (h4.not_row (by decide) h5)
  exact ⟨⟨k1.other _ _ (by omega), k2.other (by omega) _, a2, k4.other hBn _, a3⟩, a1, a4, a5⟩
end Go.Proofs.YtiiljckgoiaaoaaDoor

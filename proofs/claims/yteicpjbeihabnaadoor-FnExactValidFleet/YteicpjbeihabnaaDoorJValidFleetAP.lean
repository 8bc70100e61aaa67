/-
  Appends of bytes onto rows of the call's own.
-/
import Derived.Test.YteicpjbeihabnaaDoorJValidFleetB0
import Derived.Test.YteicpjbeihabnaaDoorJValidFleetE
import Derived.Deep.RegionLaw
namespace Go.Proofs.YteicpjbeihabnaaDoor
open Go.RowKit

/-- append of bytes, wherever they lie, onto a row of the call's own. -/
theorem wp_app_at {ops : Array Oper} {rest : List Oper} {o : Oper} {a : Act} {Q : Exit → Act → World → Prop} {w : World} (hgd : o.guard = none) (s x : Operand)
    (ho : o.op = .call { callee := .builtin .append, args := #[s, x], argTypes := #[26, 26] }) (B : Nat) (v : Value) (xs : List Nat) (hs : a.eval s = v) (hown : w.ownsRow B 5 1 v xs.length (cv xs))
    (g f c : Nat) (ys : List Nat) (hx : a.eval x = .slice (some ⟨g, f, none⟩) ys.length c) (hnews : ∀ j, j < ys.length → w.cell? ⟨g, f + j, none⟩ = some (.int .u8 (ys.getD j 0 : Nat))) (hlen : xs.length + ys.length ≤ 100000000) (hbase : B ≤ w.heap.size)
    (h : ∀ v' w' l, Hid (l = xs ++ ys) → w'.ownsRow B 5 1 v' l.length (cv l) → w.grownBy w' v.ownBlock → wpList Tryd.prog ops Q rest (a.put o.dst v') w') : wpList Tryd.prog ops Q (o :: rest) a w := by
  obtain ⟨i0, hi, hz0, hz1, hz2⟩ := info_parts Tryd.info5
  refine wpList_append_own _ hgd s x 26 ho B 5 i0 (.int .u8 0) 1 1 Tryd.underlying26 hi hz0 hz1 hz2 rfl (by decide) v xs.length (cv xs) hs hown ⟨g, f, none⟩ ys.length c (cv ys) hx (by rw [cv_length, Nat.mul_one]) (fun j u hj => ?_) (cv_one ys) (by unfold maxLen; omega) (by omega) hbase (fun v' w' h1 h2 _ => ?_)
  · have hjl : j < ys.length := by
      rcases Nat.lt_or_ge j ys.length with h | h
      · exact h
      · rw [List.getElem?_eq_none (by rw [cv_length]; exact h)] at hj; cases hj
    have e : (⟨g, f, none⟩ : Addr).add j = ⟨g, f + j, none⟩ := by unfold Addr.add; split <;> simp_all
    rw [e, hnews j hjl, ← hj]
    simp [cv, List.getD, hjl]
  · refine h v' w' (xs ++ ys) rfl ?_ h2
    rw [List.length_append, cv_append]
    exact h1

/-- append of bytes onto a row of the call's own. -/
theorem wp_app {ops : Array Oper} {rest : List Oper} {o : Oper} {a : Act} {Q : Exit → Act → World → Prop} {w : World} (hgd : o.guard = none) (s x : Operand)
    (ho : o.op = .call { callee := .builtin .append, args := #[s, x], argTypes := #[26, 26] }) (B : Nat) (v : Value) (xs : List Nat) (hs : a.eval s = v) (hown : w.ownsRow B 5 1 v xs.length (cv xs))
    (g c : Nat) (ys : List Nat) (hx : a.eval x = .slice (some ⟨g, 0, none⟩) ys.length c) (hnews : ∀ j, j < ys.length → w.cell? ⟨g, j, none⟩ = some (.int .u8 (ys.getD j 0 : Nat))) (hlen : xs.length + ys.length ≤ 100000000) (hbase : B ≤ w.heap.size)
    (h : ∀ v' w' l, Hid (l = xs ++ ys) → w'.ownsRow B 5 1 v' l.length (cv l) → w.grownBy w' v.ownBlock → wpList Tryd.prog ops Q rest (a.put o.dst v') w') : wpList Tryd.prog ops Q (o :: rest) a w :=
  wp_app_at hgd s x ho B v xs hs hown g 0 c ys hx (fun j hj => by rw [Nat.zero_add]; exact hnews j hj) hlen hbase h

/-- The world behind an append is as it was below the row's base. -/
theorem app_below {B : Nat} {w0 w w' : World} {v : Value} {n : Nat} {xs : List Value} (h : Below B w0 w) (hown : w.ownsRow B 5 1 v n xs) (hB : B ≤ w.heap.size) (hg : w.grownBy w' v.ownBlock) : Below B w0 w' :=
  h.grown hg hB (fun k hk => (hown.lt k hk).1)

theorem own_fix {w : World} {B : Nat} {v : Value} {n : Nat} {l : List Nat} (h : w.ownsRow B 5 1 v n (cv l)) : w.ownsRow B 5 1 v l.length (cv l) := by
  have e : n = l.length := by have := h.1; rw [cv_length] at this; omega
  subst e; exact h
theorem kept_below {w w' : World} {B : Nat} {v : Value} {n : Nat} {xs : List Value} (h : w.ownsRow B 5 1 v n xs) (hb : Below w.heap.size w w') : w'.ownsRow B 5 1 v n xs :=
  h.kept (row := none) ⟨hb.os, hb.tape, hb.output, hb.size, fun k hk _ => hb.block k hk⟩ (by cases v.ownBlock <;> simp)

/-- The slice that owns some bytes, written out. -/
theorem own_slice {w : World} {B : Nat} {v : Value} {l : List Nat} (h : w.ownsRow B 5 1 v l.length (cv l)) (hl : 0 < l.length) :
    ∃ g c, v = .slice (some ⟨g, 0, none⟩) l.length c ∧ B ≤ g ∧ g < w.heap.size ∧ (∀ j, j < l.length → w.cell? ⟨g, j, none⟩ = some (.int .u8 (l.getD j 0 : Nat))) ∧ ∀ j, w.frozen? ⟨g, j, none⟩ = false := by
  rcases h.2 with ⟨_, h0⟩ | ⟨g, c, cur, hv, hb, hg, _⟩
  · omega
  · refine ⟨g, c, hv, hb, (Array.getElem?_eq_some_iff.1 hg).1, fun j hj => ?_, fun j => ?_⟩
    · rw [hv] at h
      rw [h.cellAt j (by omega)]
      simp [cv, List.getD, hj]
    · rw [hv] at h
      exact h.frozenAt j
theorem ret_vi {k : IntKind} {v : Value} {a b : Int} (h : a = b) : Ending.returned (.tuple #[v, .int k a]) = .returned (.tuple #[v, .int k b]) := by rw [h]
theorem cell_fresh (w : World) (cs : Array Value) (t : TypeId) (j : Nat) : (w.alloc (.cells cs t)).cell? ⟨w.heap.size, j, none⟩ = cs[j]? := by
  have h : (w.alloc (.cells cs t)).heap[w.heap.size]? = some (.cells cs t) := by
    show (w.heap.push _)[w.heap.size]? = _
    rw [Array.getElem?_push_size]
  unfold World.cell?
  rw [h]
  rfl
end Go.Proofs.YteicpjbeihabnaaDoor

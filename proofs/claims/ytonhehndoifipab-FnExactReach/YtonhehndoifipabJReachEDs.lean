/-
  Rows of loop.example/s02126/spec.l5edge of the call's own; appends onto them.
-/
import Derived.Test.YtonhehndoifipabJReachED
namespace Go.Proofs.Ytonhehndoifipab
open Go.RowKit

/-- A slice of the call's own holds them. -/
def EsOw (w : World) (B : Nat) (v : Value) (L : List Ed) : Prop := w.ownsRow B 53 4 v L.length (edcs L)
theorem EsOw.nil (w : World) (B : Nat) : EsOw w B (.slice none 0 0) [] := World.ownsRow_nil _ _ _ _
theorem EsOw.kept {w w' : World} {B : Nat} {v : Value} {L : List Ed} (h : EsOw w B v L) (hb : Below w.heap.size w w') : EsOw w' B v L :=
  World.ownsRow.kept h (row := none) ⟨hb.os, hb.tape, hb.output, hb.size, fun k hk _ => hb.block k hk⟩ (by cases v.ownBlock <;> simp)
theorem EsOw.below {B : Nat} {w0 w w' : World} {v : Value} {L : List Ed} (h : EsOw w B v L) (hb : Below B w0 w) (hB : B ≤ w.heap.size) (hg : w.grownBy w' v.ownBlock) : Below B w0 w' :=
  hb.grown hg hB (fun k hk => (World.ownsRow.lt h k hk).1)
theorem EsOw.rd {w : World} {B : Nat} {v : Value} {L : List Ed} (h : EsOw w B v L) : EdS w v L := by
  obtain ⟨hl, h⟩ := h
  rcases h with ⟨rfl, h0⟩ | ⟨g, c, cur, rfl, hb, hg, hn, _, hcz, ht⟩
  · exact ⟨none, 0, 0, 0, by rw [h0], fun h => absurd h (by omega), fun j hj => absurd hj (by omega)⟩
  · refine ⟨_, g, 0, c, rfl, fun _ => rfl, fun j hj p hp => ?_⟩
    have key : ∀ i, i < 4 → w.cell? ⟨g, 0 + j * 4 + i, none⟩ = (edc p)[i]? := by
      intro i hi
      rw [← edcs_at L j p hp i hi, ← ht]
      have hlt : j * 4 + i < L.length * 4 := by
        have : (j + 1) * 4 ≤ L.length * 4 := Nat.mul_le_mul_right _ hj
        omega
      rw [List.getElem?_take, if_pos hlt, Array.getElem?_toList, Nat.zero_add]
      simp [World.cell?, hg]
    exact ⟨key 0 (by omega), key 1 (by omega), key 2 (by omega), key 3 (by omega)⟩

theorem Try.infoEsOw : (Try.prog.info? 53).map (fun i => (i.zero, i.size, i.bytes)) = some (some (.agg #[.int .i64 0, .int .i64 0, .int .i64 0, .int .i64 0]), 4, 32) := by kernel_rfl
theorem info_partsEsOw {P : Program} {t : TypeId} {z : Value} {a b : Nat} (h : (P.info? t).map (fun i => (i.zero, i.size, i.bytes)) = some (some z, a, b)) : ∃ i, P.info? t = some i ∧ i.zero = some z ∧ i.size = a ∧ i.bytes = b := by
  cases hi : P.info? t with
  | none => rw [hi] at h; cases h
  | some i => rw [hi] at h; simp at h; exact ⟨i, rfl, h.1, h.2.1, h.2.2⟩
/-- append of one onto a row of the call's own. -/
theorem wp_appEsOw {ops : Array Oper} {rest : List Oper} {o : Oper} {a : Act} {Q : Exit → Act → World → Prop} {w : World} (hgd : o.guard = none) (s x : Operand)
    (ho : o.op = .call { callee := .builtin .append, args := #[s, x], argTypes := #[41, 41] }) (B : Nat) (v : Value) (xs : List Ed) (hs : a.eval s = v) (hown : EsOw w B v xs)
    (g c : Nat) (y : Ed) (hx : a.eval x = .slice (some ⟨g, 0, none⟩) 1 c) (hnews : ∀ i, i < 4 → w.cell? ⟨g, i, none⟩ = (edc y)[i]?) (hlen : xs.length ≤ 10000000) (hbase : B ≤ w.heap.size)
    (h : ∀ v' w' l, Hid (l = xs ++ [y]) → EsOw w' B v' l → w.grownBy w' v.ownBlock → wpList Try.prog ops Q rest (a.put o.dst v') w') : wpList Try.prog ops Q (o :: rest) a w := by
  obtain ⟨i0, hi, hz0, hz1, hz2⟩ := info_partsEsOw Try.infoEsOw
  refine wpList_append_own_at _ hgd s x 41 ho B 53 i0 _ 4 32 Try.underlying41 hi hz0 hz1 hz2 rfl (by decide) v xs.length (edcs xs) hs hown ⟨g, 0, none⟩ 1 c (edcs [y]) hx (edcs_length [y]) (fun j u hj => ?_) (edcs_one _) (by unfold maxLen; omega) (by omega) hbase (fun v' w' h1 h2 _ h4 => ?_)
  · have hjl : j < 4 := by
      rcases Nat.lt_or_ge j 4 with h | h
      · exact h
      · rw [List.getElem?_eq_none (by rw [edcs_length]; exact h)] at hj; cases hj
    have e : (⟨g, 0, none⟩ : Addr).add j = ⟨g, j, none⟩ := by unfold Addr.add; split <;> simp_all
    rw [e, hnews j hjl]
    have := edcs_at [y] 0 y rfl j hjl
    rw [Nat.zero_mul, Nat.zero_add] at this
    rw [← this]
    exact hj
  · refine h v' w' (xs ++ [y]) rfl ?_ h2
    unfold EsOw
    rw [List.length_append, edcs_append]
    exact h1
/-- .. as one step of a region that draws. -/
theorem step_appEsOw {ops : Array Oper} {o : Oper} {a : Act} {w : World} {K : Act → World → Prop} {Q : Exit → Act → World → Prop} {E : Prop} (hgd : o.guard = none) (s x : Operand)
    (ho : o.op = .call { callee := .builtin .append, args := #[s, x], argTypes := #[41, 41] }) (B : Nat) (v : Value) (xs : List Ed) (hs : a.eval s = v) (hown : EsOw w B v xs)
    (g c : Nat) (y : Ed) (hx : a.eval x = .slice (some ⟨g, 0, none⟩) 1 c) (hnews : ∀ i, i < 4 → w.cell? ⟨g, i, none⟩ = (edc y)[i]?) (hlen : xs.length ≤ 10000000) (hbase : B ≤ w.heap.size)
    (h : ∀ v' w' l, Hid (l = xs ++ [y]) → EsOw w' B v' l → w.grownBy w' v.ownBlock → K (a.put o.dst v') w') :
    if Region.wanted o (yielded ops a.tmps) = true then Oper.wp Try.prog o a w K Q else E := by
  have hw : Region.wanted o (yielded ops a.tmps) = true := by simp [Region.wanted, hgd]
  rw [if_pos hw]
  obtain ⟨i0, hi, hz0, hz1, hz2⟩ := info_partsEsOw Try.infoEsOw
  refine wp_append_own w s x 41 ho B 53 i0 _ 4 32 Try.underlying41 hi hz0 hz1 hz2 rfl (by decide) v xs.length (edcs xs) hs hown ⟨g, 0, none⟩ 1 c (edcs [y]) hx (edcs_length [y]) (fun j u hj => ?_) (edcs_one _) (by unfold maxLen; omega) (by omega) hbase (fun v' w' h1 h2 _ => ?_)
  · have hjl : j < 4 := by
      rcases Nat.lt_or_ge j 4 with h | h
      · exact h
      · rw [List.getElem?_eq_none (by rw [edcs_length]; exact h)] at hj; cases hj
    have e : (⟨g, 0, none⟩ : Addr).add j = ⟨g, j, none⟩ := by unfold Addr.add; split <;> simp_all
    rw [e, hnews j hjl]
    have := edcs_at [y] 0 y rfl j hjl
    rw [Nat.zero_mul, Nat.zero_add] at this
    rw [← this]
    exact hj
  · refine h v' w' (xs ++ [y]) rfl ?_ h2
    unfold EsOw
    rw [List.length_append, edcs_append]
    exact h1
end Go.Proofs.Ytonhehndoifipab

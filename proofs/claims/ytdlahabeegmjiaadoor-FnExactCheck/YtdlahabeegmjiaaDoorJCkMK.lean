/-
  Cells that are written; markByteS, heldByteS, markIntS, heldIntS at any slice.
  append of numbers onto a row of the call's own.
  Appends onto rows of numbers (AI0), beside those onto bytes (AP).
  The walk of l2kids.
-/
import Derived.Test.YtdlahabeegmjiaaDoorJCkIN0
import Derived.Test.YtdlahabeegmjiaaDoorJCkT
import Derived.Maps.AppendAt
import Derived.Test.YtdlahabeegmjiaaDoorJCkAP
import Derived.Test.YtdlahabeegmjiaaDoorJCkVG5
namespace Go.Proofs.YtdlahabeegmjiaaDoor
open Go.RowKit

/-- Only cells of block b were written. -/
structure Wrt (b : Nat) (w w' : World) : Prop where
  os : w'.os = w.os
  tape : w'.tape = w.tape
  output : w'.output = w.output
  size : w'.heap.size = w.heap.size
  blk : ∀ g, g ≠ b → w'.heap[g]? = w.heap[g]?
  has : ∀ p : Addr, (∃ v, w.cell? p = some v) → ∃ v, w'.cell? p = some v
  fz : ∀ p : Addr, w'.frozen? p = w.frozen? p
theorem Wrt.refl (b : Nat) (w : World) : Wrt b w w := ⟨rfl, rfl, rfl, rfl, fun _ _ => rfl, fun _ h => h, fun _ => rfl⟩
theorem has_setCell {w : World} {q : Addr} {u v : Value} (hq : w.cell? q = some v) (p : Addr) (h : ∃ x, w.cell? p = some x) : ∃ x, (w.setCell q u).cell? p = some x := by
  by_cases e : p = q
  · subst e; exact ⟨u, World.cell?_setCell_same _ _ _ hq⟩
  · obtain ⟨x, hx⟩ := h
    exact ⟨x, by rw [World.cell?_setCell_other _ _ _ _ (fun h => e h.symm)]; exact hx⟩
theorem Wrt.setCell {b o : Nat} {w w' : World} {v : Value} (h : Wrt b w w') (hq : w'.cell? ⟨b, o, none⟩ = some v) (u : Value) : Wrt b w (w'.setCell ⟨b, o, none⟩ u) :=
  ⟨h.os, h.tape, h.output, by rw [World.size_setCell]; exact h.size, fun g hg => by rw [Below.heap_setCell _ _ _ _ hg]; exact h.blk g hg, fun p hp => has_setCell hq p (h.has p hp), fun p => by rw [World.frozen?_setCell]; exact h.fz p⟩
theorem Wrt.below {b B : Nat} {w w' : World} (h : Wrt b w w') (hb : B ≤ b) : Below B w w' :=
  ⟨h.os, h.tape, h.output, by rw [h.size]; exact Nat.le_refl _, fun g hg => h.blk g (by omega)⟩
theorem Wrt.cell {b : Nat} {w w' : World} (h : Wrt b w w') {p : Addr} (hp : p.block ≠ b) : w'.cell? p = w.cell? p := World.cell?_of_block (w := w) (h.blk _ hp)

/-- Blocks outside bl lie as they lay. -/
structure Wrs (bl : List Nat) (w w' : World) : Prop where
  os : w'.os = w.os
  tape : w'.tape = w.tape
  output : w'.output = w.output
  size : w.heap.size ≤ w'.heap.size
  blk : ∀ g, g < w.heap.size → g ∉ bl → w'.heap[g]? = w.heap[g]?
theorem Wrs.refl (bl : List Nat) (w : World) : Wrs bl w w := ⟨rfl, rfl, rfl, Nat.le_refl _, fun _ _ _ => rfl⟩
theorem Wrs.trans {bl : List Nat} {a b c : World} (h : Wrs bl a b) (k : Wrs bl b c) : Wrs bl a c :=
  ⟨k.os.trans h.os, k.tape.trans h.tape, k.output.trans h.output, Nat.le_trans h.size k.size, fun g hg ho => (k.blk g (Nat.lt_of_lt_of_le hg h.size) ho).trans (h.blk g hg ho)⟩
theorem Wrs.mono {bl bl' : List Nat} {w w' : World} (h : Wrs bl w w') (hs : ∀ g ∈ bl, g ∈ bl') : Wrs bl' w w' :=
  ⟨h.os, h.tape, h.output, h.size, fun g hg ho => h.blk g hg (fun hm => ho (hs g hm))⟩
theorem Wrs.of_below {bl : List Nat} {w w' : World} (h : Below w.heap.size w w') : Wrs bl w w' := ⟨h.os, h.tape, h.output, h.size, fun g hg _ => h.block g hg⟩
theorem Wrs.below {bl : List Nat} {B : Nat} {w w' : World} (h : Wrs bl w w') (hB : ∀ g ∈ bl, B ≤ g) (hw : B ≤ w.heap.size) : Below B w w' :=
  ⟨h.os, h.tape, h.output, h.size, fun g hg => h.blk g (by omega) (fun hm => by have := hB g hm; omega)⟩
theorem Wrs.set {bl : List Nat} {w w' : World} {b o : Nat} (h : Wrs bl w w') (hb : b ∈ bl) (u : Value) : Wrs bl w (w'.setCell ⟨b, o, none⟩ u) :=
  ⟨h.os, h.tape, h.output, by rw [World.size_setCell]; exact h.size, fun g hg ho => by rw [Below.heap_setCell _ _ _ _ (fun e => ho (by rw [e]; exact hb))]; exact h.blk g hg ho⟩
/-- Blocks that came, each once. -/
structure Fr (w w' : World) (bl : List Nat) : Prop where
  nd : bl.Nodup
  lo : ∀ g ∈ bl, w.heap.size ≤ g
  hi : ∀ g ∈ bl, g < w'.heap.size
theorem Fr.mono {w0 w w' w1 : World} {bl : List Nat} (h : Fr w w' bl) (h0 : w0.heap.size ≤ w.heap.size) (h1 : w'.heap.size ≤ w1.heap.size) : Fr w0 w1 bl :=
  ⟨h.nd, fun g hg => by have := h.lo g hg; omega, fun g hg => by have := h.hi g hg; omega⟩
theorem Fr.append {a b b' c : World} {x y : List Nat} (h : Fr a b x) (k : Fr b' c y) (hb : b.heap.size ≤ b'.heap.size) (hab : a.heap.size ≤ b.heap.size) (hbc : b'.heap.size ≤ c.heap.size) : Fr a c (x ++ y) :=
  ⟨List.nodup_append.2 ⟨h.nd, k.nd, fun p hp q hq e => by have h1 := h.hi p hp; have h2 := k.lo q hq; omega⟩, fun g hg => by
    rcases List.mem_append.1 hg with h1 | h1
    · exact h.lo g h1
    · have := k.lo g h1; omega, fun g hg => by
    rcases List.mem_append.1 hg with h1 | h1
    · have := h.hi g h1; omega
    · exact k.hi g h1⟩
theorem Fr.one {w w' : World} {b : Nat} (h1 : w.heap.size ≤ b) (h2 : b < w'.heap.size) (P : Prop) [Decidable P] : Fr w w' (if P then [b] else []) := by
  by_cases h : P
  · rw [if_pos h]
    exact ⟨by simp, fun g hg => by rw [List.mem_singleton.1 hg]; exact h1, fun g hg => by rw [List.mem_singleton.1 hg]; exact h2⟩
  · rw [if_neg h]
    exact ⟨List.nodup_nil, fun g hg => (by cases hg), fun g hg => (by cases hg)⟩
theorem Fr.nil (w w' : World) : Fr w w' [] := ⟨List.nodup_nil, fun g hg => (by cases hg), fun g hg => (by cases hg)⟩

/-- The mark of a number. -/
def mkB (k : Nat) : Value := .int .u8 ((k % 256 : Nat) : Int)
def mkI (k : Nat) : Value := .int .i64 (k : Int)
theorem set_hit {w : World} {b o m : Nat} {u v : Value} (h : w.cell? ⟨b, o + m, none⟩ = some v) (j : Nat) : (w.setCell ⟨b, o + m, none⟩ u).cell? ⟨b, j, none⟩ = if j = o + m then some u else w.cell? ⟨b, j, none⟩ := by
  by_cases e : j = o + m
  · subst e; rw [if_pos rfl]; exact World.cell?_setCell_same _ _ _ h
  · rw [if_neg e]; exact World.cell?_setCell_other _ _ _ _ (fun h => e (by have := congrArg Addr.off h; exact this.symm))

/-- A slice reads as s; its block. -/
def BF (w : World) (v : Value) (s : ByteArray) (bl : List Nat) : Prop := ∃ a b o c, v = .slice a s.size c ∧ (0 < s.size → a = some ⟨b, o, none⟩) ∧ bl = (if 0 < s.size then [b] else []) ∧ ∀ j, j < s.size → w.cell? ⟨b, o + j, none⟩ = some (bts s j) ∧ w.frozen? ⟨b, o + j, none⟩ = false
theorem BF.rd {w : World} {v : Value} {s : ByteArray} {bl : List Nat} (h : BF w v s bl) : BS w v s := by
  obtain ⟨a, b, o, c, h1, h2, _, h3⟩ := h
  exact ⟨a, b, o, c, h1, h2, fun j hj => (h3 j hj).1⟩
theorem BF.lt {w : World} {v : Value} {s : ByteArray} {bl : List Nat} (h : BF w v s bl) : ∀ g ∈ bl, g < w.heap.size := by
  obtain ⟨a, b, o, c, h1, h2, rfl, h3⟩ := h
  intro g hg
  by_cases hz : 0 < s.size
  · rw [if_pos hz] at hg
    obtain rfl := List.mem_singleton.1 hg
    exact World.block_lt_of_cell? _ _ (h3 0 hz).1
  · rw [if_neg hz] at hg; cases hg
theorem BF.keep {w w' : World} {v : Value} {s : ByteArray} {bl : List Nat} (h : BF w v s bl) (hk : ∀ g ∈ bl, w'.heap[g]? = w.heap[g]?) : BF w' v s bl := by
  obtain ⟨a, b, o, c, h1, h2, rfl, h3⟩ := h
  refine ⟨a, b, o, c, h1, h2, rfl, fun j hj => ?_⟩
  have hz : 0 < s.size := by omega
  have hb := hk b (by rw [if_pos hz]; exact List.mem_singleton.2 rfl)
  exact ⟨(World.cell?_of_block (w := w) (a := ⟨b, o + j, none⟩) hb).trans (h3 j hj).1, (World.frozen?_of_block (w := w) (a := ⟨b, o + j, none⟩) hb).trans (h3 j hj).2⟩
theorem BF.below {w w' : World} {v : Value} {s : ByteArray} {bl : List Nat} (h : BF w v s bl) (hb : Below w.heap.size w w') : BF w' v s bl := h.keep fun g hg => hb.block g (h.lt g hg)
theorem BF.slice {w : World} {v : Value} {s : ByteArray} {bl : List Nat} (h : BF w v s bl) : ∃ a c, v = .slice a s.size c := by
  obtain ⟨a, b, o, c, h1, _⟩ := h; exact ⟨a, c, h1⟩
/-- A slice of n holds marks from k on; its block. -/
def BM (w : World) (v : Value) (n k : Nat) (bl : List Nat) : Prop := ∃ a b o c, v = .slice a n c ∧ (0 < n → a = some ⟨b, o, none⟩) ∧ bl = (if 0 < n then [b] else []) ∧ ∀ j, j < n → w.cell? ⟨b, o + j, none⟩ = some (mkB (k + j))
theorem BM.keep {w w' : World} {v : Value} {n k : Nat} {bl : List Nat} (h : BM w v n k bl) (hk : ∀ g ∈ bl, w'.heap[g]? = w.heap[g]?) : BM w' v n k bl := by
  obtain ⟨a, b, o, c, h1, h2, rfl, h3⟩ := h
  refine ⟨a, b, o, c, h1, h2, rfl, fun j hj => ?_⟩
  have hz : 0 < n := by omega
  have hb := hk b (by rw [if_pos hz]; exact List.mem_singleton.2 rfl)
  exact (World.cell?_of_block (w := w) (a := ⟨b, o + j, none⟩) hb).trans (h3 j hj)
theorem BM.lt {w : World} {v : Value} {n k : Nat} {bl : List Nat} (h : BM w v n k bl) : ∀ g ∈ bl, g < w.heap.size := by
  obtain ⟨a, b, o, c, h1, h2, rfl, h3⟩ := h
  intro g hg
  by_cases hz : 0 < n
  · rw [if_pos hz] at hg
    obtain rfl := List.mem_singleton.1 hg
    exact World.block_lt_of_cell? _ _ (h3 0 hz)
  · rw [if_neg hz] at hg; cases hg
theorem BM.below {w w' : World} {v : Value} {n k : Nat} {bl : List Nat} (h : BM w v n k bl) (hb : Below w.heap.size w w') : BM w' v n k bl := h.keep fun g hg => hb.block g (h.lt g hg)
theorem BM.slice {w : World} {v : Value} {n k : Nat} {bl : List Nat} (h : BM w v n k bl) : ∃ a c, v = .slice a n c := by
  obtain ⟨a, b, o, c, h1, _⟩ := h; exact ⟨a, c, h1⟩

/-- A slice reads as s; its block. -/
def IF (w : World) (v : Value) (s : List Int) (bl : List Nat) : Prop := ∃ a b o c, v = .slice a s.length c ∧ (0 < s.length → a = some ⟨b, o, none⟩) ∧ bl = (if 0 < s.length then [b] else []) ∧ ∀ j, j < s.length → w.cell? ⟨b, o + j, none⟩ = some (.int .i64 (s.getD j 0)) ∧ w.frozen? ⟨b, o + j, none⟩ = false
theorem IF.rd {w : World} {v : Value} {s : List Int} {bl : List Nat} (h : IF w v s bl) : IS w v s := by
  obtain ⟨a, b, o, c, h1, h2, _, h3⟩ := h
  exact ⟨a, b, o, c, h1, h2, fun j hj => (h3 j hj).1⟩
theorem IF.lt {w : World} {v : Value} {s : List Int} {bl : List Nat} (h : IF w v s bl) : ∀ g ∈ bl, g < w.heap.size := by
  obtain ⟨a, b, o, c, h1, h2, rfl, h3⟩ := h
  intro g hg
  by_cases hz : 0 < s.length
  · rw [if_pos hz] at hg
    obtain rfl := List.mem_singleton.1 hg
    exact World.block_lt_of_cell? _ _ (h3 0 hz).1
  · rw [if_neg hz] at hg; cases hg
theorem IF.keep {w w' : World} {v : Value} {s : List Int} {bl : List Nat} (h : IF w v s bl) (hk : ∀ g ∈ bl, w'.heap[g]? = w.heap[g]?) : IF w' v s bl := by
  obtain ⟨a, b, o, c, h1, h2, rfl, h3⟩ := h
  refine ⟨a, b, o, c, h1, h2, rfl, fun j hj => ?_⟩
  have hz : 0 < s.length := by omega
  have hb := hk b (by rw [if_pos hz]; exact List.mem_singleton.2 rfl)
  exact ⟨(World.cell?_of_block (w := w) (a := ⟨b, o + j, none⟩) hb).trans (h3 j hj).1, (World.frozen?_of_block (w := w) (a := ⟨b, o + j, none⟩) hb).trans (h3 j hj).2⟩
theorem IF.below {w w' : World} {v : Value} {s : List Int} {bl : List Nat} (h : IF w v s bl) (hb : Below w.heap.size w w') : IF w' v s bl := h.keep fun g hg => hb.block g (h.lt g hg)
theorem IF.slice {w : World} {v : Value} {s : List Int} {bl : List Nat} (h : IF w v s bl) : ∃ a c, v = .slice a s.length c := by
  obtain ⟨a, b, o, c, h1, _⟩ := h; exact ⟨a, c, h1⟩
/-- A slice of n holds marks from k on; its block. -/
def IM (w : World) (v : Value) (n k : Nat) (bl : List Nat) : Prop := ∃ a b o c, v = .slice a n c ∧ (0 < n → a = some ⟨b, o, none⟩) ∧ bl = (if 0 < n then [b] else []) ∧ ∀ j, j < n → w.cell? ⟨b, o + j, none⟩ = some (mkI (k + j))
theorem IM.keep {w w' : World} {v : Value} {n k : Nat} {bl : List Nat} (h : IM w v n k bl) (hk : ∀ g ∈ bl, w'.heap[g]? = w.heap[g]?) : IM w' v n k bl := by
  obtain ⟨a, b, o, c, h1, h2, rfl, h3⟩ := h
  refine ⟨a, b, o, c, h1, h2, rfl, fun j hj => ?_⟩
  have hz : 0 < n := by omega
  have hb := hk b (by rw [if_pos hz]; exact List.mem_singleton.2 rfl)
  exact (World.cell?_of_block (w := w) (a := ⟨b, o + j, none⟩) hb).trans (h3 j hj)
theorem IM.lt {w : World} {v : Value} {n k : Nat} {bl : List Nat} (h : IM w v n k bl) : ∀ g ∈ bl, g < w.heap.size := by
  obtain ⟨a, b, o, c, h1, h2, rfl, h3⟩ := h
  intro g hg
  by_cases hz : 0 < n
  · rw [if_pos hz] at hg
    obtain rfl := List.mem_singleton.1 hg
    exact World.block_lt_of_cell? _ _ (h3 0 hz)
  · rw [if_neg hz] at hg; cases hg
theorem IM.below {w w' : World} {v : Value} {n k : Nat} {bl : List Nat} (h : IM w v n k bl) (hb : Below w.heap.size w w') : IM w' v n k bl := h.keep fun g hg => hb.block g (h.lt g hg)
theorem IM.slice {w : World} {v : Value} {n k : Nat} {bl : List Nat} (h : IM w v n k bl) : ∃ a c, v = .slice a n c := by
  obtain ⟨a, b, o, c, h1, _⟩ := h; exact ⟨a, c, h1⟩
end Go.Proofs.YtdlahabeegmjiaaDoor

namespace Go.Proofs.YtdlahabeegmjiaaDoor
open Go.RowKit

/-- Numbers in cells. -/
def ci (l : List Int) : List Value := l.map fun n => Value.int .i64 n
theorem ci_length (l : List Int) : (ci l).length = l.length := by simp [ci]
theorem ci_append (a b : List Int) : ci (a ++ b) = ci a ++ ci b := by simp [ci]
theorem ci_one (l : List Int) : ∀ u ∈ ci l, u.oneCell' = true := by
  intro u hu
  obtain ⟨n, _, rfl⟩ := List.mem_map.1 hu
  rfl
theorem Tryd.info3 : (Tryd.prog.info? 3).map (fun i => (i.zero, i.size, i.bytes)) = some (some (.int .i64 0), 1, 8) := by kernel_rfl

theorem info_partsI {P : Program} {t : TypeId} {z : Value} {a b : Nat} (h : (P.info? t).map (fun i => (i.zero, i.size, i.bytes)) = some (some z, a, b)) : ∃ i, P.info? t = some i ∧ i.zero = some z ∧ i.size = a ∧ i.bytes = b := by
  cases hi : P.info? t with
  | none => rw [hi] at h; cases h
  | some i => rw [hi] at h; simp at h; exact ⟨i, rfl, h.1, h.2.1, h.2.2⟩
/-- append of numbers onto a row of the call's own. -/
theorem wp_app_i {ops : Array Oper} {rest : List Oper} {o : Oper} {a : Act} {Q : Exit → Act → World → Prop} {w : World} (hgd : o.guard = none) (s x : Operand)
    (ho : o.op = .call { callee := .builtin .append, args := #[s, x], argTypes := #[33, 33] }) (B : Nat) (v : Value) (xs : List Int) (hs : a.eval s = v) (hown : w.ownsRow B 3 1 v xs.length (ci xs))
    (g c : Nat) (ys : List Int) (hx : a.eval x = .slice (some ⟨g, 0, none⟩) ys.length c) (hnews : ∀ j, j < ys.length → w.cell? ⟨g, j, none⟩ = some (.int .i64 (ys.getD j 0))) (hlen : xs.length + ys.length ≤ 100000000) (hbase : B ≤ w.heap.size)
    (h : ∀ v' w' l, Hid (l = xs ++ ys) → w'.ownsRow B 3 1 v' l.length (ci l) → w.grownBy w' v.ownBlock → wpList Tryd.prog ops Q rest (a.put o.dst v') w') : wpList Tryd.prog ops Q (o :: rest) a w := by
  obtain ⟨i0, hi, hz0, hz1, hz2⟩ := info_partsI Tryd.info3
  refine wpList_append_own _ hgd s x 33 ho B 3 i0 (.int .i64 0) 1 8 Tryd.underlying33 hi hz0 hz1 hz2 rfl (by decide) v xs.length (ci xs) hs hown ⟨g, 0, none⟩ ys.length c (ci ys) hx (by rw [ci_length, Nat.mul_one]) (fun j u hj => ?_) (ci_one ys) (by unfold maxLen; omega) (by omega) hbase (fun v' w' h1 h2 _ => ?_)
  · have hjl : j < ys.length := by
      rcases Nat.lt_or_ge j ys.length with h | h
      · exact h
      · rw [List.getElem?_eq_none (by rw [ci_length]; exact h)] at hj; cases hj
    have e : (⟨g, 0, none⟩ : Addr).add j = ⟨g, 0 + j, none⟩ := by unfold Addr.add; split <;> simp_all
    rw [e, Nat.zero_add, hnews j hjl, ← hj]
    simp [ci, List.getD, hjl]
  · refine h v' w' (xs ++ ys) rfl ?_ h2
    rw [List.length_append, ci_append]
    exact h1
theorem app_below_i {B : Nat} {w0 w w' : World} {v : Value} {n : Nat} {xs : List Value} (h : Below B w0 w) (hown : w.ownsRow B 3 1 v n xs) (hB : B ≤ w.heap.size) (hg : w.grownBy w' v.ownBlock) : Below B w0 w' :=
  h.grown hg hB (fun k hk => (hown.lt k hk).1)
theorem kept_i {w w' : World} {B : Nat} {v : Value} {n : Nat} {xs : List Value} (h : w.ownsRow B 3 1 v n xs) (hb : Below w.heap.size w w') : w'.ownsRow B 3 1 v n xs :=
  h.kept (row := none) ⟨hb.os, hb.tape, hb.output, hb.size, fun k hk _ => hb.block k hk⟩ (by cases v.ownBlock <;> simp)
theorem own_is {w : World} {B : Nat} {v : Value} {l : List Int} (h : w.ownsRow B 3 1 v l.length (ci l)) : IS w v l := by
  rcases h.2 with ⟨hv, h0⟩ | ⟨g, c, cur, hv, hb, hg, _⟩
  · have e : l = [] := List.length_eq_zero_iff.1 h0
    subst e
    exact ⟨none, 0, 0, 0, hv, fun h => absurd h (Nat.not_lt_zero _), fun j hj => absurd hj (Nat.not_lt_zero _)⟩
  · refine ⟨some ⟨g, 0, none⟩, g, 0, c, hv, fun _ => rfl, fun j hj => ?_⟩
    rw [hv] at h
    rw [Nat.zero_add, h.cellAt j (by omega)]
    simp [ci, List.getD, hj]
theorem is_nil (w : World) (c : Nat) : IS w (.slice none 0 c) [] := ⟨none, 0, 0, c, rfl, fun h => absurd h (by decide), fun j hj => absurd hj (Nat.not_lt_zero _)⟩
theorem if_nil (w : World) (c : Nat) : IF w (.slice none 0 c) [] [] := ⟨none, 0, 0, c, rfl, fun h => absurd h (by decide), rfl, fun j hj => absurd hj (Nat.not_lt_zero _)⟩
end Go.Proofs.YtdlahabeegmjiaaDoor



namespace Go.Proofs.YtdlahabeegmjiaaDoor
open Go.RowKit

/-- The places of c children from a on. -/
def kp (nxT : Nat → Nat) : Nat → Nat → List Int
  | 0, _ => []
  | c + 1, a => (a : Int) :: kp nxT c (nxT a)
theorem kp_length (nxT : Nat → Nat) : ∀ c a, (kp nxT c a).length = c := by
  intro c
  induction c with
  | zero => intro a; rfl
  | succ c ih => intro a; simp [kp, ih]

set_option maxHeartbeats 1000000 in
set_option maxRecDepth 1000000 in
theorem l2kids_own (v : Value) (L : List Nd) (hl : L.length ≤ 1048576) (i e f : Nat) (w : World) (hi : i < L.length) (hf : f ≤ 60) (h0 : 0 ≤ cn L i) (hs : sLoop (sE L.length (cn L) f) (cn L i).toNat (i + 1) = some e) (h : NS w v L) :
    Calls Tryd.prog 11 #[v, .int .i64 i] w fun x w' => ∃ u, x = .returned u ∧ w'.ownsRow w.heap.size 3 1 u (kp (nxT L.length (cn L)) (cn L i).toNat (i + 1)).length (ci (kp (nxT L.length (cn L)) (cn L i).toNat (i + 1))) ∧ Below w.heap.size w w' := by
  have HNS := hide h
  obtain ⟨a, b, o, c, rfl, ha, hc⟩ := h
  obtain rfl := ha (by omega)
  obtain ⟨vt, vn, vy, hN, _⟩ := hc i hi
  have HG := hide hN.count
  obtain ⟨C, hC⟩ : ∃ C, cn L i = C := ⟨_, rfl⟩
  have hge := sLoop_ge (fun i e h => (sE_br _ _ _ i e h).lt) _ _ _ hs
  have hbr := br_loop (sE_br _ _ f) _ _ _ (by omega) hs
  have hC2 : (L.getD i .zero).count = C := hC
  rw [hC2] at HG
  rw [hC] at h0 hs hge ⊢
  have HS0 := hide hs
  have hcl : C.toNat ≤ 1048576 := by omega
  clear hc ha hN hC hC2 hs hge hbr
  go_enter Tryd.func11, Tryd.ntmps11
  go_wp2
  go_loopw [5, 6, 7] (fun out x ix wr => ∃ (k p : Nat) (X : List Int), k ≤ C.toNat ∧ ix = .int .i64 k ∧ x = .int .i64 p ∧ p ≤ L.length ∧ X.length = k ∧ sLoop (sE L.length (cn L) f) (C.toNat - k) p = some e ∧ X ++ kp (nxT L.length (cn L)) (C.toNat - k) p = kp (nxT L.length (cn L)) C.toNat (i + 1) ∧ wr.ownsRow w.heap.size 3 1 out X.length (ci X) ∧ Below w.heap.size w wr) (fun _ _ ix _ => C.toNat - (intOf ix).toNat)
  case atStart => exact ⟨0, i + 1, [], Nat.zero_le _, rfl, by go_num, by omega, rfl, HS0.out, rfl, World.ownsRow_nil _ _ _ _, Below.refl _ _⟩
  case round =>
    obtain ⟨k, p, X, hk, rfl, rfl, hp, hX, hs, hcat, hown, hb⟩ := hrel
    have HO := hide hown
    have HB := hide hb
    have g := cell_kept HG.out hb
    by_cases hlt : k < C.toNat
    · have hlti : decide ((k : Int) < C) = true := decide_eq_true (by omega)
      have hsp : C.toNat - k = (C.toNat - (k + 1)) + 1 := by omega
      rw [hsp, sLoop] at hs
      cases hx : sE L.length (cn L) f p with
      | none => rw [hx] at hs; cases hs
      | some q =>
        rw [hx] at hs
        rw [hsp, kp, nx_of hf hx] at hcat
        have hbr := sE_br _ _ _ _ _ hx
        have HBR := hide hbr
        have hql := hbr.le
        have HS := hide hs
        have HCAT := hide hcat
        have hwr := hb.size
        clear hs hcat hx hbr hown hb
        go_wp2_with (at_builtin; refine wp_app_i rfl _ _ rfl w.heap.size _ X rfl (HO.out.alloc _) wr.heap.size 1 [(p : Int)] rfl ?n1 ?l1 ?b1 ?_)
        case l1 => first | omega | (simp; omega)
        case b1 => first | omega | (simp; omega)
        intro v' w3 l hl3 ho hg
        have HO3 := hide ho
        have HB3 : Hid (Below w.heap.size w w3) := app_below_i (HB.out.alloc hwr _) (HO.out.alloc _) (by simp; omega) hg
        have HL := hl3
        have HX : Hid (l.length = k + 1) := by show _ = _; rw [hl3.out]; simp [hX]
        clear ho hg hl3
        go_wp2_with fail
        refine (l2next_any _ L hl p q w3 HBR.out (HNS.out.below HB3.out)).mono ?_
        rintro x w4 ⟨rfl, rfl⟩
        go_wp2
        go_roundw
        case rel => exact ⟨k + 1, q, l, by omega, by go_num, rfl, hql, HX.out, HS.out, by rw [HL.out, List.append_assoc]; exact HCAT.out, HO3.out, HB3.out⟩
        case measure => simp [intOf]; omega
    · have hlti : decide ((k : Int) < C) = false := decide_eq_false (by omega)
      have HE : Hid (X = kp (nxT L.length (cn L)) C.toNat (i + 1)) := by show _ = _; rw [← hcat, show C.toNat - k = 0 by omega, kp, List.append_nil]
      clear hs hcat hown hb
      go_wp2
      go_ret
      exact ⟨_, rfl, by rw [← HE.out]; exact HO.out, HB.out⟩
theorem l2kids_any (v : Value) (L : List Nd) (hl : L.length ≤ 1048576) (i e f : Nat) (w : World) (hi : i < L.length) (hf : f ≤ 60) (h0 : 0 ≤ cn L i) (hs : sLoop (sE L.length (cn L) f) (cn L i).toNat (i + 1) = some e) (h : NS w v L) :
    Calls Tryd.prog 11 #[v, .int .i64 i] w fun x w' => ∃ u, x = .returned u ∧ IS w' u (kp (nxT L.length (cn L)) (cn L i).toNat (i + 1)) ∧ Below w.heap.size w w' :=
  (l2kids_own v L hl i e f w hi hf h0 hs h).mono fun _ _ ⟨u, h1, h2, h3⟩ => ⟨u, h1, own_is h2, h3⟩
end Go.Proofs.YtdlahabeegmjiaaDoor

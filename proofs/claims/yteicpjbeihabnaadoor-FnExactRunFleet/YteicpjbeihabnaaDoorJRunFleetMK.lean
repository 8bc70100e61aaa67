/-
  Cells that are written; markByteS, heldByteS, markIntS, heldIntS at any slice.
-/
import Derived.Test.YteicpjbeihabnaaDoorJRunFleetB0
namespace Go.Proofs.YteicpjbeihabnaaDoor
open Go.RowKit

/-- Only cells of block b were written. -/
structure Wrt (b : Nat) (w w' : World) : Prop where
  os : w'.os = w.os
  tape : w'.tape = w.tape
  output : w'.output = w.output
  size : w'.heap.size = w.heap.size
  blk : ∀ g, g ≠ b → w'.heap[g]? = w.heap[g]?
  has : ∀ p : Addr, (∃ v, w.cell? p = some v) → ∃ v, w'.cell? p = some v
  fz : ∀ p : Addr, w'.frozen? p = w.frozen? p
theorem Wrt.refl (b : Nat) (w : World) : Wrt b w w := ⟨rfl, rfl, rfl, rfl, fun _ _ => rfl, fun _ h => h, fun _ => rfl⟩
theorem has_setCell {w : World} {q : Addr} {u v : Value} (hq : w.cell? q = some v) (p : Addr) (h : ∃ x, w.cell? p = some x) : ∃ x, (w.setCell q u).cell? p = some x := by
  by_cases e : p = q
  · subst e; exact ⟨u, World.cell?_setCell_same _ _ _ hq⟩
  · obtain ⟨x, hx⟩ := h
    exact ⟨x, by rw [World.cell?_setCell_other _ _ _ _ (fun h => e h.symm)]; exact hx⟩
theorem Wrt.setCell {b o : Nat} {w w' : World} {v : Value} (h : Wrt b w w') (hq : w'.cell? ⟨b, o, none⟩ = some v) (u : Value) : Wrt b w (w'.setCell ⟨b, o, none⟩ u) :=
  ⟨h.os, h.tape, h.output, by rw [World.size_setCell]; exact h.size, fun g hg => by rw [Below.heap_setCell _ _ _ _ hg]; exact h.blk g hg, fun p hp => has_setCell hq p (h.has p hp), fun p => by rw [World.frozen?_setCell]; exact h.fz p⟩
theorem Wrt.below {b B : Nat} {w w' : World} (h : Wrt b w w') (hb : B ≤ b) : Below B w w' :=
  ⟨h.os, h.tape, h.output, by rw [h.size]; exact Nat.le_refl _, fun g hg => h.blk g (by omega)⟩
theorem Wrt.cell {b : Nat} {w w' : World} (h : Wrt b w w') {p : Addr} (hp : p.block ≠ b) : w'.cell? p = w.cell? p := World.cell?_of_block (w := w) (h.blk _ hp)

/-- Blocks outside bl lie as they lay. -/
structure Wrs (bl : List Nat) (w w' : World) : Prop where
  os : w'.os = w.os
  tape : w'.tape = w.tape
  output : w'.output = w.output
  size : w.heap.size ≤ w'.heap.size
  blk : ∀ g, g < w.heap.size → g ∉ bl → w'.heap[g]? = w.heap[g]?
theorem Wrs.refl (bl : List Nat) (w : World) : Wrs bl w w := ⟨rfl, rfl, rfl, Nat.le_refl _, fun _ _ _ => rfl⟩
theorem Wrs.trans {bl : List Nat} {a b c : World} (h : Wrs bl a b) (k : Wrs bl b c) : Wrs bl a c :=
  ⟨k.os.trans h.os, k.tape.trans h.tape, k.output.trans h.output, Nat.le_trans h.size k.size, fun g hg ho => (k.blk g (Nat.lt_of_lt_of_le hg h.size) ho).trans (h.blk g hg ho)⟩
theorem Wrs.mono {bl bl' : List Nat} {w w' : World} (h : Wrs bl w w') (hs : ∀ g ∈ bl, g ∈ bl') : Wrs bl' w w' :=
  ⟨h.os, h.tape, h.output, h.size, fun g hg ho => h.blk g hg (fun hm => ho (hs g hm))⟩
theorem Wrs.of_below {bl : List Nat} {w w' : World} (h : Below w.heap.size w w') : Wrs bl w w' := ⟨h.os, h.tape, h.output, h.size, fun g hg _ => h.block g hg⟩
theorem Wrs.below {bl : List Nat} {B : Nat} {w w' : World} (h : Wrs bl w w') (hB : ∀ g ∈ bl, B ≤ g) (hw : B ≤ w.heap.size) : Below B w w' :=
  ⟨h.os, h.tape, h.output, h.size, fun g hg => h.blk g (by omega) (fun hm => by have := hB g hm; omega)⟩
theorem Wrs.set {bl : List Nat} {w w' : World} {b o : Nat} (h : Wrs bl w w') (hb : b ∈ bl) (u : Value) : Wrs bl w (w'.setCell ⟨b, o, none⟩ u) :=
  ⟨h.os, h.tape, h.output, by rw [World.size_setCell]; exact h.size, fun g hg ho => by rw [Below.heap_setCell _ _ _ _ (fun e => ho (by rw [e]; exact hb))]; exact h.blk g hg ho⟩
/-- Blocks that came, each once. -/
structure Fr (w w' : World) (bl : List Nat) : Prop where
  nd : bl.Nodup
  lo : ∀ g ∈ bl, w.heap.size ≤ g
  hi : ∀ g ∈ bl, g < w'.heap.size
theorem Fr.mono {w0 w w' w1 : World} {bl : List Nat} (h : Fr w w' bl) (h0 : w0.heap.size ≤ w.heap.size) (h1 : w'.heap.size ≤ w1.heap.size) : Fr w0 w1 bl :=
  ⟨h.nd, fun g hg => by have := h.lo g hg; omega, fun g hg => by have := h.hi g hg; omega⟩
theorem Fr.append {a b b' c : World} {x y : List Nat} (h : Fr a b x) (k : Fr b' c y) (hb : b.heap.size ≤ b'.heap.size) (hab : a.heap.size ≤ b.heap.size) (hbc : b'.heap.size ≤ c.heap.size) : Fr a c (x ++ y) :=
  ⟨List.nodup_append.2 ⟨h.nd, k.nd, fun p hp q hq e => by have h1 := h.hi p hp; have h2 := k.lo q hq; omega⟩, fun g hg => by
    rcases List.mem_append.1 hg with h1 | h1
    · exact h.lo g h1
    · have := k.lo g h1; omega, fun g hg => by
    rcases List.mem_append.1 hg with h1 | h1
    · have := h.hi g h1; omega
    · exact k.hi g h1⟩
theorem Fr.one {w w' : World} {b : Nat} (h1 : w.heap.size ≤ b) (h2 : b < w'.heap.size) (P : Prop) [Decidable P] : Fr w w' (if P then [b] else []) := by
  by_cases h : P
  · rw [if_pos h]
    exact ⟨by simp, fun g hg => by rw [List.mem_singleton.1 hg]; exact h1, fun g hg => by rw [List.mem_singleton.1 hg]; exact h2⟩
  · rw [if_neg h]
    exact ⟨List.nodup_nil, fun g hg => (by cases hg), fun g hg => (by cases hg)⟩
theorem Fr.nil (w w' : World) : Fr w w' [] := ⟨List.nodup_nil, fun g hg => (by cases hg), fun g hg => (by cases hg)⟩

/-- The mark of a number. -/
def mkB (k : Nat) : Value := .int .u8 ((k % 256 : Nat) : Int)
def mkI (k : Nat) : Value := .int .i64 (k : Int)
theorem set_hit {w : World} {b o m : Nat} {u v : Value} (h : w.cell? ⟨b, o + m, none⟩ = some v) (j : Nat) : (w.setCell ⟨b, o + m, none⟩ u).cell? ⟨b, j, none⟩ = if j = o + m then some u else w.cell? ⟨b, j, none⟩ := by
  by_cases e : j = o + m
  · subst e; rw [if_pos rfl]; exact World.cell?_setCell_same _ _ _ h
  · rw [if_neg e]; exact World.cell?_setCell_other _ _ _ _ (fun h => e (by have := congrArg Addr.off h; exact this.symm))

/-- A slice reads as s; its block. -/
def BF (w : World) (v : Value) (s : ByteArray) (bl : List Nat) : Prop := ∃ a b o c, v = .slice a s.size c ∧ (0 < s.size → a = some ⟨b, o, none⟩) ∧ bl = (if 0 < s.size then [b] else []) ∧ ∀ j, j < s.size → w.cell? ⟨b, o + j, none⟩ = some (bts s j) ∧ w.frozen? ⟨b, o + j, none⟩ = false
theorem BF.rd {w : World} {v : Value} {s : ByteArray} {bl : List Nat} (h : BF w v s bl) : BS w v s := by
  obtain ⟨a, b, o, c, h1, h2, _, h3⟩ := h
  exact ⟨a, b, o, c, h1, h2, fun j hj => (h3 j hj).1⟩
theorem BF.lt {w : World} {v : Value} {s : ByteArray} {bl : List Nat} (h : BF w v s bl) : ∀ g ∈ bl, g < w.heap.size := by
  obtain ⟨a, b, o, c, h1, h2, rfl, h3⟩ := h
  intro g hg
  by_cases hz : 0 < s.size
  · rw [if_pos hz] at hg
    obtain rfl := List.mem_singleton.1 hg
    exact World.block_lt_of_cell? _ _ (h3 0 hz).1
  · rw [if_neg hz] at hg; cases hg
theorem BF.keep {w w' : World} {v : Value} {s : ByteArray} {bl : List Nat} (h : BF w v s bl) (hk : ∀ g ∈ bl, w'.heap[g]? = w.heap[g]?) : BF w' v s bl := by
  obtain ⟨a, b, o, c, h1, h2, rfl, h3⟩ := h
  refine ⟨a, b, o, c, h1, h2, rfl, fun j hj => ?_⟩
  have hz : 0 < s.size := by omega
  have hb := hk b (by rw [if_pos hz]; exact List.mem_singleton.2 rfl)
  exact ⟨(World.cell?_of_block (w := w) (a := ⟨b, o + j, none⟩) hb).trans (h3 j hj).1, (World.frozen?_of_block (w := w) (a := ⟨b, o + j, none⟩) hb).trans (h3 j hj).2⟩
theorem BF.below {w w' : World} {v : Value} {s : ByteArray} {bl : List Nat} (h : BF w v s bl) (hb : Below w.heap.size w w') : BF w' v s bl := h.keep fun g hg => hb.block g (h.lt g hg)
theorem BF.slice {w : World} {v : Value} {s : ByteArray} {bl : List Nat} (h : BF w v s bl) : ∃ a c, v = .slice a s.size c := by
  obtain ⟨a, b, o, c, h1, _⟩ := h; exact ⟨a, c, h1⟩
/-- A slice of n holds marks from k on; its block. -/
def BM (w : World) (v : Value) (n k : Nat) (bl : List Nat) : Prop := ∃ a b o c, v = .slice a n c ∧ (0 < n → a = some ⟨b, o, none⟩) ∧ bl = (if 0 < n then [b] else []) ∧ ∀ j, j < n → w.cell? ⟨b, o + j, none⟩ = some (mkB (k + j))
theorem BM.keep {w w' : World} {v : Value} {n k : Nat} {bl : List Nat} (h : BM w v n k bl) (hk : ∀ g ∈ bl, w'.heap[g]? = w.heap[g]?) : BM w' v n k bl := by
  obtain ⟨a, b, o, c, h1, h2, rfl, h3⟩ := h
  refine ⟨a, b, o, c, h1, h2, rfl, fun j hj => ?_⟩
  have hz : 0 < n := by omega
  have hb := hk b (by rw [if_pos hz]; exact List.mem_singleton.2 rfl)
  exact (World.cell?_of_block (w := w) (a := ⟨b, o + j, none⟩) hb).trans (h3 j hj)
theorem BM.lt {w : World} {v : Value} {n k : Nat} {bl : List Nat} (h : BM w v n k bl) : ∀ g ∈ bl, g < w.heap.size := by
  obtain ⟨a, b, o, c, h1, h2, rfl, h3⟩ := h
  intro g hg
  by_cases hz : 0 < n
  · rw [if_pos hz] at hg
    obtain rfl := List.mem_singleton.1 hg
    exact World.block_lt_of_cell? _ _ (h3 0 hz)
  · rw [if_neg hz] at hg; cases hg
theorem BM.below {w w' : World} {v : Value} {n k : Nat} {bl : List Nat} (h : BM w v n k bl) (hb : Below w.heap.size w w') : BM w' v n k bl := h.keep fun g hg => hb.block g (h.lt g hg)
theorem BM.slice {w : World} {v : Value} {n k : Nat} {bl : List Nat} (h : BM w v n k bl) : ∃ a c, v = .slice a n c := by
  obtain ⟨a, b, o, c, h1, _⟩ := h; exact ⟨a, c, h1⟩

/-- A slice reads as s; its block. -/
def IF (w : World) (v : Value) (s : List Int) (bl : List Nat) : Prop := ∃ a b o c, v = .slice a s.length c ∧ (0 < s.length → a = some ⟨b, o, none⟩) ∧ bl = (if 0 < s.length then [b] else []) ∧ ∀ j, j < s.length → w.cell? ⟨b, o + j, none⟩ = some (.int .i64 (s.getD j 0)) ∧ w.frozen? ⟨b, o + j, none⟩ = false
theorem IF.rd {w : World} {v : Value} {s : List Int} {bl : List Nat} (h : IF w v s bl) : IS w v s := by
  obtain ⟨a, b, o, c, h1, h2, _, h3⟩ := h
  exact ⟨a, b, o, c, h1, h2, fun j hj => (h3 j hj).1⟩
theorem IF.lt {w : World} {v : Value} {s : List Int} {bl : List Nat} (h : IF w v s bl) : ∀ g ∈ bl, g < w.heap.size := by
  obtain ⟨a, b, o, c, h1, h2, rfl, h3⟩ := h
  intro g hg
  by_cases hz : 0 < s.length
  · rw [if_pos hz] at hg
    obtain rfl := List.mem_singleton.1 hg
    exact World.block_lt_of_cell? _ _ (h3 0 hz).1
  · rw [if_neg hz] at hg; cases hg
theorem IF.keep {w w' : World} {v : Value} {s : List Int} {bl : List Nat} (h : IF w v s bl) (hk : ∀ g ∈ bl, w'.heap[g]? = w.heap[g]?) : IF w' v s bl := by
  obtain ⟨a, b, o, c, h1, h2, rfl, h3⟩ := h
  refine ⟨a, b, o, c, h1, h2, rfl, fun j hj => ?_⟩
  have hz : 0 < s.length := by omega
  have hb := hk b (by rw [if_pos hz]; exact List.mem_singleton.2 rfl)
  exact ⟨(World.cell?_of_block (w := w) (a := ⟨b, o + j, none⟩) hb).trans (h3 j hj).1, (World.frozen?_of_block (w := w) (a := ⟨b, o + j, none⟩) hb).trans (h3 j hj).2⟩
theorem IF.below {w w' : World} {v : Value} {s : List Int} {bl : List Nat} (h : IF w v s bl) (hb : Below w.heap.size w w') : IF w' v s bl := h.keep fun g hg => hb.block g (h.lt g hg)
theorem IF.slice {w : World} {v : Value} {s : List Int} {bl : List Nat} (h : IF w v s bl) : ∃ a c, v = .slice a s.length c := by
  obtain ⟨a, b, o, c, h1, _⟩ := h; exact ⟨a, c, h1⟩
/-- A slice of n holds marks from k on; its block. -/
def IM (w : World) (v : Value) (n k : Nat) (bl : List Nat) : Prop := ∃ a b o c, v = .slice a n c ∧ (0 < n → a = some ⟨b, o, none⟩) ∧ bl = (if 0 < n then [b] else []) ∧ ∀ j, j < n → w.cell? ⟨b, o + j, none⟩ = some (mkI (k + j))
theorem IM.keep {w w' : World} {v : Value} {n k : Nat} {bl : List Nat} (h : IM w v n k bl) (hk : ∀ g ∈ bl, w'.heap[g]? = w.heap[g]?) : IM w' v n k bl := by
  obtain ⟨a, b, o, c, h1, h2, rfl, h3⟩ := h
  refine ⟨a, b, o, c, h1, h2, rfl, fun j hj => ?_⟩
  have hz : 0 < n := by omega
  have hb := hk b (by rw [if_pos hz]; exact List.mem_singleton.2 rfl)
  exact (World.cell?_of_block (w := w) (a := ⟨b, o + j, none⟩) hb).trans (h3 j hj)
theorem IM.lt {w : World} {v : Value} {n k : Nat} {bl : List Nat} (h : IM w v n k bl) : ∀ g ∈ bl, g < w.heap.size := by
  obtain ⟨a, b, o, c, h1, h2, rfl, h3⟩ := h
  intro g hg
  by_cases hz : 0 < n
  · rw [if_pos hz] at hg
    obtain rfl := List.mem_singleton.1 hg
    exact World.block_lt_of_cell? _ _ (h3 0 hz)
  · rw [if_neg hz] at hg; cases hg
theorem IM.below {w w' : World} {v : Value} {n k : Nat} {bl : List Nat} (h : IM w v n k bl) (hb : Below w.heap.size w w') : IM w' v n k bl := h.keep fun g hg => hb.block g (h.lt g hg)
theorem IM.slice {w : World} {v : Value} {n k : Nat} {bl : List Nat} (h : IM w v n k bl) : ∃ a c, v = .slice a n c := by
  obtain ⟨a, b, o, c, h1, _⟩ := h; exact ⟨a, c, h1⟩
end Go.Proofs.YteicpjbeihabnaaDoor

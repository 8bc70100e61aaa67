/-
  Cells that are written; markByteS, heldByteS, markIntS, heldIntS at any slice.
  Blocks of lists; runs of cells that are written.
  A Target with its blocks; marked.
  Lists of Target with their blocks; marked.
  A Layout with its blocks; marked.
-/
import Derived.Test.YtiiljckgoiaaoaaDoorJT
import Derived.Test.YtiiljckgoiaaoaaDoorJTg0
namespace Go.Proofs.YtiiljckgoiaaoaaDoor
open Go.RowKit

/-- Only cells of block b were written. -/
structure Wrt (b : Nat) (w w' : World) : Prop where
  os : w'.os = w.os
  tape : w'.tape = w.tape
  output : w'.output = w.output
  size : w'.heap.size = w.heap.size
  blk : ∀ g, g ≠ b → w'.heap[g]? = w.heap[g]?
  has : ∀ p : Addr, (∃ v, w.cell? p = some v) → ∃ v, w'.cell? p = some v
  fz : ∀ p : Addr, w'.frozen? p = w.frozen? p
theorem Wrt.refl (b : Nat) (w : World) : Wrt b w w := ⟨rfl, rfl, rfl, rfl, fun _ _ => rfl, fun _ h => h, fun _ => rfl⟩
theorem has_setCell {w : World} {q : Addr} {u v : Value} (hq : w.cell? q = some v) (p : Addr) (h : ∃ x, w.cell? p = some x) : ∃ x, (w.setCell q u).cell? p = some x := by
  by_cases e : p = q
  · subst e; exact ⟨u, World.cell?_setCell_same _ _ _ hq⟩
  · obtain ⟨x, hx⟩ := h
    exact ⟨x, by rw [World.cell?_setCell_other _ _ _ _ (fun h => e h.symm)]; exact hx⟩
theorem Wrt.setCell {b o : Nat} {w w' : World} {v : Value} (h : Wrt b w w') (hq : w'.cell? ⟨b, o, none⟩ = some v) (u : Value) : Wrt b w (w'.setCell ⟨b, o, none⟩ u) :=
  ⟨h.os, h.tape, h.output, by rw [World.size_setCell]; exact h.size, fun g hg => by rw [Below.heap_setCell _ _ _ _ hg]; exact h.blk g hg, fun p hp => has_setCell hq p (h.has p hp), fun p => by rw [World.frozen?_setCell]; exact h.fz p⟩
theorem Wrt.below {b B : Nat} {w w' : World} (h : Wrt b w w') (hb : B ≤ b) : Below B w w' :=
  ⟨h.os, h.tape, h.output, by rw [h.size]; exact Nat.le_refl _, fun g hg => h.blk g (by omega)⟩
theorem Wrt.cell {b : Nat} {w w' : World} (h : Wrt b w w') {p : Addr} (hp : p.block ≠ b) : w'.cell? p = w.cell? p := World.cell?_of_block (w := w) (h.blk _ hp)

/-- Blocks outside bl lie as they lay. -/
structure Wrs (bl : List Nat) (w w' : World) : Prop where
  os : w'.os = w.os
  tape : w'.tape = w.tape
  output : w'.output = w.output
  size : w.heap.size ≤ w'.heap.size
  blk : ∀ g, g < w.heap.size → g ∉ bl → w'.heap[g]? = w.heap[g]?
theorem Wrs.refl (bl : List Nat) (w : World) : Wrs bl w w := ⟨rfl, rfl, rfl, Nat.le_refl _, fun _ _ _ => rfl⟩
theorem Wrs.trans {bl : List Nat} {a b c : World} (h : Wrs bl a b) (k : Wrs bl b c) : Wrs bl a c :=
  ⟨k.os.trans h.os, k.tape.trans h.tape, k.output.trans h.output, Nat.le_trans h.size k.size, fun g hg ho => (k.blk g (Nat.lt_of_lt_of_le hg h.size) ho).trans (h.blk g hg ho)⟩
theorem Wrs.mono {bl bl' : List Nat} {w w' : World} (h : Wrs bl w w') (hs : ∀ g ∈ bl, g ∈ bl') : Wrs bl' w w' :=
  ⟨h.os, h.tape, h.output, h.size, fun g hg ho => h.blk g hg (fun hm => ho (hs g hm))⟩
theorem Wrs.of_below {bl : List Nat} {w w' : World} (h : Below w.heap.size w w') : Wrs bl w w' := ⟨h.os, h.tape, h.output, h.size, fun g hg _ => h.block g hg⟩
theorem Wrs.below {bl : List Nat} {B : Nat} {w w' : World} (h : Wrs bl w w') (hB : ∀ g ∈ bl, B ≤ g) (hw : B ≤ w.heap.size) : Below B w w' :=
  ⟨h.os, h.tape, h.output, h.size, fun g hg => h.blk g (by omega) (fun hm => by have := hB g hm; omega)⟩
theorem Wrs.set {bl : List Nat} {w w' : World} {b o : Nat} (h : Wrs bl w w') (hb : b ∈ bl) (u : Value) : Wrs bl w (w'.setCell ⟨b, o, none⟩ u) :=
  ⟨h.os, h.tape, h.output, by rw [World.size_setCell]; exact h.size, fun g hg ho => by rw [Below.heap_setCell _ _ _ _ (fun e => ho (by rw [e]; exact hb))]; exact h.blk g hg ho⟩
/-- Blocks that came, each once. -/
structure Fr (w w' : World) (bl : List Nat) : Prop where
  nd : bl.Nodup
  lo : ∀ g ∈ bl, w.heap.size ≤ g
  hi : ∀ g ∈ bl, g < w'.heap.size
theorem Fr.mono {w0 w w' w1 : World} {bl : List Nat} (h : Fr w w' bl) (h0 : w0.heap.size ≤ w.heap.size) (h1 : w'.heap.size ≤ w1.heap.size) : Fr w0 w1 bl :=
  ⟨h.nd, fun g hg => by have := h.lo g hg; omega, fun g hg => by have := h.hi g hg; omega⟩
theorem Fr.append {a b b' c : World} {x y : List Nat} (h : Fr a b x) (k : Fr b' c y) (hb : b.heap.size ≤ b'.heap.size) (hab : a.heap.size ≤ b.heap.size) (hbc : b'.heap.size ≤ c.heap.size) : Fr a c (x ++ y) :=
  ⟨List.nodup_append.2 ⟨h.nd, k.nd, fun p hp q hq e => by have h1 := h.hi p hp; have h2 := k.lo q hq; omega⟩, fun g hg => by
    rcases List.mem_append.1 hg with h1 | h1
    · exact h.lo g h1
    · have := k.lo g h1; omega, fun g hg => by
    rcases List.mem_append.1 hg with h1 | h1
    · have := h.hi g h1; omega
    · exact k.hi g h1⟩
theorem Fr.one {w w' : World} {b : Nat} (h1 : w.heap.size ≤ b) (h2 : b < w'.heap.size) (P : Prop) [Decidable P] : Fr w w' (if P then [b] else []) := by
  by_cases h : P
  · rw [if_pos h]
    exact ⟨by simp, fun g hg => by rw [List.mem_singleton.1 hg]; exact h1, fun g hg => by rw [List.mem_singleton.1 hg]; exact h2⟩
  · rw [if_neg h]
    exact ⟨List.nodup_nil, fun g hg => (by cases hg), fun g hg => (by cases hg)⟩
theorem Fr.nil (w w' : World) : Fr w w' [] := ⟨List.nodup_nil, fun g hg => (by cases hg), fun g hg => (by cases hg)⟩

/-- The mark of a number. -/
def mkB (k : Nat) : Value := .int .u8 ((k % 256 : Nat) : Int)
def mkI (k : Nat) : Value := .int .i64 (k : Int)
theorem set_hit {w : World} {b o m : Nat} {u v : Value} (h : w.cell? ⟨b, o + m, none⟩ = some v) (j : Nat) : (w.setCell ⟨b, o + m, none⟩ u).cell? ⟨b, j, none⟩ = if j = o + m then some u else w.cell? ⟨b, j, none⟩ := by
  by_cases e : j = o + m
  · subst e; rw [if_pos rfl]; exact World.cell?_setCell_same _ _ _ h
  · rw [if_neg e]; exact World.cell?_setCell_other _ _ _ _ (fun h => e (by have := congrArg Addr.off h; exact this.symm))

/-- A slice reads as s; its block. -/
def BF (w : World) (v : Value) (s : ByteArray) (bl : List Nat) : Prop := ∃ a b o c, v = .slice a s.size c ∧ (0 < s.size → a = some ⟨b, o, none⟩) ∧ bl = (if 0 < s.size then [b] else []) ∧ ∀ j, j < s.size → w.cell? ⟨b, o + j, none⟩ = some (bts s j) ∧ w.frozen? ⟨b, o + j, none⟩ = false
theorem BF.rd {w : World} {v : Value} {s : ByteArray} {bl : List Nat} (h : BF w v s bl) : BS w v s := by
  obtain ⟨a, b, o, c, h1, h2, _, h3⟩ := h
  exact ⟨a, b, o, c, h1, h2, fun j hj => (h3 j hj).1⟩
theorem BF.lt {w : World} {v : Value} {s : ByteArray} {bl : List Nat} (h : BF w v s bl) : ∀ g ∈ bl, g < w.heap.size := by
  obtain ⟨a, b, o, c, h1, h2, rfl, h3⟩ := h
  intro g hg
  by_cases hz : 0 < s.size
  · rw [if_pos hz] at hg
    obtain rfl := List.mem_singleton.1 hg
    exact World.block_lt_of_cell? _ _ (h3 0 hz).1
  · rw [if_neg hz] at hg; cases hg
theorem BF.keep {w w' : World} {v : Value} {s : ByteArray} {bl : List Nat} (h : BF w v s bl) (hk : ∀ g ∈ bl, w'.heap[g]? = w.heap[g]?) : BF w' v s bl := by
  obtain ⟨a, b, o, c, h1, h2, rfl, h3⟩ := h
  refine ⟨a, b, o, c, h1, h2, rfl, fun j hj => ?_⟩
  have hz : 0 < s.size := by omega
  have hb := hk b (by rw [if_pos hz]; exact List.mem_singleton.2 rfl)
  exact ⟨(World.cell?_of_block (w := w) (a := ⟨b, o + j, none⟩) hb).trans (h3 j hj).1, (World.frozen?_of_block (w := w) (a := ⟨b, o + j, none⟩) hb).trans (h3 j hj).2⟩
theorem BF.below {w w' : World} {v : Value} {s : ByteArray} {bl : List Nat} (h : BF w v s bl) (hb : Below w.heap.size w w') : BF w' v s bl := h.keep fun g hg => hb.block g (h.lt g hg)
theorem BF.slice {w : World} {v : Value} {s : ByteArray} {bl : List Nat} (h : BF w v s bl) : ∃ a c, v = .slice a s.size c := by
  obtain ⟨a, b, o, c, h1, _⟩ := h; exact ⟨a, c, h1⟩
/-- A slice of n holds marks from k on; its block. -/
def BM (w : World) (v : Value) (n k : Nat) (bl : List Nat) : Prop := ∃ a b o c, v = .slice a n c ∧ (0 < n → a = some ⟨b, o, none⟩) ∧ bl = (if 0 < n then [b] else []) ∧ ∀ j, j < n → w.cell? ⟨b, o + j, none⟩ = some (mkB (k + j))
theorem BM.keep {w w' : World} {v : Value} {n k : Nat} {bl : List Nat} (h : BM w v n k bl) (hk : ∀ g ∈ bl, w'.heap[g]? = w.heap[g]?) : BM w' v n k bl := by
  obtain ⟨a, b, o, c, h1, h2, rfl, h3⟩ := h
  refine ⟨a, b, o, c, h1, h2, rfl, fun j hj => ?_⟩
  have hz : 0 < n := by omega
  have hb := hk b (by rw [if_pos hz]; exact List.mem_singleton.2 rfl)
  exact (World.cell?_of_block (w := w) (a := ⟨b, o + j, none⟩) hb).trans (h3 j hj)
theorem BM.lt {w : World} {v : Value} {n k : Nat} {bl : List Nat} (h : BM w v n k bl) : ∀ g ∈ bl, g < w.heap.size := by
  obtain ⟨a, b, o, c, h1, h2, rfl, h3⟩ := h
  intro g hg
  by_cases hz : 0 < n
  · rw [if_pos hz] at hg
    obtain rfl := List.mem_singleton.1 hg
    exact World.block_lt_of_cell? _ _ (h3 0 hz)
  · rw [if_neg hz] at hg; cases hg
theorem BM.below {w w' : World} {v : Value} {n k : Nat} {bl : List Nat} (h : BM w v n k bl) (hb : Below w.heap.size w w') : BM w' v n k bl := h.keep fun g hg => hb.block g (h.lt g hg)
theorem BM.slice {w : World} {v : Value} {n k : Nat} {bl : List Nat} (h : BM w v n k bl) : ∃ a c, v = .slice a n c := by
  obtain ⟨a, b, o, c, h1, _⟩ := h; exact ⟨a, c, h1⟩

/-- A slice reads as s; its block. -/
def IF (w : World) (v : Value) (s : List Int) (bl : List Nat) : Prop := ∃ a b o c, v = .slice a s.length c ∧ (0 < s.length → a = some ⟨b, o, none⟩) ∧ bl = (if 0 < s.length then [b] else []) ∧ ∀ j, j < s.length → w.cell? ⟨b, o + j, none⟩ = some (.int .i64 (s.getD j 0)) ∧ w.frozen? ⟨b, o + j, none⟩ = false
theorem IF.rd {w : World} {v : Value} {s : List Int} {bl : List Nat} (h : IF w v s bl) : IS w v s := by
  obtain ⟨a, b, o, c, h1, h2, _, h3⟩ := h
  exact ⟨a, b, o, c, h1, h2, fun j hj => (h3 j hj).1⟩
theorem IF.lt {w : World} {v : Value} {s : List Int} {bl : List Nat} (h : IF w v s bl) : ∀ g ∈ bl, g < w.heap.size := by
  obtain ⟨a, b, o, c, h1, h2, rfl, h3⟩ := h
  intro g hg
  by_cases hz : 0 < s.length
  · rw [if_pos hz] at hg
    obtain rfl := List.mem_singleton.1 hg
    exact World.block_lt_of_cell? _ _ (h3 0 hz).1
  · rw [if_neg hz] at hg; cases hg
theorem IF.keep {w w' : World} {v : Value} {s : List Int} {bl : List Nat} (h : IF w v s bl) (hk : ∀ g ∈ bl, w'.heap[g]? = w.heap[g]?) : IF w' v s bl := by
  obtain ⟨a, b, o, c, h1, h2, rfl, h3⟩ := h
  refine ⟨a, b, o, c, h1, h2, rfl, fun j hj => ?_⟩
  have hz : 0 < s.length := by omega
  have hb := hk b (by rw [if_pos hz]; exact List.mem_singleton.2 rfl)
  exact ⟨(World.cell?_of_block (w := w) (a := ⟨b, o + j, none⟩) hb).trans (h3 j hj).1, (World.frozen?_of_block (w := w) (a := ⟨b, o + j, none⟩) hb).trans (h3 j hj).2⟩
theorem IF.below {w w' : World} {v : Value} {s : List Int} {bl : List Nat} (h : IF w v s bl) (hb : Below w.heap.size w w') : IF w' v s bl := h.keep fun g hg => hb.block g (h.lt g hg)
theorem IF.slice {w : World} {v : Value} {s : List Int} {bl : List Nat} (h : IF w v s bl) : ∃ a c, v = .slice a s.length c := by
  obtain ⟨a, b, o, c, h1, _⟩ := h; exact ⟨a, c, h1⟩
/-- A slice of n holds marks from k on; its block. -/
def IM (w : World) (v : Value) (n k : Nat) (bl : List Nat) : Prop := ∃ a b o c, v = .slice a n c ∧ (0 < n → a = some ⟨b, o, none⟩) ∧ bl = (if 0 < n then [b] else []) ∧ ∀ j, j < n → w.cell? ⟨b, o + j, none⟩ = some (mkI (k + j))
theorem IM.keep {w w' : World} {v : Value} {n k : Nat} {bl : List Nat} (h : IM w v n k bl) (hk : ∀ g ∈ bl, w'.heap[g]? = w.heap[g]?) : IM w' v n k bl := by
  obtain ⟨a, b, o, c, h1, h2, rfl, h3⟩ := h
  refine ⟨a, b, o, c, h1, h2, rfl, fun j hj => ?_⟩
  have hz : 0 < n := by omega
  have hb := hk b (by rw [if_pos hz]; exact List.mem_singleton.2 rfl)
  exact (World.cell?_of_block (w := w) (a := ⟨b, o + j, none⟩) hb).trans (h3 j hj)
theorem IM.lt {w : World} {v : Value} {n k : Nat} {bl : List Nat} (h : IM w v n k bl) : ∀ g ∈ bl, g < w.heap.size := by
  obtain ⟨a, b, o, c, h1, h2, rfl, h3⟩ := h
  intro g hg
  by_cases hz : 0 < n
  · rw [if_pos hz] at hg
    obtain rfl := List.mem_singleton.1 hg
    exact World.block_lt_of_cell? _ _ (h3 0 hz)
  · rw [if_neg hz] at hg; cases hg
theorem IM.below {w w' : World} {v : Value} {n k : Nat} {bl : List Nat} (h : IM w v n k bl) (hb : Below w.heap.size w w') : IM w' v n k bl := h.keep fun g hg => hb.block g (h.lt g hg)
theorem IM.slice {w : World} {v : Value} {n k : Nat} {bl : List Nat} (h : IM w v n k bl) : ∃ a c, v = .slice a n c := by
  obtain ⟨a, b, o, c, h1, _⟩ := h; exact ⟨a, c, h1⟩
end Go.Proofs.YtiiljckgoiaaoaaDoor

namespace Go.Proofs.YtiiljckgoiaaoaaDoor
open Go.RowKit

theorem flat_split {n : Nat} {NB : Nat → List Nat} (h : ((List.range n).map NB).flatten.Nodup) : (∀ i, i < n → (NB i).Nodup) ∧ ∀ i j, i < n → j < n → i ≠ j → ∀ g, g ∈ NB i → g ∉ NB j := by
  induction n with
  | zero => exact ⟨fun i hi => absurd hi (Nat.not_lt_zero _), fun i j hi => absurd hi (Nat.not_lt_zero _)⟩
  | succ n ih =>
    rw [List.range_succ, List.map_append, List.flatten_append, List.nodup_append] at h
    obtain ⟨h1, h2, h3⟩ := h
    obtain ⟨i1, i2⟩ := ih h1
    have hs : ([n].map NB).flatten = NB n := by simp
    rw [hs] at h2 h3
    have hm : ∀ i, i < n → ∀ g, g ∈ NB i → g ∈ ((List.range n).map NB).flatten := fun i hi g hg => List.mem_flatten.2 ⟨NB i, List.mem_map.2 ⟨i, List.mem_range.2 hi, rfl⟩, hg⟩
    refine ⟨fun i hi => ?_, fun i j hi hj hne g hg hg' => ?_⟩
    · by_cases e : i = n
      · rw [e]; exact h2
      · exact i1 i (by omega)
    · by_cases e : i = n
      · subst e
        exact h3 g (hm j (by omega) g hg') g hg rfl
      · by_cases e' : j = n
        · subst e'
          exact h3 g (hm i (by omega) g hg) g hg' rfl
        · exact i2 i j (by omega) (by omega) hne g hg hg'
theorem mem_flat {n : Nat} {NB : Nat → List Nat} {i g : Nat} (hi : i < n) (hg : g ∈ NB i) : g ∈ ((List.range n).map NB).flatten := List.mem_flatten.2 ⟨NB i, List.mem_map.2 ⟨i, List.mem_range.2 hi, rfl⟩, hg⟩
theorem of_mem_flat {n : Nat} {NB : Nat → List Nat} {g : Nat} (h : g ∈ ((List.range n).map NB).flatten) : ∃ i, i < n ∧ g ∈ NB i := by
  obtain ⟨l, h1, h2⟩ := List.mem_flatten.1 h
  obtain ⟨i, h3, rfl⟩ := List.mem_map.1 h1
  exact ⟨i, List.mem_range.1 h3, h2⟩
/-- Cells of a block are written, one behind another. -/
def setRun (w : World) (b : Nat) : Nat → List Value → World
  | _, [] => w
  | p, u :: us => setRun (w.setCell ⟨b, p, none⟩ u) b (p + 1) us
theorem setRun_size (b : Nat) : ∀ (us : List Value) (w : World) (p : Nat), (setRun w b p us).heap.size = w.heap.size
  | [], _, _ => rfl
  | _ :: us, _, _ => (setRun_size b us _ _).trans (World.size_setCell _ _ _)
theorem setRun_blk {b g : Nat} (hg : g ≠ b) : ∀ (us : List Value) (w : World) (p : Nat), (setRun w b p us).heap[g]? = w.heap[g]?
  | [], _, _ => rfl
  | _ :: us, _, _ => (setRun_blk hg us _ _).trans (Below.heap_setCell _ _ _ _ hg)
theorem setRun_fz (b : Nat) (q : Addr) : ∀ (us : List Value) (w : World) (p : Nat), (setRun w b p us).frozen? q = w.frozen? q
  | [], _, _ => rfl
  | _ :: us, _, _ => (setRun_fz b q us _ _).trans (World.frozen?_setCell ..)
theorem setRun_os (b : Nat) : ∀ (us : List Value) (w : World) (p : Nat), (setRun w b p us).os = w.os ∧ (setRun w b p us).tape = w.tape ∧ (setRun w b p us).output = w.output
  | [], _, _ => ⟨rfl, rfl, rfl⟩
  | u :: us, w, p => setRun_os b us (w.setCell ⟨b, p, none⟩ u) (p + 1)
theorem setRun_cell {b : Nat} : ∀ (us : List Value) (w : World) (p : Nat), (∀ j, j < us.length → ∃ v, w.cell? ⟨b, p + j, none⟩ = some v) → ∀ j, (setRun w b p us).cell? ⟨b, j, none⟩ = if p ≤ j ∧ j < p + us.length then us[j - p]? else w.cell? ⟨b, j, none⟩
  | [], w, p, _, j => by rw [if_neg (by simp)]; rfl
  | u :: us, w, p, h, j => by
    obtain ⟨v0, h0⟩ := h 0 (by simp)
    rw [Nat.add_zero] at h0
    have hs : ∀ i, (w.setCell ⟨b, p, none⟩ u).cell? ⟨b, i, none⟩ = if i = p then some u else w.cell? ⟨b, i, none⟩ := fun i => by
      by_cases e : i = p
      · subst e; rw [if_pos rfl]; exact World.cell?_setCell_same _ _ _ h0
      · rw [if_neg e]; exact World.cell?_setCell_other _ _ _ _ (fun h => e (by have := congrArg Addr.off h; exact this.symm))
    show (setRun (w.setCell ⟨b, p, none⟩ u) b (p + 1) us).cell? ⟨b, j, none⟩ = _
    rw [setRun_cell us _ (p + 1) (fun i hi => by
      obtain ⟨v, hv⟩ := h (i + 1) (by simp; omega)
      refine ⟨v, ?_⟩
      rw [hs, if_neg (by omega), ← hv]
      congr 2
      omega) j, hs j]
    by_cases e : j = p
    · subst e
      rw [if_neg (by omega), if_pos rfl, if_pos (by simp), Nat.sub_self]
      rfl
    · by_cases c : p + 1 ≤ j ∧ j < p + 1 + us.length
      · rw [if_pos c, if_pos (by simp; omega)]
        obtain ⟨q, rfl⟩ : ∃ q, j = p + 1 + q := ⟨j - (p + 1), by omega⟩
        rw [show p + 1 + q - (p + 1) = q by omega, show p + 1 + q - p = q + 1 by omega]
        rfl
      · rw [if_neg c, if_neg e, if_neg (by simp; omega)]
theorem setRun_at {b : Nat} {us : List Value} {w : World} {p i : Nat} {u : Value} (h : ∀ j, j < us.length → ∃ v, w.cell? ⟨b, p + j, none⟩ = some v) (hi : i < us.length) (hu : us[i]? = some u) : (setRun w b p us).cell? ⟨b, p + i, none⟩ = some u := by
  rw [setRun_cell us w p h, if_pos (by omega), show p + i - p = i by omega, hu]
theorem setRun_off {b : Nat} {us : List Value} {w : World} {p j : Nat} (h : ∀ j, j < us.length → ∃ v, w.cell? ⟨b, p + j, none⟩ = some v) (hj : j < p ∨ p + us.length ≤ j) : (setRun w b p us).cell? ⟨b, j, none⟩ = w.cell? ⟨b, j, none⟩ := by
  rw [setRun_cell us w p h, if_neg (by omega)]
theorem setRun_wrs {b p : Nat} {us : List Value} {w w' : World} {bl : List Nat} (h : Wrs bl w w') (hb : b ∈ bl) : Wrs bl w (setRun w' b p us) :=
  ⟨(setRun_os b us w' p).1.trans h.os, (setRun_os b us w' p).2.1.trans h.tape, (setRun_os b us w' p).2.2.trans h.output, by rw [setRun_size]; exact h.size, fun g hg ho => (setRun_blk (fun e => ho (by rw [e]; exact hb)) us w' p).trans (h.blk g hg ho)⟩
end Go.Proofs.YtiiljckgoiaaoaaDoor

namespace Go.Proofs.YtiiljckgoiaaoaaDoor
open Go.RowKit

/-- It reads as d; its blocks. -/
def TgF (w : World) (d : Tg) (v0 : Value) (bl : List Nat) : Prop := BF w v0 d.name bl
theorem TgF.rd {w : World} {d : Tg} {v0 : Value} {bl : List Nat} (h : TgF w d v0 bl) : TgV w d v0 := ⟨BF.rd h⟩
theorem TgF.keep {w w' : World} {d : Tg} {v0 : Value} {bl : List Nat} (h : TgF w d v0 bl) (hk : ∀ g ∈ bl, w'.heap[g]? = w.heap[g]?) : TgF w' d v0 bl := BF.keep h hk
theorem TgF.below {w w' : World} {d : Tg} {v0 : Value} {bl : List Nat} (h : TgF w d v0 bl) (hk : Below w.heap.size w w') : TgF w' d v0 bl := BF.below h hk
theorem TgF.lt {w : World} {d : Tg} {v0 : Value} {bl : List Nat} (h : TgF w d v0 bl) : ∀ g ∈ bl, g < w.heap.size := BF.lt h
end Go.Proofs.YtiiljckgoiaaoaaDoor

namespace Go.Proofs.YtiiljckgoiaaoaaDoor
open Go.RowKit

/-- A slice of them reads as L; its blocks. -/
def TgSF (w : World) (v : Value) (L : List Tg) (bl : List Nat) : Prop := ∃ a b o c, ∃ (V : Nat → Value) (NB : Nat → List Nat), v = .slice a L.length c ∧ (0 < L.length → a = some ⟨b, o, none⟩) ∧ bl = (if 0 < L.length then [b] else []) ++ ((List.range L.length).map NB).flatten ∧ (∀ j, j < L.length * 3 → w.frozen? ⟨b, o + j, none⟩ = false) ∧ ∀ j, j < L.length → TgC w b (o + j * 3) (L.getD j .zero) (V j) ∧ TgF w (L.getD j .zero) (V j) (NB j)
/-- How many marks one takes, and those before the i-th. -/
def TgN (d : Tg) : Nat := 2 + d.name.size
def TgSn (L : List Tg) : Nat → Nat
  | 0 => 0
  | i + 1 => TgSn L i + TgN (L.getD i .zero)
theorem TgSn_le {L : List Tg} (h : TgSB L) : ∀ i, i ≤ L.length → TgSn L i ≤ i * 1048600
  | 0, _ => Nat.zero_le _
  | i + 1, hi => by
    have h1 := TgSn_le h i (by omega)
    have h2 := (h.each i (by omega)).name
    simp only [TgSn, TgN]
    omega
/-- A slice of them is marked from k on; its blocks. -/
def TgSM (w : World) (v : Value) (L : List Tg) (k : Nat) (bl : List Nat) : Prop := ∃ a b o c, ∃ (V : Nat → Value) (NB : Nat → List Nat), v = .slice a L.length c ∧ (0 < L.length → a = some ⟨b, o, none⟩) ∧ bl = (if 0 < L.length then [b] else []) ++ ((List.range L.length).map NB).flatten ∧ ∀ j, j < L.length → (w.cell? ⟨b, o + j * 3 + 1, none⟩ = some (mkI (k + TgSn L j + (0 + (L.getD j .zero).name.size))) ∧ w.cell? ⟨b, o + j * 3 + 2, none⟩ = some (mkI (k + TgSn L j + (1 + (L.getD j .zero).name.size)))) ∧ w.cell? ⟨b, o + j * 3, none⟩ = some (V j) ∧ BM w (V j) ((L.getD j .zero).name.size) (k + TgSn L j + 0) (NB j)
theorem TgSF.rd {w : World} {v : Value} {L : List Tg} {bl : List Nat} (h : TgSF w v L bl) : TgS w v L := by
  obtain ⟨a, b, o, c, V, NB, h1, h2, _, _, h3⟩ := h
  exact ⟨a, b, o, c, h1, h2, fun j hj => ⟨V j, (h3 j hj).1, (h3 j hj).2.rd⟩⟩
theorem TgSF.slice {w : World} {v : Value} {L : List Tg} {bl : List Nat} (h : TgSF w v L bl) : ∃ a c, v = .slice a L.length c := by
  obtain ⟨a, _, _, c, _, _, h1, _⟩ := h; exact ⟨a, c, h1⟩
theorem TgSF.lt {w : World} {v : Value} {L : List Tg} {bl : List Nat} (h : TgSF w v L bl) : ∀ g ∈ bl, g < w.heap.size := by
  obtain ⟨a, b, o, c, V, NB, h1, h2, rfl, _, h3⟩ := h
  intro g hg
  rcases List.mem_append.1 hg with hg | hg
  · by_cases hz : 0 < L.length
    · rw [if_pos hz] at hg
      obtain rfl := List.mem_singleton.1 hg
      exact World.block_lt_of_cell? _ _ (h3 0 hz).1.name
    · rw [if_neg hz] at hg; cases hg
  · obtain ⟨i, hi, hg⟩ := of_mem_flat hg
    exact (h3 i hi).2.lt g hg
theorem TgSF.keep {w w' : World} {v : Value} {L : List Tg} {bl : List Nat} (h : TgSF w v L bl) (hk : ∀ g ∈ bl, w'.heap[g]? = w.heap[g]?) : TgSF w' v L bl := by
  obtain ⟨a, b, o, c, V, NB, h1, h2, rfl, hf, h3⟩ := h
  have hb : 0 < L.length → w'.heap[b]? = w.heap[b]? := fun hz => hk b (List.mem_append_left _ (by rw [if_pos hz]; exact List.mem_singleton.2 rfl))
  refine ⟨a, b, o, c, V, NB, h1, h2, rfl, fun j hj => ?_, fun j hj => ⟨?_, (h3 j hj).2.keep (fun g hg => hk g (List.mem_append_right _ (mem_flat hj hg)))⟩⟩
  · exact (World.frozen?_of_block (w := w) (a := ⟨b, o + j, none⟩) (hb (by omega))).trans (hf j hj)
  · have hb' := hb (by omega)
    have hc : ∀ j, w'.cell? ⟨b, j, none⟩ = w.cell? ⟨b, j, none⟩ := fun j => World.cell?_of_block (w := w) (a := ⟨b, j, none⟩) hb'
    obtain ⟨q0, q1, q2⟩ := (h3 j hj).1
    exact ⟨(hc _).trans q0, (hc _).trans q1, (hc _).trans q2⟩
theorem TgSF.below {w w' : World} {v : Value} {L : List Tg} {bl : List Nat} (h : TgSF w v L bl) (hb : Below w.heap.size w w') : TgSF w' v L bl := h.keep fun g hg => hb.block g (h.lt g hg)
theorem TgSM.slice {w : World} {v : Value} {L : List Tg} {k : Nat} {bl : List Nat} (h : TgSM w v L k bl) : ∃ a c, v = .slice a L.length c := by
  obtain ⟨a, _, _, c, _, _, h1, _⟩ := h; exact ⟨a, c, h1⟩
theorem TgSM.lt {w : World} {v : Value} {L : List Tg} {k : Nat} {bl : List Nat} (h : TgSM w v L k bl) : ∀ g ∈ bl, g < w.heap.size := by
  obtain ⟨a, b, o, c, V, NB, h1, h2, rfl, h3⟩ := h
  intro g hg
  rcases List.mem_append.1 hg with hg | hg
  · by_cases hz : 0 < L.length
    · rw [if_pos hz] at hg
      obtain rfl := List.mem_singleton.1 hg
      exact World.block_lt_of_cell? _ _ (h3 0 hz).2.1
    · rw [if_neg hz] at hg; cases hg
  · obtain ⟨i, hi, hg⟩ := of_mem_flat hg
    exact (h3 i hi).2.2.lt g hg
theorem TgSM.keep {w w' : World} {v : Value} {L : List Tg} {k : Nat} {bl : List Nat} (h : TgSM w v L k bl) (hk : ∀ g ∈ bl, w'.heap[g]? = w.heap[g]?) : TgSM w' v L k bl := by
  obtain ⟨a, b, o, c, V, NB, h1, h2, rfl, h3⟩ := h
  have hb : 0 < L.length → w'.heap[b]? = w.heap[b]? := fun hz => hk b (List.mem_append_left _ (by rw [if_pos hz]; exact List.mem_singleton.2 rfl))
  refine ⟨a, b, o, c, V, NB, h1, h2, rfl, fun j hj => ?_⟩
  have hb' := hb (by omega)
  have hc : ∀ j, w'.cell? ⟨b, j, none⟩ = w.cell? ⟨b, j, none⟩ := fun j => World.cell?_of_block (w := w) (a := ⟨b, j, none⟩) hb'
  obtain ⟨⟨q1, q2⟩, q, hm⟩ := h3 j hj
  exact ⟨⟨(hc _).trans q1, (hc _).trans q2⟩, (hc _).trans q, hm.keep (fun g hg => hk g (List.mem_append_right _ (mem_flat hj hg)))⟩
theorem TgSM.below {w w' : World} {v : Value} {L : List Tg} {k : Nat} {bl : List Nat} (h : TgSM w v L k bl) (hb : Below w.heap.size w w') : TgSM w' v L k bl := h.keep fun g hg => hb.block g (h.lt g hg)
end Go.Proofs.YtiiljckgoiaaoaaDoor

namespace Go.Proofs.YtiiljckgoiaaoaaDoor
open Go.RowKit

/-- It reads as d; its blocks. -/
def LyF (w : World) (d : Ly) (v2 v3 v4 : Value) (bl : List Nat) : Prop := ∃ bl2 bl3 bl4, bl = bl2 ++ (bl3 ++ (bl4)) ∧ IF w v2 d.cost bl2 ∧ IF w v3 d.exits bl3 ∧ TgSF w v4 d.targets bl4
theorem LyF.rd {w : World} {d : Ly} {v2 v3 v4 : Value} {bl : List Nat} (h : LyF w d v2 v3 v4 bl) : LyV w d v2 v3 v4 := by
  obtain ⟨bl2, bl3, bl4, _, h2, h3, h4⟩ := h
  exact ⟨h2.rd, h3.rd, h4.rd⟩
theorem LyF.keep {w w' : World} {d : Ly} {v2 v3 v4 : Value} {bl : List Nat} (h : LyF w d v2 v3 v4 bl) (hk : ∀ g ∈ bl, w'.heap[g]? = w.heap[g]?) : LyF w' d v2 v3 v4 bl := by
  obtain ⟨bl2, bl3, bl4, rfl, h2, h3, h4⟩ := h
  exact ⟨_, _, _, rfl, h2.keep (fun g hg => hk g (List.mem_append_left _ hg)), h3.keep (fun g hg => hk g (List.mem_append_right _ (List.mem_append_left _ hg))), h4.keep (fun g hg => hk g (List.mem_append_right _ (List.mem_append_right _ (hg))))⟩
theorem LyF.lt {w : World} {d : Ly} {v2 v3 v4 : Value} {bl : List Nat} (h : LyF w d v2 v3 v4 bl) : ∀ g ∈ bl, g < w.heap.size := by
  obtain ⟨bl2, bl3, bl4, rfl, h2, h3, h4⟩ := h
  intro g hg
  simp only [List.mem_append] at hg
  rcases hg with hg | hg | hg
  · exact h2.lt g hg
  · exact h3.lt g hg
  · exact h4.lt g hg
theorem LyF.below {w w' : World} {d : Ly} {v2 v3 v4 : Value} {bl : List Nat} (h : LyF w d v2 v3 v4 bl) (hb : Below w.heap.size w w') : LyF w' d v2 v3 v4 bl := h.keep fun g hg => hb.block g (h.lt g hg)
/-- It is marked from k on; its blocks. -/
def LyM (w : World) (d : Ly) (v2 v3 v4 : Value) (k : Nat) (bl : List Nat) : Prop := ∃ bl2 bl3 bl4, bl = bl2 ++ (bl3 ++ (bl4)) ∧ IM w v2 (d.cost.length) (k) bl2 ∧ IM w v3 (d.exits.length) (k + d.cost.length) bl3 ∧ TgSM w v4 d.targets (k + d.cost.length + d.exits.length) bl4
theorem LyM.keep {w w' : World} {d : Ly} {v2 v3 v4 : Value} {k : Nat} {bl : List Nat} (h : LyM w d v2 v3 v4 k bl) (hk : ∀ g ∈ bl, w'.heap[g]? = w.heap[g]?) : LyM w' d v2 v3 v4 k bl := by
  obtain ⟨bl2, bl3, bl4, rfl, h2, h3, h4⟩ := h
  exact ⟨_, _, _, rfl, h2.keep (fun g hg => hk g (List.mem_append_left _ hg)), h3.keep (fun g hg => hk g (List.mem_append_right _ (List.mem_append_left _ hg))), h4.keep (fun g hg => hk g (List.mem_append_right _ (List.mem_append_right _ (hg))))⟩
theorem LyM.lt {w : World} {d : Ly} {v2 v3 v4 : Value} {k : Nat} {bl : List Nat} (h : LyM w d v2 v3 v4 k bl) : ∀ g ∈ bl, g < w.heap.size := by
  obtain ⟨bl2, bl3, bl4, rfl, h2, h3, h4⟩ := h
  intro g hg
  simp only [List.mem_append] at hg
  rcases hg with hg | hg | hg
  · exact h2.lt g hg
  · exact h3.lt g hg
  · exact h4.lt g hg
theorem LyM.below {w w' : World} {d : Ly} {v2 v3 v4 : Value} {k : Nat} {bl : List Nat} (h : LyM w d v2 v3 v4 k bl) (hb : Below w.heap.size w w') : LyM w' d v2 v3 v4 k bl := h.keep fun g hg => hb.block g (h.lt g hg)
/-- How many marks it takes. -/
def LyNv (d : Ly) : Nat := d.cost.length + d.exits.length + (TgSn d.targets d.targets.length)
end Go.Proofs.YtiiljckgoiaaoaaDoor

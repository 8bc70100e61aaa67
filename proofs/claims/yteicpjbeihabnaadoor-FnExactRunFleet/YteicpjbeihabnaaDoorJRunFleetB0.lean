/-
  What all walks open with.
  What slices read as, and copies of them; blocks.
-/
import Derived.Test.YteicpjbeihabnaaDoorRows
import Derived.Test.YteicpjbeihabnaaDoorJRunFleetT
import Derived.WalkKit
import Derived.WalkSpells
import Derived.WalkLawsBesides
import Derived.Deep.OwnRows
import Derived.Deep.LoopGhost
import Derived.Outline
import Derived.OpenShut
namespace Go.Proofs.YteicpjbeihabnaaDoor
open Go.RowKit

theorem ret_bool {a b : Bool} (h : a = b) : Ending.returned (.bool a) = .returned (.bool b) := by rw [h]
theorem ret_int {k : IntKind} {a b : Int} (h : a = b) : Ending.returned (.int k a) = .returned (.int k b) := by rw [h]
theorem ret_ints {k l : IntKind} {a b c d : Int} (h : a = b) (g : c = d) : Ending.returned (.tuple #[.int k a, .int l c]) = .returned (.tuple #[.int k b, .int l d]) := by rw [h, g]

theorem hide {p : Prop} (h : p) : Hid p := h

theorem Tryd.info5 : (Tryd.prog.info? 5).map (fun i => (i.zero, i.size, i.bytes)) = some (some (.int .u8 0), 1, 1) := by kernel_rfl
end Go.Proofs.YteicpjbeihabnaaDoor

namespace Go.Proofs.YteicpjbeihabnaaDoor
open Go.RowKit

/-- A slice of bytes reads as s. -/
def BS (w : World) (v : Value) (s : ByteArray) : Prop := ∃ a b o c, v = .slice a s.size c ∧ (0 < s.size → a = some ⟨b, o, none⟩) ∧ ∀ j, j < s.size → w.cell? ⟨b, o + j, none⟩ = some (bts s j)
/-- A slice of numbers reads as l. -/
def IS (w : World) (v : Value) (l : List Int) : Prop := ∃ a b o c, v = .slice a l.length c ∧ (0 < l.length → a = some ⟨b, o, none⟩) ∧ ∀ j, j < l.length → w.cell? ⟨b, o + j, none⟩ = some (.int .i64 (l.getD j 0))
/-- A number in its range. -/
def W64 (n : Int) : Prop := (Lit.int .i64 n).wf = true
theorem W64.le {n : Int} (h : W64 n) : -9223372036854775808 ≤ n ∧ n ≤ 9223372036854775807 := bounds_i64 h
/-- A list's length, and its numbers, are in their range. -/
structure IL (l : List Int) : Prop where
  len : (l.length : Int) ≤ 9223372036854775807
  wf : ∀ j, j < l.length → W64 (l.getD j 0)
/-- A slice of slices of bytes reads as L. -/
def SS (w : World) (v : Value) (L : List ByteArray) : Prop := ∃ a b o c, v = .slice a L.length c ∧ (0 < L.length → a = some ⟨b, o, none⟩) ∧ ∀ j, j < L.length → ∃ u, w.cell? ⟨b, o + j, none⟩ = some u ∧ BS w u (L.getD j .empty)
theorem cell_kept {w w' : World} {p : Addr} {u : Value} (h : w.cell? p = some u) (hb : Below w.heap.size w w') : w'.cell? p = some u := by
  rw [hb.cell (World.block_lt_of_cell? _ _ h)]; exact h
theorem BS.below {w w' : World} {v : Value} {s : ByteArray} (h : BS w v s) (hb : Below w.heap.size w w') : BS w' v s := by
  obtain ⟨a, b, o, c, h1, h2, h3⟩ := h
  exact ⟨a, b, o, c, h1, h2, fun j hj => cell_kept (h3 j hj) hb⟩
theorem IS.below {w w' : World} {v : Value} {l : List Int} (h : IS w v l) (hb : Below w.heap.size w w') : IS w' v l := by
  obtain ⟨a, b, o, c, h1, h2, h3⟩ := h
  exact ⟨a, b, o, c, h1, h2, fun j hj => cell_kept (h3 j hj) hb⟩
theorem SS.below {w w' : World} {v : Value} {L : List ByteArray} (h : SS w v L) (hb : Below w.heap.size w w') : SS w' v L := by
  obtain ⟨a, b, o, c, h1, h2, h3⟩ := h
  refine ⟨a, b, o, c, h1, h2, fun j hj => ?_⟩
  obtain ⟨u, h4, h5⟩ := h3 j hj
  exact ⟨u, cell_kept h4 hb, h5.below hb⟩
theorem setCell_cell {w : World} {G k b i : Nat} {v : Value} (h : b ≠ G) : (w.setCell ⟨G, k, none⟩ v).cell? ⟨b, i, none⟩ = w.cell? ⟨b, i, none⟩ :=
  World.cell?_of_block (w := w) (a := ⟨b, i, none⟩) (Below.heap_setCell _ _ _ b h)
theorem row_kept {w w' : World} {b n : Nat} {t : TypeId} {f : Nat → Value} (h : w.rowIs b t n f) (hb : Below w.heap.size w w') : w'.rowIs b t n f := by
  obtain ⟨c, h1, h2, h3⟩ := h
  exact ⟨c, by rw [hb.block b (Array.getElem?_eq_some_iff.1 h1).1]; exact h1, h2, h3⟩

/-- No cell of a block is shared with a string. -/
def Fz (w : World) (b : Nat) : Prop := ∀ j, w.frozen? ⟨b, j, none⟩ = false
theorem Fz.below {w w' : World} {b : Nat} (h : Fz w b) (hlt : b < w.heap.size) (hb : Below w.heap.size w w') : Fz w' b := fun j => (World.frozen?_of_block (w := w) (a := ⟨b, j, none⟩) (hb.block b hlt)).trans (h j)
theorem Fz.set {w : World} {b : Nat} {p : Addr} {u : Value} (h : Fz w b) : Fz (w.setCell p u) b := fun j => by rw [World.frozen?_setCell]; exact h j

/-- A copy of bytes in a block behind G. -/
def BO (w : World) (G : Nat) (v : Value) (s : ByteArray) : Prop := ∃ b, G < b ∧ b < w.heap.size ∧ v = .slice (some ⟨b, 0, none⟩) s.size s.size ∧ Fz w b ∧ ∀ j, j < s.size → w.cell? ⟨b, 0 + j, none⟩ = some (bts s j)
theorem BO.bs {w : World} {G : Nat} {v : Value} {s : ByteArray} (h : BO w G v s) : BS w v s := by
  obtain ⟨b, _, _, h1, _, h2⟩ := h
  exact ⟨_, b, 0, _, h1, fun _ => rfl, h2⟩
theorem BO.below {w w' : World} {G : Nat} {v : Value} {s : ByteArray} (h : BO w G v s) (hb : Below w.heap.size w w') : BO w' G v s := by
  obtain ⟨b, h0, h4, h1, hf, h2⟩ := h
  exact ⟨b, h0, by have := hb.size; omega, h1, hf.below h4 hb, fun j hj => cell_kept (h2 j hj) hb⟩
theorem BO.set {w : World} {G k : Nat} {v u : Value} {s : ByteArray} (h : BO w G v s) : BO (w.setCell ⟨G, k, none⟩ u) G v s := by
  obtain ⟨b, h0, h4, h1, hf, h2⟩ := h
  exact ⟨b, h0, by simpa using h4, h1, hf.set, fun j hj => by rw [setCell_cell (by omega)]; exact h2 j hj⟩

/-- A copy of numbers in a block behind G. -/
def ICp (w : World) (G : Nat) (v : Value) (l : List Int) : Prop := ∃ b c, G < b ∧ b < w.heap.size ∧ v = .slice (some ⟨b, 0, none⟩) l.length c ∧ Fz w b ∧ ∀ j, j < l.length → w.cell? ⟨b, 0 + j, none⟩ = some (.int .i64 (l.getD j 0))
theorem ICp.is {w : World} {G : Nat} {v : Value} {l : List Int} (h : ICp w G v l) : IS w v l := by
  obtain ⟨b, c, _, _, h1, _, h2⟩ := h
  exact ⟨_, b, 0, _, h1, fun _ => rfl, h2⟩
theorem ICp.below {w w' : World} {G : Nat} {v : Value} {l : List Int} (h : ICp w G v l) (hb : Below w.heap.size w w') : ICp w' G v l := by
  obtain ⟨b, c, h0, h4, h1, hf, h2⟩ := h
  exact ⟨b, c, h0, by have := hb.size; omega, h1, hf.below h4 hb, fun j hj => cell_kept (h2 j hj) hb⟩
theorem ICp.set {w : World} {G k : Nat} {v u : Value} {l : List Int} (h : ICp w G v l) : ICp (w.setCell ⟨G, k, none⟩ u) G v l := by
  obtain ⟨b, c, h0, h4, h1, hf, h2⟩ := h
  exact ⟨b, c, h0, by simpa using h4, h1, hf.set, fun j hj => by rw [setCell_cell (by omega)]; exact h2 j hj⟩
theorem BO.lower {w : World} {G G' : Nat} {v : Value} {s : ByteArray} (h : BO w G v s) (hG : G' ≤ G) : BO w G' v s := by
  obtain ⟨b, h0, h4⟩ := h
  exact ⟨b, by omega, h4⟩
theorem BO.setAt {w : World} {G G' k : Nat} {v u : Value} {s : ByteArray} (h : BO w G v s) (hG : G' ≤ G) : BO (w.setCell ⟨G', k, none⟩ u) G v s := by
  obtain ⟨b, h0, h4, h1, hf, h2⟩ := h
  exact ⟨b, h0, by simpa using h4, h1, hf.set, fun j hj => by rw [setCell_cell (by omega)]; exact h2 j hj⟩
/-- A copy of slices of bytes in blocks behind G. -/
def SO (w : World) (G : Nat) (v : Value) (L : List ByteArray) : Prop := ∃ b c, G < b ∧ b < w.heap.size ∧ v = .slice (some ⟨b, 0, none⟩) L.length c ∧ Fz w b ∧ ∀ j, j < L.length → ∃ u, w.cell? ⟨b, 0 + j, none⟩ = some u ∧ BO w b u (L.getD j .empty)
theorem SO.ss {w : World} {G : Nat} {v : Value} {L : List ByteArray} (h : SO w G v L) : SS w v L := by
  obtain ⟨b, c, _, _, h1, _, h2⟩ := h
  refine ⟨_, b, 0, _, h1, fun _ => rfl, fun j hj => ?_⟩
  obtain ⟨u, h3, h4⟩ := h2 j hj
  exact ⟨u, h3, h4.bs⟩
theorem SO.below {w w' : World} {G : Nat} {v : Value} {L : List ByteArray} (h : SO w G v L) (hb : Below w.heap.size w w') : SO w' G v L := by
  obtain ⟨b, c, h0, h4, h1, hf, h2⟩ := h
  refine ⟨b, c, h0, by have := hb.size; omega, h1, hf.below h4 hb, fun j hj => ?_⟩
  obtain ⟨u, h5, h6⟩ := h2 j hj
  exact ⟨u, cell_kept h5 hb, h6.below hb⟩
theorem SO.set {w : World} {G k : Nat} {v x : Value} {L : List ByteArray} (h : SO w G v L) : SO (w.setCell ⟨G, k, none⟩ x) G v L := by
  obtain ⟨b, c, h0, h4, h1, hf, h2⟩ := h
  refine ⟨b, c, h0, by simpa using h4, h1, hf.set, fun j hj => ?_⟩
  obtain ⟨u, h5, h6⟩ := h2 j hj
  exact ⟨u, by rw [setCell_cell (by omega)]; exact h5, h6.setAt (by omega)⟩
theorem ICp.setAt {w : World} {G G' k : Nat} {v u : Value} {l : List Int} (h : ICp w G v l) (hG : G' ≤ G) : ICp (w.setCell ⟨G', k, none⟩ u) G v l := by
  obtain ⟨b, c, h0, h4, h1, hf, h2⟩ := h
  exact ⟨b, c, h0, by simpa using h4, h1, hf.set, fun j hj => by rw [setCell_cell (by omega)]; exact h2 j hj⟩
theorem SO.setAt {w : World} {G G' k : Nat} {v x : Value} {L : List ByteArray} (h : SO w G v L) (hG : G' ≤ G) : SO (w.setCell ⟨G', k, none⟩ x) G v L := by
  obtain ⟨b, c, h0, h4, h1, hf, h2⟩ := h
  refine ⟨b, c, h0, by simpa using h4, h1, hf.set, fun j hj => ?_⟩
  obtain ⟨u, h5, h6⟩ := h2 j hj
  exact ⟨u, by rw [setCell_cell (by omega)]; exact h5, h6.setAt (by omega)⟩
/-- A block that holds these cells. -/
def Blk (w : World) (b : Nat) (t : TypeId) (cs : Array Value) : Prop := w.heap[b]? = some (.cells cs t (0, 0))
theorem Blk.cell {w : World} {b : Nat} {t : TypeId} {cs : Array Value} (h : Blk w b t cs) (j : Nat) : w.cell? ⟨b, j, none⟩ = cs[j]? := by
  unfold Blk at h; simp [World.cell?, h]
theorem Blk.frozen {w : World} {b : Nat} {t : TypeId} {cs : Array Value} (h : Blk w b t cs) (j : Nat) : w.frozen? ⟨b, j, none⟩ = false := by
  unfold Blk at h; simp [World.frozen?, h]
theorem Blk.lt {w : World} {b : Nat} {t : TypeId} {cs : Array Value} (h : Blk w b t cs) : b < w.heap.size := (Array.getElem?_eq_some_iff.1 h).1
theorem Blk.below {w w' : World} {b : Nat} {t : TypeId} {cs : Array Value} (h : Blk w b t cs) (hb : Below w.heap.size w w') : Blk w' b t cs := (hb.block b h.lt).trans h
theorem Blk.set {w : World} {b : Nat} {t : TypeId} {cs : Array Value} (h : Blk w b t cs) (k : Nat) (v : Value) : Blk (w.setCell ⟨b, k, none⟩ v) b t (cs.setIfInBounds k v) := by
  obtain ⟨hlt, hk⟩ := Array.getElem?_eq_some_iff.1 h
  show (w.heap.modify b _)[b]? = _
  rw [Array.getElem?_eq_getElem (by rw [Array.size_modify]; exact hlt), Array.getElem_modify_self, hk]
  rfl
theorem Blk.other {w : World} {b b' : Nat} {t : TypeId} {cs : Array Value} (h : Blk w b t cs) (k : Nat) (v : Value) (hne : b ≠ b') : Blk (w.setCell ⟨b', k, none⟩ v) b t cs := (Below.heap_setCell _ _ _ b hne).trans h
theorem Blk.new (w : World) (t : TypeId) (cs : Array Value) : Blk (w.alloc (.cells cs t)) w.heap.size t cs := by
  show (w.heap.push _)[w.heap.size]? = _
  rw [Array.getElem?_push_size]
theorem Blk.alloc {w : World} {b : Nat} {t : TypeId} {cs : Array Value} (h : Blk w b t cs) (o : Obj) : Blk (w.alloc o) b t cs := h.below ((Below.refl _ _).alloc (Nat.le_refl _) _)

theorem drop_at {α : Type} (L : List α) (z : α) (k : Nat) (h : k < L.length) : L.drop k = L.getD k z :: L.drop (k + 1) := by
  rw [List.drop_eq_getElem_cons h, List.getD_eq_getElem?_getD, List.getElem?_eq_getElem h]; rfl

def szl (n : Nat) (left : Int) : Int := if left - n < 0 then -1 else left - n
theorem szl_le (n : Nat) (left : Int) (h : 0 ≤ left) : -1 ≤ szl n left ∧ szl n left ≤ left ∧ (0 ≤ szl n left → (n : Int) ≤ left) := by unfold szl; split <;> omega
theorem ICp.slice {w : World} {G : Nat} {v : Value} {l : List Int} (h : ICp w G v l) : ∃ g c, v = .slice (some ⟨g, 0, none⟩) l.length c := by
  obtain ⟨b, c, _, _, h1, _⟩ := h; exact ⟨b, c, h1⟩
theorem ICp.lower {w : World} {G G' : Nat} {v : Value} {l : List Int} (h : ICp w G v l) (hG : G' ≤ G) : ICp w G' v l := by
  obtain ⟨b, c, h0, h1⟩ := h
  exact ⟨b, c, by omega, h1⟩
theorem IS.slice {w : World} {v : Value} {l : List Int} (h : IS w v l) : ∃ a c, v = .slice a l.length c := by
  obtain ⟨a, _, _, c, h1, _⟩ := h; exact ⟨a, c, h1⟩
theorem BO.slice {w : World} {G : Nat} {v : Value} {s : ByteArray} (h : BO w G v s) : ∃ g c, v = .slice (some ⟨g, 0, none⟩) s.size c := by
  obtain ⟨b, _, _, h1, _⟩ := h; exact ⟨b, _, h1⟩
theorem BS.slice {w : World} {v : Value} {s : ByteArray} (h : BS w v s) : ∃ a c, v = .slice a s.size c := by
  obtain ⟨a, _, _, c, h1, _⟩ := h; exact ⟨a, c, h1⟩
/-- A bool that says whether P holds. -/
def Ans (P : Prop) (e : Ending) : Prop := ∃ b, e = .returned (.bool b) ∧ (b = true ↔ P)
theorem Ans.no {P : Prop} (h : ¬ P) : Ans P (.returned (.bool false)) := ⟨false, rfl, ⟨fun e => (by cases e), fun g => absurd g h⟩⟩
theorem Ans.yes {P : Prop} (h : P) : Ans P (.returned (.bool true)) := ⟨true, rfl, ⟨fun _ => h, fun _ => rfl⟩⟩
end Go.Proofs.YteicpjbeihabnaaDoor

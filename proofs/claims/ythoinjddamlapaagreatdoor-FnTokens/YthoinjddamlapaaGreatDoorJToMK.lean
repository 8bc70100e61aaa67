/-
  Cells that are written; markByteS, heldByteS, markIntS, heldIntS at any slice.
  A slice of bytes as a text: the numbers of its bytes; its conversion to a string.
  A slice of bytes as a string.
  Numbers of bytes as a text; rows of the call's own as one.
-/
import Derived.Test.YthoinjddamlapaaGreatDoorJToDR0
import Derived.Test.YthoinjddamlapaaGreatDoorJToB0
import Derived.Laws.BytesArg
import Derived.Shelf.Unicode.DecodeSlow
import Derived.Laws.BytesString
import Derived.Lib.AppendStr
namespace Go.Proofs.YthoinjddamlapaaGreatDoor
open Go.RowKit

/-- Only cells of block b were written. -/
structure Wrt (b : Nat) (w w' : World) : Prop where
  os : w'.os = w.os
  tape : w'.tape = w.tape
  output : w'.output = w.output
  size : w'.heap.size = w.heap.size
  blk : ∀ g, g ≠ b → w'.heap[g]? = w.heap[g]?
  has : ∀ p : Addr, (∃ v, w.cell? p = some v) → ∃ v, w'.cell? p = some v
  fz : ∀ p : Addr, w'.frozen? p = w.frozen? p
theorem Wrt.refl (b : Nat) (w : World) : Wrt b w w := ⟨rfl, rfl, rfl, rfl, fun _ _ => rfl, fun _ h => h, fun _ => rfl⟩
theorem has_setCell {w : World} {q : Addr} {u v : Value} (hq : w.cell? q = some v) (p : Addr) (h : ∃ x, w.cell? p = some x) : ∃ x, (w.setCell q u).cell? p = some x := by
  by_cases e : p = q
  · subst e; exact ⟨u, World.cell?_setCell_same _ _ _ hq⟩
  · obtain ⟨x, hx⟩ := h
    exact ⟨x, by rw [World.cell?_setCell_other _ _ _ _ (fun h => e h.symm)]; exact hx⟩
theorem Wrt.setCell {b o : Nat} {w w' : World} {v : Value} (h : Wrt b w w') (hq : w'.cell? ⟨b, o, none⟩ = some v) (u : Value) : Wrt b w (w'.setCell ⟨b, o, none⟩ u) :=
  ⟨h.os, h.tape, h.output, by rw [World.size_setCell]; exact h.size, fun g hg => by rw [Below.heap_setCell _ _ _ _ hg]; exact h.blk g hg, fun p hp => has_setCell hq p (h.has p hp), fun p => by rw [World.frozen?_setCell]; exact h.fz p⟩
theorem Wrt.below {b B : Nat} {w w' : World} (h : Wrt b w w') (hb : B ≤ b) : Below B w w' :=
  ⟨h.os, h.tape, h.output, by rw [h.size]; exact Nat.le_refl _, fun g hg => h.blk g (by omega)⟩
theorem Wrt.cell {b : Nat} {w w' : World} (h : Wrt b w w') {p : Addr} (hp : p.block ≠ b) : w'.cell? p = w.cell? p := World.cell?_of_block (w := w) (h.blk _ hp)

/-- Blocks outside bl lie as they lay. -/
structure Wrs (bl : List Nat) (w w' : World) : Prop where
  os : w'.os = w.os
  tape : w'.tape = w.tape
  output : w'.output = w.output
  size : w.heap.size ≤ w'.heap.size
  blk : ∀ g, g < w.heap.size → g ∉ bl → w'.heap[g]? = w.heap[g]?
theorem Wrs.refl (bl : List Nat) (w : World) : Wrs bl w w := ⟨rfl, rfl, rfl, Nat.le_refl _, fun _ _ _ => rfl⟩
theorem Wrs.trans {bl : List Nat} {a b c : World} (h : Wrs bl a b) (k : Wrs bl b c) : Wrs bl a c :=
  ⟨k.os.trans h.os, k.tape.trans h.tape, k.output.trans h.output, Nat.le_trans h.size k.size, fun g hg ho => (k.blk g (Nat.lt_of_lt_of_le hg h.size) ho).trans (h.blk g hg ho)⟩
theorem Wrs.mono {bl bl' : List Nat} {w w' : World} (h : Wrs bl w w') (hs : ∀ g ∈ bl, g ∈ bl') : Wrs bl' w w' :=
  ⟨h.os, h.tape, h.output, h.size, fun g hg ho => h.blk g hg (fun hm => ho (hs g hm))⟩
theorem Wrs.of_below {bl : List Nat} {w w' : World} (h : Below w.heap.size w w') : Wrs bl w w' := ⟨h.os, h.tape, h.output, h.size, fun g hg _ => h.block g hg⟩
theorem Wrs.below {bl : List Nat} {B : Nat} {w w' : World} (h : Wrs bl w w') (hB : ∀ g ∈ bl, B ≤ g) (hw : B ≤ w.heap.size) : Below B w w' :=
  ⟨h.os, h.tape, h.output, h.size, fun g hg => h.blk g (by omega) (fun hm => by have := hB g hm; omega)⟩
theorem Wrs.set {bl : List Nat} {w w' : World} {b o : Nat} (h : Wrs bl w w') (hb : b ∈ bl) (u : Value) : Wrs bl w (w'.setCell ⟨b, o, none⟩ u) :=
  ⟨h.os, h.tape, h.output, by rw [World.size_setCell]; exact h.size, fun g hg ho => by rw [Below.heap_setCell _ _ _ _ (fun e => ho (by rw [e]; exact hb))]; exact h.blk g hg ho⟩
/-- Blocks that came, each once. -/
structure Fr (w w' : World) (bl : List Nat) : Prop where
  nd : bl.Nodup
  lo : ∀ g ∈ bl, w.heap.size ≤ g
  hi : ∀ g ∈ bl, g < w'.heap.size
theorem Fr.mono {w0 w w' w1 : World} {bl : List Nat} (h : Fr w w' bl) (h0 : w0.heap.size ≤ w.heap.size) (h1 : w'.heap.size ≤ w1.heap.size) : Fr w0 w1 bl :=
  ⟨h.nd, fun g hg => by have := h.lo g hg; omega, fun g hg => by have := h.hi g hg; omega⟩
theorem Fr.append {a b b' c : World} {x y : List Nat} (h : Fr a b x) (k : Fr b' c y) (hb : b.heap.size ≤ b'.heap.size) (hab : a.heap.size ≤ b.heap.size) (hbc : b'.heap.size ≤ c.heap.size) : Fr a c (x ++ y) :=
  ⟨List.nodup_append.2 ⟨h.nd, k.nd, fun p hp q hq e => by have h1 := h.hi p hp; have h2 := k.lo q hq; omega⟩, fun g hg => by
    rcases List.mem_append.1 hg with h1 | h1
    · exact h.lo g h1
    · have := k.lo g h1; omega, fun g hg => by
    rcases List.mem_append.1 hg with h1 | h1
    · have := h.hi g h1; omega
    · exact k.hi g h1⟩
theorem Fr.one {w w' : World} {b : Nat} (h1 : w.heap.size ≤ b) (h2 : b < w'.heap.size) (P : Prop) [Decidable P] : Fr w w' (if P then [b] else []) := by
  by_cases h : P
  · rw [if_pos h]
    exact ⟨by simp, fun g hg => by rw [List.mem_singleton.1 hg]; exact h1, fun g hg => by rw [List.mem_singleton.1 hg]; exact h2⟩
  · rw [if_neg h]
    exact ⟨List.nodup_nil, fun g hg => (by cases hg), fun g hg => (by cases hg)⟩
theorem Fr.nil (w w' : World) : Fr w w' [] := ⟨List.nodup_nil, fun g hg => (by cases hg), fun g hg => (by cases hg)⟩

/-- The mark of a number. -/
def mkB (k : Nat) : Value := .int .u8 ((k % 256 : Nat) : Int)
def mkI (k : Nat) : Value := .int .i64 (k : Int)
theorem set_hit {w : World} {b o m : Nat} {u v : Value} (h : w.cell? ⟨b, o + m, none⟩ = some v) (j : Nat) : (w.setCell ⟨b, o + m, none⟩ u).cell? ⟨b, j, none⟩ = if j = o + m then some u else w.cell? ⟨b, j, none⟩ := by
  by_cases e : j = o + m
  · subst e; rw [if_pos rfl]; exact World.cell?_setCell_same _ _ _ h
  · rw [if_neg e]; exact World.cell?_setCell_other _ _ _ _ (fun h => e (by have := congrArg Addr.off h; exact this.symm))

/-- A slice reads as s; its block. -/
def BF (w : World) (v : Value) (s : ByteArray) (bl : List Nat) : Prop := ∃ a b o c, v = .slice a s.size c ∧ (0 < s.size → a = some ⟨b, o, none⟩) ∧ bl = (if 0 < s.size then [b] else []) ∧ ∀ j, j < s.size → w.cell? ⟨b, o + j, none⟩ = some (bts s j) ∧ w.frozen? ⟨b, o + j, none⟩ = false
theorem BF.rd {w : World} {v : Value} {s : ByteArray} {bl : List Nat} (h : BF w v s bl) : BS w v s := by
  obtain ⟨a, b, o, c, h1, h2, _, h3⟩ := h
  exact ⟨a, b, o, c, h1, h2, fun j hj => (h3 j hj).1⟩
theorem BF.lt {w : World} {v : Value} {s : ByteArray} {bl : List Nat} (h : BF w v s bl) : ∀ g ∈ bl, g < w.heap.size := by
  obtain ⟨a, b, o, c, h1, h2, rfl, h3⟩ := h
  intro g hg
  by_cases hz : 0 < s.size
  · rw [if_pos hz] at hg
    obtain rfl := List.mem_singleton.1 hg
    exact World.block_lt_of_cell? _ _ (h3 0 hz).1
  · rw [if_neg hz] at hg; cases hg
theorem BF.keep {w w' : World} {v : Value} {s : ByteArray} {bl : List Nat} (h : BF w v s bl) (hk : ∀ g ∈ bl, w'.heap[g]? = w.heap[g]?) : BF w' v s bl := by
  obtain ⟨a, b, o, c, h1, h2, rfl, h3⟩ := h
  refine ⟨a, b, o, c, h1, h2, rfl, fun j hj => ?_⟩
  have hz : 0 < s.size := by omega
  have hb := hk b (by rw [if_pos hz]; exact List.mem_singleton.2 rfl)
  exact ⟨(World.cell?_of_block (w := w) (a := ⟨b, o + j, none⟩) hb).trans (h3 j hj).1, (World.frozen?_of_block (w := w) (a := ⟨b, o + j, none⟩) hb).trans (h3 j hj).2⟩
theorem BF.below {w w' : World} {v : Value} {s : ByteArray} {bl : List Nat} (h : BF w v s bl) (hb : Below w.heap.size w w') : BF w' v s bl := h.keep fun g hg => hb.block g (h.lt g hg)
theorem BF.slice {w : World} {v : Value} {s : ByteArray} {bl : List Nat} (h : BF w v s bl) : ∃ a c, v = .slice a s.size c := by
  obtain ⟨a, b, o, c, h1, _⟩ := h; exact ⟨a, c, h1⟩
/-- A slice of n holds marks from k on; its block. -/
def BM (w : World) (v : Value) (n k : Nat) (bl : List Nat) : Prop := ∃ a b o c, v = .slice a n c ∧ (0 < n → a = some ⟨b, o, none⟩) ∧ bl = (if 0 < n then [b] else []) ∧ ∀ j, j < n → w.cell? ⟨b, o + j, none⟩ = some (mkB (k + j))
theorem BM.keep {w w' : World} {v : Value} {n k : Nat} {bl : List Nat} (h : BM w v n k bl) (hk : ∀ g ∈ bl, w'.heap[g]? = w.heap[g]?) : BM w' v n k bl := by
  obtain ⟨a, b, o, c, h1, h2, rfl, h3⟩ := h
  refine ⟨a, b, o, c, h1, h2, rfl, fun j hj => ?_⟩
  have hz : 0 < n := by omega
  have hb := hk b (by rw [if_pos hz]; exact List.mem_singleton.2 rfl)
  exact (World.cell?_of_block (w := w) (a := ⟨b, o + j, none⟩) hb).trans (h3 j hj)
theorem BM.lt {w : World} {v : Value} {n k : Nat} {bl : List Nat} (h : BM w v n k bl) : ∀ g ∈ bl, g < w.heap.size := by
  obtain ⟨a, b, o, c, h1, h2, rfl, h3⟩ := h
  intro g hg
  by_cases hz : 0 < n
  · rw [if_pos hz] at hg
    obtain rfl := List.mem_singleton.1 hg
    exact World.block_lt_of_cell? _ _ (h3 0 hz)
  · rw [if_neg hz] at hg; cases hg
theorem BM.below {w w' : World} {v : Value} {n k : Nat} {bl : List Nat} (h : BM w v n k bl) (hb : Below w.heap.size w w') : BM w' v n k bl := h.keep fun g hg => hb.block g (h.lt g hg)
theorem BM.slice {w : World} {v : Value} {n k : Nat} {bl : List Nat} (h : BM w v n k bl) : ∃ a c, v = .slice a n c := by
  obtain ⟨a, b, o, c, h1, _⟩ := h; exact ⟨a, c, h1⟩

/-- A slice reads as s; its block. -/
def IF (w : World) (v : Value) (s : List Int) (bl : List Nat) : Prop := ∃ a b o c, v = .slice a s.length c ∧ (0 < s.length → a = some ⟨b, o, none⟩) ∧ bl = (if 0 < s.length then [b] else []) ∧ ∀ j, j < s.length → w.cell? ⟨b, o + j, none⟩ = some (.int .i64 (s.getD j 0)) ∧ w.frozen? ⟨b, o + j, none⟩ = false
theorem IF.rd {w : World} {v : Value} {s : List Int} {bl : List Nat} (h : IF w v s bl) : IS w v s := by
  obtain ⟨a, b, o, c, h1, h2, _, h3⟩ := h
  exact ⟨a, b, o, c, h1, h2, fun j hj => (h3 j hj).1⟩
theorem IF.lt {w : World} {v : Value} {s : List Int} {bl : List Nat} (h : IF w v s bl) : ∀ g ∈ bl, g < w.heap.size := by
  obtain ⟨a, b, o, c, h1, h2, rfl, h3⟩ := h
  intro g hg
  by_cases hz : 0 < s.length
  · rw [if_pos hz] at hg
    obtain rfl := List.mem_singleton.1 hg
    exact World.block_lt_of_cell? _ _ (h3 0 hz).1
  · rw [if_neg hz] at hg; cases hg
theorem IF.keep {w w' : World} {v : Value} {s : List Int} {bl : List Nat} (h : IF w v s bl) (hk : ∀ g ∈ bl, w'.heap[g]? = w.heap[g]?) : IF w' v s bl := by
  obtain ⟨a, b, o, c, h1, h2, rfl, h3⟩ := h
  refine ⟨a, b, o, c, h1, h2, rfl, fun j hj => ?_⟩
  have hz : 0 < s.length := by omega
  have hb := hk b (by rw [if_pos hz]; exact List.mem_singleton.2 rfl)
  exact ⟨(World.cell?_of_block (w := w) (a := ⟨b, o + j, none⟩) hb).trans (h3 j hj).1, (World.frozen?_of_block (w := w) (a := ⟨b, o + j, none⟩) hb).trans (h3 j hj).2⟩
theorem IF.below {w w' : World} {v : Value} {s : List Int} {bl : List Nat} (h : IF w v s bl) (hb : Below w.heap.size w w') : IF w' v s bl := h.keep fun g hg => hb.block g (h.lt g hg)
theorem IF.slice {w : World} {v : Value} {s : List Int} {bl : List Nat} (h : IF w v s bl) : ∃ a c, v = .slice a s.length c := by
  obtain ⟨a, b, o, c, h1, _⟩ := h; exact ⟨a, c, h1⟩
/-- A slice of n holds marks from k on; its block. -/
def IM (w : World) (v : Value) (n k : Nat) (bl : List Nat) : Prop := ∃ a b o c, v = .slice a n c ∧ (0 < n → a = some ⟨b, o, none⟩) ∧ bl = (if 0 < n then [b] else []) ∧ ∀ j, j < n → w.cell? ⟨b, o + j, none⟩ = some (mkI (k + j))
theorem IM.keep {w w' : World} {v : Value} {n k : Nat} {bl : List Nat} (h : IM w v n k bl) (hk : ∀ g ∈ bl, w'.heap[g]? = w.heap[g]?) : IM w' v n k bl := by
  obtain ⟨a, b, o, c, h1, h2, rfl, h3⟩ := h
  refine ⟨a, b, o, c, h1, h2, rfl, fun j hj => ?_⟩
  have hz : 0 < n := by omega
  have hb := hk b (by rw [if_pos hz]; exact List.mem_singleton.2 rfl)
  exact (World.cell?_of_block (w := w) (a := ⟨b, o + j, none⟩) hb).trans (h3 j hj)
theorem IM.lt {w : World} {v : Value} {n k : Nat} {bl : List Nat} (h : IM w v n k bl) : ∀ g ∈ bl, g < w.heap.size := by
  obtain ⟨a, b, o, c, h1, h2, rfl, h3⟩ := h
  intro g hg
  by_cases hz : 0 < n
  · rw [if_pos hz] at hg
    obtain rfl := List.mem_singleton.1 hg
    exact World.block_lt_of_cell? _ _ (h3 0 hz)
  · rw [if_neg hz] at hg; cases hg
theorem IM.below {w w' : World} {v : Value} {n k : Nat} {bl : List Nat} (h : IM w v n k bl) (hb : Below w.heap.size w w') : IM w' v n k bl := h.keep fun g hg => hb.block g (h.lt g hg)
theorem IM.slice {w : World} {v : Value} {n k : Nat} {bl : List Nat} (h : IM w v n k bl) : ∃ a c, v = .slice a n c := by
  obtain ⟨a, b, o, c, h1, _⟩ := h; exact ⟨a, c, h1⟩
end Go.Proofs.YthoinjddamlapaaGreatDoor

namespace Go.Proofs.YthoinjddamlapaaGreatDoor
open Go.RowKit

theorem get!_beyond (s : ByteArray) (j : Nat) (h : s.size ≤ j) : s.get! j = 0 := by
  cases s with | mk a =>
  simp only [ByteArray.get!]
  rw [getElem!_neg a j (by have h' : a.size ≤ j := h; omega)]; rfl
theorem get!_extract (s : ByteArray) (i k : Nat) : (s.extract i s.size).get! k = s.get! (i + k) := by
  by_cases h : i + k < s.size
  · have h1 : k < (s.extract i s.size).size := by rw [ByteArray.size_extract]; omega
    rw [Utf8W.get!_of_lt _ k h1, Utf8W.get!_of_lt _ (i + k) h]
    exact ByteArray.getElem_extract h1
  · rw [get!_beyond s _ (by omega), get!_beyond _ k (by rw [ByteArray.size_extract]; omega)]

/-- The numbers of a text's bytes. -/
def nums (s : ByteArray) : List Int := s.data.toList.map fun c => (c.toNat : Int)
theorem nums_length (s : ByteArray) : (nums s).length = s.size := by unfold nums; rw [List.length_map, Array.length_toList]; rfl
theorem strOf_nums (s : ByteArray) : strOfNums (nums s) = s := by
  cases s with | mk a =>
  unfold strOfNums nums
  congr 1
  apply Array.ext'
  rw [List.map_map, List.toList_toArray]
  refine (List.map_congr_left (g := id) (fun c _ => ?_)).trans (List.map_id _)
  show UInt8.ofNat ((c.toNat : Int).toNat) = c
  rw [Int.toNat_natCast]
  exact UInt8.ofNat_toNat
theorem nums_getD (s : ByteArray) (j : Nat) (h : j < s.size) : Value.int .u8 ((nums s).getD j 0) = bts s j := by
  unfold bts
  rw [Utf8W.get!_of_lt s j h]
  cases s with | mk a =>
  have h' : j < a.size := h
  show Value.int .u8 (((a.toList.map fun c => (c.toNat : Int))[j]?).getD 0) = Value.int .u8 ((a[j]).toNat : Int)
  rw [List.getElem?_map, Array.getElem?_toList, Array.getElem?_eq_getElem h']
  rfl
theorem toStr_run (s : ByteArray) (w : World) (b off cap : Nat) (hc : ∀ j, j < s.size → w.cell? ⟨b, off + j, none⟩ = some (bts s j)) :
    (convert 22 9 (.slice (some ⟨b, off, none⟩) s.size cap)).run Tryz.prog w = .ok (.string s) w := by
  have := run_convert_bytes_arg (P := Tryz.prog) w 22 5 Tryz.underlying22 Tryz.underlying5 b off s.size cap (nums s) (nums_length s) (fun i hi => by rw [nums_getD s i hi]; exact hc i hi) 9 Tryz.underlying9
  rw [strOf_nums] at this
  exact this

end Go.Proofs.YthoinjddamlapaaGreatDoor

namespace Go.Proofs.YthoinjddamlapaaGreatDoor
open Go.RowKit

theorem toStr_bs {w : World} {v : Value} {s : ByteArray} (h : BS w v s) : (convert 22 9 v).run Tryz.prog w = .ok (.string s) w := by
  obtain ⟨a, b, o, c, rfl, ha, hc⟩ := h
  by_cases h0 : 0 < s.size
  · obtain rfl := ha h0
    exact toStr_run s w b o c hc
  · have hz : s.size = 0 := by omega
    have e : s = ByteArray.empty := ext_bytes hz (fun j hj => by omega)
    subst e
    show (convert 22 9 (.slice a 0 c)).run Tryz.prog w = _
    rw [run_convert_bytes_string w 22 9 5 a 0 c Tryz.underlying22 Tryz.underlying5 Tryz.underlying9]
    cases a <;> simp [Conv.bytesToString, loadCells]
    all_goals rfl
end Go.Proofs.YthoinjddamlapaaGreatDoor

namespace Go.Proofs.YthoinjddamlapaaGreatDoor
open Go.RowKit

/-- Numbers of bytes as a text. -/
def byt (l : List Nat) : ByteArray := ⟨(l.map fun n => UInt8.ofNat n).toArray⟩
/-- All are numbers of bytes. -/
def Lo (l : List Nat) : Prop := ∀ x ∈ l, x < 256
theorem Lo.nil : Lo [] := fun _ h => nomatch h
theorem Lo.app {a b : List Nat} (h : Lo a) (k : Lo b) : Lo (a ++ b) := fun x hx => (List.mem_append.1 hx).elim (h x) (k x)
theorem Lo.one {n : Nat} (h : n < 256) : Lo [n] := fun x hx => by rw [List.mem_singleton.1 hx]; exact h
theorem Lo.cons {n : Nat} {l : List Nat} (h : n < 256) (k : Lo l) : Lo (n :: l) := fun x hx => (List.mem_cons.1 hx).elim (fun e => e ▸ h) (k x)
theorem byt_size (l : List Nat) : (byt l).size = l.length := by show (byt l).data.size = _; unfold byt; simp
theorem byt_append (a b : List Nat) : byt (a ++ b) = byt a ++ byt b := by
  apply ByteArray.ext
  show _ = (byt a ++ byt b).data
  rw [ByteArray.data_append]
  unfold byt
  simp
theorem byt_cells {l : List Nat} (h : Lo l) : Lib.strCells (byt l) = cv l := by
  unfold Lib.strCells byt cv
  rw [List.toList_toArray, List.map_map]
  refine List.map_congr_left fun x hx => ?_
  have := h x hx
  show Value.int .u8 ((UInt8.ofNat x).toNat : Int) = _
  rw [UInt8.toNat_ofNat_of_lt' (by exact this)]
theorem byt_bts {l : List Nat} (h : Lo l) {j : Nat} (hj : j < l.length) : bts (byt l) j = .int .u8 (l.getD j 0 : Nat) := by
  unfold bts
  rw [Utf8W.get!_of_lt _ j (by rw [byt_size]; exact hj)]
  have hx : l[j] < 256 := h _ (List.getElem_mem hj)
  have e : (byt l)[j]'(by rw [byt_size]; exact hj) = UInt8.ofNat l[j] := by
    show (byt l).data[j]'_ = _
    unfold byt
    simp
  rw [e, UInt8.toNat_ofNat_of_lt' (by exact hx)]
  simp [List.getD, hj]
/-- A row of bytes of the call's own reads as a text. -/
theorem own_bs {w : World} {B : Nat} {v : Value} {l : List Nat} (h : w.ownsRow B 5 1 v l.length (cv l)) (hl : Lo l) : BS w v (byt l) := by
  by_cases h0 : 0 < l.length
  · obtain ⟨g, c, rfl, _, _, hc, _⟩ := own_slice h h0
    refine ⟨_, g, 0, c, by rw [byt_size], fun _ => rfl, fun j hj => ?_⟩
    rw [byt_size] at hj
    rw [Nat.zero_add, hc j hj, byt_bts hl hj]
  · have e : l = [] := List.length_eq_zero_iff.1 (by omega)
    subst e
    rcases h.2 with ⟨hv, _⟩ | ⟨g, c, cur, hv, _⟩
    · exact ⟨_, 0, 0, _, hv, fun h => absurd h (by decide), fun j hj => absurd hj (Nat.not_lt_zero _)⟩
    · exact ⟨_, g, 0, _, hv, fun _ => rfl, fun j hj => absurd hj (Nat.not_lt_zero _)⟩
/-- .. and lies in a new block. -/
theorem own_bf {w0 w : World} {B : Nat} {v : Value} {l : List Nat} (h : w.ownsRow B 5 1 v l.length (cv l)) (hl : Lo l) (hB : w0.heap.size ≤ B) : ∃ bl, BF w v (byt l) bl ∧ Fr w0 w bl := by
  by_cases h0 : 0 < l.length
  · obtain ⟨g, c, rfl, hg, hlt, hc, hf⟩ := own_slice h h0
    refine ⟨[g], ⟨_, g, 0, c, by rw [byt_size], fun _ => rfl, by rw [byt_size, if_pos h0], fun j hj => ?_⟩, ⟨by simp, fun x hx => ?_, fun x hx => ?_⟩⟩
    · rw [byt_size] at hj
      rw [Nat.zero_add, hc j hj, byt_bts hl hj]
      exact ⟨rfl, hf j⟩
    · rw [List.mem_singleton.1 hx]; omega
    · rw [List.mem_singleton.1 hx]; exact hlt
  · have e : l = [] := List.length_eq_zero_iff.1 (by omega)
    subst e
    refine ⟨[], ?_, ⟨List.nodup_nil, (fun x hx => nomatch hx), (fun x hx => nomatch hx)⟩⟩
    rcases h.2 with ⟨hv, _⟩ | ⟨g, c, cur, hv, _⟩
    · exact ⟨_, 0, 0, _, hv, fun h => absurd h (by decide), rfl, fun j hj => absurd hj (Nat.not_lt_zero _)⟩
    · exact ⟨_, g, 0, _, hv, fun _ => rfl, rfl, fun j hj => absurd hj (Nat.not_lt_zero _)⟩
theorem blk_app {w w' : World} {B b n : Nat} {v : Value} {xs : List Value} {t : TypeId} {cs : Array Value} (h : Blk w b t cs) (ht : t ≠ 5) (hown : w.ownsRow B 5 1 v n xs) (hg : w.grownBy w' v.ownBlock) : Blk w' b t cs := by
  refine (hg.block b h.lt fun e => ?_).trans h
  rcases hown.2 with ⟨rfl, _⟩ | ⟨g, c, cur, rfl, _, hgc, _⟩
  · cases e
  · cases e
    have h' : w.heap[g]? = some (.cells cs t (0, 0)) := h
    rw [hgc] at h'
    cases h'
    exact ht rfl
end Go.Proofs.YthoinjddamlapaaGreatDoor

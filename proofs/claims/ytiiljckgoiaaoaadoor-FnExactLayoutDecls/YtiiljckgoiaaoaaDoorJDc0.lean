/-
  A Decl in memory.
  Lists of Decl in memory.
  The walk of eqDecl, where both read as the same.
  The walk of eqDeclS, where both read as the same.
  A Decl with its blocks; marked.
  Lists of Decl with their blocks; marked.
-/
import Derived.Test.YtiiljckgoiaaoaaDoorJT
import Derived.Test.YtiiljckgoiaaoaaDoorJKI
import Derived.BigQuiet
import Derived.Deep.QuietTactic
import Derived.Deep.RegionWith
import Derived.Test.YtiiljckgoiaaoaaDoorJMK
namespace Go.Proofs.YtiiljckgoiaaoaaDoor
open Go.RowKit

/-- A Decl. -/
structure Dc where
  kind : Int
  x1 : Int
  y1 : Int
  x2 : Int
  y2 : Int
  dir : Int
  cost : Int
  name : ByteArray
  node : Int
def Dc.zero : Dc := ⟨0, 0, 0, 0, 0, 0, 0, .empty, 0⟩
/-- Its value, with the slices that it holds. -/
def dcagg (d : Dc) (v7 : Value) : Value := .agg #[.int .i64 d.kind, .int .i64 d.x1, .int .i64 d.y1, .int .i64 d.x2, .int .i64 d.y2, .int .i64 d.dir, .int .i64 d.cost, v7, .int .i64 d.node]
/-- Its slices read as its lists. -/
structure DcV (w : World) (d : Dc) (v7 : Value) : Prop where
  name : BS w v7 d.name
theorem DcV.below {w w' : World} {d : Dc} {v7 : Value} (h : DcV w d v7) (hb : Below w.heap.size w w') : DcV w' d v7 := ⟨h.name.below hb⟩
/-- Its lists are short. -/
structure DcB (d : Dc) : Prop where
  name : d.name.size ≤ 1048576
/-- Its lists have lengths that an int holds; its numbers are in their range. -/
structure DcL (d : Dc) : Prop where
  kind : W64 d.kind
  x1 : W64 d.x1
  y1 : W64 d.y1
  x2 : W64 d.x2
  y2 : W64 d.y2
  dir : W64 d.dir
  cost : W64 d.cost
  name : (d.name.size : Int) ≤ 9223372036854775807
  node : W64 d.node
/-- Its slices are copies, in blocks behind G. -/
structure DcO (w : World) (G : Nat) (d : Dc) (v7 : Value) : Prop where
  name : BO w G v7 d.name
theorem DcO.rd {w : World} {G : Nat} {d : Dc} {v7 : Value} (h : DcO w G d v7) : DcV w d v7 := ⟨h.name.bs⟩
theorem DcO.below {w w' : World} {G : Nat} {d : Dc} {v7 : Value} (h : DcO w G d v7) (hb : Below w.heap.size w w') : DcO w' G d v7 := ⟨h.name.below hb⟩
theorem DcO.lower {w : World} {G G' : Nat} {d : Dc} {v7 : Value} (h : DcO w G d v7) (hG : G' ≤ G) : DcO w G' d v7 := ⟨h.name.lower hG⟩
theorem DcO.setAt {w : World} {G G' k : Nat} {d : Dc} {v7 u : Value} (h : DcO w G d v7) (hG : G' ≤ G) : DcO (w.setCell ⟨G', k, none⟩ u) G d v7 := ⟨h.name.setAt hG⟩
end Go.Proofs.YtiiljckgoiaaoaaDoor

namespace Go.Proofs.YtiiljckgoiaaoaaDoor
open Go.RowKit

/-- The cells of one. -/
structure DcC (w : World) (b p : Nat) (d : Dc) (v7 : Value) : Prop where
  kind : w.cell? ⟨b, p, none⟩ = some (.int .i64 d.kind)
  x1 : w.cell? ⟨b, p + 1, none⟩ = some (.int .i64 d.x1)
  y1 : w.cell? ⟨b, p + 2, none⟩ = some (.int .i64 d.y1)
  x2 : w.cell? ⟨b, p + 3, none⟩ = some (.int .i64 d.x2)
  y2 : w.cell? ⟨b, p + 4, none⟩ = some (.int .i64 d.y2)
  dir : w.cell? ⟨b, p + 5, none⟩ = some (.int .i64 d.dir)
  cost : w.cell? ⟨b, p + 6, none⟩ = some (.int .i64 d.cost)
  name : w.cell? ⟨b, p + 7, none⟩ = some v7
  node : w.cell? ⟨b, p + 8, none⟩ = some (.int .i64 d.node)
theorem DcC.below {w w' : World} {b p : Nat} {d : Dc} {v7 : Value} (h : DcC w b p d v7) (hb : Below w.heap.size w w') : DcC w' b p d v7 := ⟨cell_kept h.kind hb, cell_kept h.x1 hb, cell_kept h.y1 hb, cell_kept h.x2 hb, cell_kept h.y2 hb, cell_kept h.dir hb, cell_kept h.cost hb, cell_kept h.name hb, cell_kept h.node hb⟩
theorem DcC.set {w : World} {b p g k : Nat} {d : Dc} {v7 u : Value} (h : DcC w b p d v7) (hb : b ≠ g) : DcC (w.setCell ⟨g, k, none⟩ u) b p d v7 := ⟨by rw [setCell_cell hb]; exact h.kind, by rw [setCell_cell hb]; exact h.x1, by rw [setCell_cell hb]; exact h.y1, by rw [setCell_cell hb]; exact h.x2, by rw [setCell_cell hb]; exact h.y2, by rw [setCell_cell hb]; exact h.dir, by rw [setCell_cell hb]; exact h.cost, by rw [setCell_cell hb]; exact h.name, by rw [setCell_cell hb]; exact h.node⟩
/-- A slice of them reads as L. -/
def DcS (w : World) (v : Value) (L : List Dc) : Prop := ∃ a b o c, v = .slice a L.length c ∧ (0 < L.length → a = some ⟨b, o, none⟩) ∧ ∀ j, j < L.length → ∃ v7, DcC w b (o + j * 9) (L.getD j .zero) v7 ∧ DcV w (L.getD j .zero) v7
theorem DcS.below {w w' : World} {v : Value} {L : List Dc} (h : DcS w v L) (hb : Below w.heap.size w w') : DcS w' v L := by
  obtain ⟨a, b, o, c, h1, h2, h3⟩ := h
  refine ⟨a, b, o, c, h1, h2, fun j hj => ?_⟩
  obtain ⟨v7, h4, h5⟩ := h3 j hj
  exact ⟨v7, h4.below hb, h5.below hb⟩
theorem DcS.slice {w : World} {v : Value} {L : List Dc} (h : DcS w v L) : ∃ a c, v = .slice a L.length c := by
  obtain ⟨a, _, _, c, h1, _⟩ := h; exact ⟨a, c, h1⟩
/-- A copy of a slice of them, in blocks behind G. -/
def DcSO (w : World) (G : Nat) (v : Value) (L : List Dc) : Prop := ∃ b c, G < b ∧ b < w.heap.size ∧ v = .slice (some ⟨b, 0, none⟩) L.length c ∧ Fz w b ∧ ∀ j, j < L.length → ∃ v7, DcC w b (j * 9) (L.getD j .zero) v7 ∧ DcO w b (L.getD j .zero) v7
theorem DcSO.slice {w : World} {G : Nat} {v : Value} {L : List Dc} (h : DcSO w G v L) : ∃ g c, v = .slice (some ⟨g, 0, none⟩) L.length c := by
  obtain ⟨b, c, _, _, h1, _⟩ := h; exact ⟨b, c, h1⟩
theorem DcSO.rd {w : World} {G : Nat} {v : Value} {L : List Dc} (h : DcSO w G v L) : DcS w v L := by
  obtain ⟨b, c, _, _, h1, _, h2⟩ := h
  refine ⟨_, b, 0, c, h1, fun _ => rfl, fun j hj => ?_⟩
  obtain ⟨v7, h3, h4⟩ := h2 j hj
  exact ⟨v7, by rw [Nat.zero_add]; exact h3, h4.rd⟩
theorem DcSO.below {w w' : World} {G : Nat} {v : Value} {L : List Dc} (h : DcSO w G v L) (hb : Below w.heap.size w w') : DcSO w' G v L := by
  obtain ⟨b, c, h0, h4, h1, hf, h2⟩ := h
  refine ⟨b, c, h0, by have := hb.size; omega, h1, hf.below h4 hb, fun j hj => ?_⟩
  obtain ⟨v7, h3, h5⟩ := h2 j hj
  exact ⟨v7, h3.below hb, h5.below hb⟩
theorem DcSO.lower {w : World} {G G' : Nat} {v : Value} {L : List Dc} (h : DcSO w G v L) (hG : G' ≤ G) : DcSO w G' v L := by
  obtain ⟨b, c, h0, h4, h1, hf, h2⟩ := h
  refine ⟨b, c, by omega, h4, h1, hf, fun j hj => ?_⟩
  obtain ⟨v7, h3, h5⟩ := h2 j hj
  exact ⟨v7, h3, h5⟩
theorem DcSO.setAt {w : World} {G G' k : Nat} {v u : Value} {L : List Dc} (h : DcSO w G v L) (hG : G' ≤ G) : DcSO (w.setCell ⟨G', k, none⟩ u) G v L := by
  obtain ⟨b, c, h0, h4, h1, hf, h2⟩ := h
  refine ⟨b, c, h0, by simpa using h4, h1, hf.set, fun j hj => ?_⟩
  obtain ⟨v7, h3, h5⟩ := h2 j hj
  exact ⟨v7, h3.set (by omega), h5.setAt (by omega)⟩
/-- A short list of short ones. -/
structure DcSB (L : List Dc) : Prop where
  len : L.length ≤ 1048576
  each : ∀ j, j < L.length → DcB (L.getD j .zero)
structure DcSL (L : List Dc) : Prop where
  len : (L.length : Int) ≤ 9223372036854775807
  each : ∀ j, j < L.length → DcL (L.getD j .zero)
end Go.Proofs.YtiiljckgoiaaoaaDoor

namespace Go.Proofs.YtiiljckgoiaaoaaDoor
open Go.RowKit

set_option maxHeartbeats 2000000 in
set_option maxRecDepth 1000000 in
theorem eqDc_same {w : World} {d : Dc} {p7 q7 : Value} (hb : DcB d) (h1 : DcV w d p7) (h2 : DcV w d q7) :
    Calls Tryd.prog 40 #[dcagg d p7, dcagg d q7] w fun e w' => e = .returned (.bool true) ∧ Below w.heap.size w w' := by
  obtain ⟨x0, x1, x2, x3, x4, x5, x6, x7, x8⟩ := d
  have e0 : (x0 != x0) = false := by simp
  have e1 : (x1 != x1) = false := by simp
  have e2 : (x2 != x2) = false := by simp
  have e3 : (x3 != x3) = false := by simp
  have e4 : (x4 != x4) = false := by simp
  have e5 : (x5 != x5) = false := by simp
  have e6 : (x6 != x6) = false := by simp
  have e8 : (x8 != x8) = false := by simp
  have HB := hide hb
  have H1 := hide h1
  have H2 := hide h2
  clear hb h1 h2
  unfold dcagg
  simp only
  obtain ⟨W0, hW0⟩ : ∃ W, (w.alloc (.cells #[.int .i64 x0, .int .i64 x1, .int .i64 x2, .int .i64 x3, .int .i64 x4, .int .i64 x5, .int .i64 x6, p7, .int .i64 x8] 58)).alloc (.cells #[.int .i64 x0, .int .i64 x1, .int .i64 x2, .int .i64 x3, .int .i64 x4, .int .i64 x5, .int .i64 x6, q7, .int .i64 x8] 58) = W := ⟨_, rfl⟩
  have hb0 : Below w.heap.size w W0 := by rw [← hW0]; exact ((Below.refl _ _).alloc (Nat.le_refl _) _).alloc (by simp) _
  have hA : Blk W0 w.heap.size 58 #[.int .i64 x0, .int .i64 x1, .int .i64 x2, .int .i64 x3, .int .i64 x4, .int .i64 x5, .int .i64 x6, p7, .int .i64 x8] := by rw [← hW0]; exact (Blk.new _ _ _).alloc _
  have hC : Blk W0 (w.heap.size + 1) 58 #[.int .i64 x0, .int .i64 x1, .int .i64 x2, .int .i64 x3, .int .i64 x4, .int .i64 x5, .int .i64 x6, q7, .int .i64 x8] := by
    rw [← hW0]
    have := Blk.new (w.alloc (.cells #[.int .i64 x0, .int .i64 x1, .int .i64 x2, .int .i64 x3, .int .i64 x4, .int .i64 x5, .int .i64 x6, p7, .int .i64 x8] 58)) 58 #[.int .i64 x0, .int .i64 x1, .int .i64 x2, .int .i64 x3, .int .i64 x4, .int .i64 x5, .int .i64 x6, q7, .int .i64 x8]
    simpa using this
  have HA0 := hide hA
  have HC0 := hide hC
  have HB0 := hide hb0
  have HW := hide hW0
  clear hA hC hb0 hW0
  go_enter Tryd.func40, Tryd.ntmps40
  go_wp2_with fail
  rw [HW.out]
  clear HW
  refine (eqB_self HB.out.name (H1.out.name.below HB0.out) (H2.out.name.below HB0.out)).mono ?_
  rintro e w2 ⟨rfl, hb2⟩
  have HA2 := hide (HA0.out.below hb2)
  have HC2 := hide (HC0.out.below hb2)
  have HB2 : Hid (Below w.heap.size w w2) := HB0.out.trans (hb2.mono HB0.out.size)
  have a8 := HA2.out.cell 8
  have c8 := HC2.out.cell 8
  simp only [List.getElem?_toArray, List.getElem?_cons_succ, List.getElem?_cons_zero] at a8 c8
  clear hb2 HA0 HC0 HB0
  go_wp2
  go_ret
  exact ⟨rfl, HB2.out⟩
end Go.Proofs.YtiiljckgoiaaoaaDoor

namespace Go.Proofs.YtiiljckgoiaaoaaDoor
open Go.RowKit

set_option maxHeartbeats 2000000 in
set_option maxRecDepth 1000000 in
theorem eqDcS_same {w : World} {v1 v2 : Value} {L : List Dc} (hs : DcSB L) (h1 : DcS w v1 L) (h2 : DcS w v2 L) :
    Calls Tryd.prog 16 #[v1, v2] w fun e w' => e = .returned (.bool true) ∧ Below w.heap.size w w' := by
  obtain ⟨a1, b1, o1, c1, rfl, ha1, hc1⟩ := h1
  obtain ⟨a2, b2, o2, c2, rfl, ha2, hc2⟩ := h2
  obtain ⟨hs, hz⟩ := hs
  have HC1 := hide hc1
  have HC2 := hide hc2
  have HZ := hide hz
  clear hc1 hc2 hz
  have hne : ((L.length : Int) != (L.length : Int)) = false := by simp
  have hmx : Tryd.prog.follows .mixedOrders = true := by kernel_rfl
  go_enter Tryd.func16, Tryd.ntmps16
  go_wp2
  go_loopw [5] (fun i wr => ∃ k : Nat, k ≤ L.length ∧ i = .int .i64 k ∧ Below w.heap.size w wr) (fun i _ => L.length - (intOf i).toNat)
  case atStart => exact ⟨0, Nat.zero_le _, rfl, Below.refl _ _⟩
  case round =>
    obtain ⟨k, hk, rfl, hb⟩ := hrel
    have HB := hide hb
    by_cases hlt : k < L.length
    · obtain rfl := ha1 (by omega)
      obtain rfl := ha2 (by omega)
      obtain ⟨p7, q1_, p1_⟩ := HC1.out k hlt
      obtain ⟨q7, q2_, p2_⟩ := HC2.out k hlt
      have hzk := HZ.out k hlt
      obtain ⟨d, hd⟩ : ∃ d, L.getD k .zero = d := ⟨_, rfl⟩
      rw [hd] at p1_ p2_ hzk q1_ q2_
      have HE := hide (eqDc_same (w := wr.drew) hzk (p1_.below hb.drew) (p2_.below hb.drew))
      obtain ⟨g0, g1, g2, g3, g4, g5, g6, g7, g8⟩ := q1_.below hb
      obtain ⟨f0, f1, f2, f3, f4, f5, f6, f7, f8⟩ := q2_.below hb
      unfold dcagg at HE
      obtain ⟨x0, x1, x2, x3, x4, x5, x6, x7, x8⟩ := d
      simp only at HE g0 f0 g1 f1 g2 f2 g3 f3 g4 f4 g5 f5 g6 f6 g8 f8
      have hbs := hb.size
      have hlti : (k : Int) < (L.length : Int) := by omega
      clear hb q1_ q2_ p1_ p2_ hd hzk
      go_wp2_with fail
      go_region_with (go_at_call 40; refine HE.out.mono ?_; rintro e w1 ⟨rfl, hb1⟩)
      all_goals have HB1 : Hid (Below w.heap.size w w1) := HB.out.drew.trans (hb1.mono hbs)
      all_goals clear hb1
      all_goals go_wp2
      all_goals
        go_roundw
        case rel => exact ⟨k + 1, by omega, by go_num, HB1.out⟩
        case measure => simp [intOf]; omega
    · have hge : ¬ (k : Int) < (L.length : Int) := by omega
      clear hb
      go_wp2
      go_ret
      exact ⟨rfl, HB.out⟩
end Go.Proofs.YtiiljckgoiaaoaaDoor

namespace Go.Proofs.YtiiljckgoiaaoaaDoor
open Go.RowKit

/-- It reads as d; its blocks. -/
def DcF (w : World) (d : Dc) (v7 : Value) (bl : List Nat) : Prop := BF w v7 d.name bl
theorem DcF.rd {w : World} {d : Dc} {v7 : Value} {bl : List Nat} (h : DcF w d v7 bl) : DcV w d v7 := ⟨BF.rd h⟩
theorem DcF.keep {w w' : World} {d : Dc} {v7 : Value} {bl : List Nat} (h : DcF w d v7 bl) (hk : ∀ g ∈ bl, w'.heap[g]? = w.heap[g]?) : DcF w' d v7 bl := BF.keep h hk
theorem DcF.below {w w' : World} {d : Dc} {v7 : Value} {bl : List Nat} (h : DcF w d v7 bl) (hk : Below w.heap.size w w') : DcF w' d v7 bl := BF.below h hk
theorem DcF.lt {w : World} {d : Dc} {v7 : Value} {bl : List Nat} (h : DcF w d v7 bl) : ∀ g ∈ bl, g < w.heap.size := BF.lt h
end Go.Proofs.YtiiljckgoiaaoaaDoor

namespace Go.Proofs.YtiiljckgoiaaoaaDoor
open Go.RowKit

/-- A slice of them reads as L; its blocks. -/
def DcSF (w : World) (v : Value) (L : List Dc) (bl : List Nat) : Prop := ∃ a b o c, ∃ (V : Nat → Value) (NB : Nat → List Nat), v = .slice a L.length c ∧ (0 < L.length → a = some ⟨b, o, none⟩) ∧ bl = (if 0 < L.length then [b] else []) ++ ((List.range L.length).map NB).flatten ∧ (∀ j, j < L.length * 9 → w.frozen? ⟨b, o + j, none⟩ = false) ∧ ∀ j, j < L.length → DcC w b (o + j * 9) (L.getD j .zero) (V j) ∧ DcF w (L.getD j .zero) (V j) (NB j)
/-- How many marks one takes, and those before the i-th. -/
def DcN (d : Dc) : Nat := 8 + d.name.size
def DcSn (L : List Dc) : Nat → Nat
  | 0 => 0
  | i + 1 => DcSn L i + DcN (L.getD i .zero)
theorem DcSn_le {L : List Dc} (h : DcSB L) : ∀ i, i ≤ L.length → DcSn L i ≤ i * 1048600
  | 0, _ => Nat.zero_le _
  | i + 1, hi => by
    have h1 := DcSn_le h i (by omega)
    have h2 := (h.each i (by omega)).name
    simp only [DcSn, DcN]
    omega
/-- A slice of them is marked from k on; its blocks. -/
def DcSM (w : World) (v : Value) (L : List Dc) (k : Nat) (bl : List Nat) : Prop := ∃ a b o c, ∃ (V : Nat → Value) (NB : Nat → List Nat), v = .slice a L.length c ∧ (0 < L.length → a = some ⟨b, o, none⟩) ∧ bl = (if 0 < L.length then [b] else []) ++ ((List.range L.length).map NB).flatten ∧ ∀ j, j < L.length → (w.cell? ⟨b, o + j * 9, none⟩ = some (mkI (k + DcSn L j + (0))) ∧ w.cell? ⟨b, o + j * 9 + 1, none⟩ = some (mkI (k + DcSn L j + (1))) ∧ w.cell? ⟨b, o + j * 9 + 2, none⟩ = some (mkI (k + DcSn L j + (2))) ∧ w.cell? ⟨b, o + j * 9 + 3, none⟩ = some (mkI (k + DcSn L j + (3))) ∧ w.cell? ⟨b, o + j * 9 + 4, none⟩ = some (mkI (k + DcSn L j + (4))) ∧ w.cell? ⟨b, o + j * 9 + 5, none⟩ = some (mkI (k + DcSn L j + (5))) ∧ w.cell? ⟨b, o + j * 9 + 6, none⟩ = some (mkI (k + DcSn L j + (6))) ∧ w.cell? ⟨b, o + j * 9 + 8, none⟩ = some (mkI (k + DcSn L j + (7 + (L.getD j .zero).name.size)))) ∧ w.cell? ⟨b, o + j * 9 + 7, none⟩ = some (V j) ∧ BM w (V j) ((L.getD j .zero).name.size) (k + DcSn L j + 7) (NB j)
theorem DcSF.rd {w : World} {v : Value} {L : List Dc} {bl : List Nat} (h : DcSF w v L bl) : DcS w v L := by
  obtain ⟨a, b, o, c, V, NB, h1, h2, _, _, h3⟩ := h
  exact ⟨a, b, o, c, h1, h2, fun j hj => ⟨V j, (h3 j hj).1, (h3 j hj).2.rd⟩⟩
theorem DcSF.slice {w : World} {v : Value} {L : List Dc} {bl : List Nat} (h : DcSF w v L bl) : ∃ a c, v = .slice a L.length c := by
  obtain ⟨a, _, _, c, _, _, h1, _⟩ := h; exact ⟨a, c, h1⟩
theorem DcSF.lt {w : World} {v : Value} {L : List Dc} {bl : List Nat} (h : DcSF w v L bl) : ∀ g ∈ bl, g < w.heap.size := by
  obtain ⟨a, b, o, c, V, NB, h1, h2, rfl, _, h3⟩ := h
  intro g hg
  rcases List.mem_append.1 hg with hg | hg
  · by_cases hz : 0 < L.length
    · rw [if_pos hz] at hg
      obtain rfl := List.mem_singleton.1 hg
      exact World.block_lt_of_cell? _ _ (h3 0 hz).1.kind
    · rw [if_neg hz] at hg; cases hg
  · obtain ⟨i, hi, hg⟩ := of_mem_flat hg
    exact (h3 i hi).2.lt g hg
theorem DcSF.keep {w w' : World} {v : Value} {L : List Dc} {bl : List Nat} (h : DcSF w v L bl) (hk : ∀ g ∈ bl, w'.heap[g]? = w.heap[g]?) : DcSF w' v L bl := by
  obtain ⟨a, b, o, c, V, NB, h1, h2, rfl, hf, h3⟩ := h
  have hb : 0 < L.length → w'.heap[b]? = w.heap[b]? := fun hz => hk b (List.mem_append_left _ (by rw [if_pos hz]; exact List.mem_singleton.2 rfl))
  refine ⟨a, b, o, c, V, NB, h1, h2, rfl, fun j hj => ?_, fun j hj => ⟨?_, (h3 j hj).2.keep (fun g hg => hk g (List.mem_append_right _ (mem_flat hj hg)))⟩⟩
  · exact (World.frozen?_of_block (w := w) (a := ⟨b, o + j, none⟩) (hb (by omega))).trans (hf j hj)
  · have hb' := hb (by omega)
    have hc : ∀ j, w'.cell? ⟨b, j, none⟩ = w.cell? ⟨b, j, none⟩ := fun j => World.cell?_of_block (w := w) (a := ⟨b, j, none⟩) hb'
    obtain ⟨q0, q1, q2, q3, q4, q5, q6, q7, q8⟩ := (h3 j hj).1
    exact ⟨(hc _).trans q0, (hc _).trans q1, (hc _).trans q2, (hc _).trans q3, (hc _).trans q4, (hc _).trans q5, (hc _).trans q6, (hc _).trans q7, (hc _).trans q8⟩
theorem DcSF.below {w w' : World} {v : Value} {L : List Dc} {bl : List Nat} (h : DcSF w v L bl) (hb : Below w.heap.size w w') : DcSF w' v L bl := h.keep fun g hg => hb.block g (h.lt g hg)
theorem DcSM.slice {w : World} {v : Value} {L : List Dc} {k : Nat} {bl : List Nat} (h : DcSM w v L k bl) : ∃ a c, v = .slice a L.length c := by
  obtain ⟨a, _, _, c, _, _, h1, _⟩ := h; exact ⟨a, c, h1⟩
theorem DcSM.lt {w : World} {v : Value} {L : List Dc} {k : Nat} {bl : List Nat} (h : DcSM w v L k bl) : ∀ g ∈ bl, g < w.heap.size := by
  obtain ⟨a, b, o, c, V, NB, h1, h2, rfl, h3⟩ := h
  intro g hg
  rcases List.mem_append.1 hg with hg | hg
  · by_cases hz : 0 < L.length
    · rw [if_pos hz] at hg
      obtain rfl := List.mem_singleton.1 hg
      exact World.block_lt_of_cell? _ _ (h3 0 hz).2.1
    · rw [if_neg hz] at hg; cases hg
  · obtain ⟨i, hi, hg⟩ := of_mem_flat hg
    exact (h3 i hi).2.2.lt g hg
theorem DcSM.keep {w w' : World} {v : Value} {L : List Dc} {k : Nat} {bl : List Nat} (h : DcSM w v L k bl) (hk : ∀ g ∈ bl, w'.heap[g]? = w.heap[g]?) : DcSM w' v L k bl := by
  obtain ⟨a, b, o, c, V, NB, h1, h2, rfl, h3⟩ := h
  have hb : 0 < L.length → w'.heap[b]? = w.heap[b]? := fun hz => hk b (List.mem_append_left _ (by rw [if_pos hz]; exact List.mem_singleton.2 rfl))
  refine ⟨a, b, o, c, V, NB, h1, h2, rfl, fun j hj => ?_⟩
  have hb' := hb (by omega)
  have hc : ∀ j, w'.cell? ⟨b, j, none⟩ = w.cell? ⟨b, j, none⟩ := fun j => World.cell?_of_block (w := w) (a := ⟨b, j, none⟩) hb'
  obtain ⟨⟨q0, q1, q2, q3, q4, q5, q6, q8⟩, q, hm⟩ := h3 j hj
  exact ⟨⟨(hc _).trans q0, (hc _).trans q1, (hc _).trans q2, (hc _).trans q3, (hc _).trans q4, (hc _).trans q5, (hc _).trans q6, (hc _).trans q8⟩, (hc _).trans q, hm.keep (fun g hg => hk g (List.mem_append_right _ (mem_flat hj hg)))⟩
theorem DcSM.below {w w' : World} {v : Value} {L : List Dc} {k : Nat} {bl : List Nat} (h : DcSM w v L k bl) (hb : Below w.heap.size w w') : DcSM w' v L k bl := h.keep fun g hg => hb.block g (h.lt g hg)
end Go.Proofs.YtiiljckgoiaaoaaDoor

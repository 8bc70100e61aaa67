/-
  A Target in memory.
  Lists of Target in memory.
  A Layout in memory.
  The walk of eqIntS, where both read as the same.
  The walk of eqTarget, where both read as the same.
-/
import Derived.Test.YtijdlbanfdhfnaaGreatDoorJDnT
import Derived.BigQuiet
import Derived.Deep.QuietTactic
import Derived.Deep.RegionWith
import Derived.Test.YtijdlbanfdhfnaaGreatDoorJDnDc0
namespace Go.Proofs.YtijdlbanfdhfnaaGreatDoor
open Go.RowKit

/-- A Target. -/
structure Tg where
  name : ByteArray
  kind : Int
  cell : Int
def Tg.zero : Tg := ⟨.empty, 0, 0⟩
/-- Its value, with the slices that it holds. -/
def tgagg (d : Tg) (v0 : Value) : Value := .agg #[v0, .int .i64 d.kind, .int .i64 d.cell]
/-- Its slices read as its lists. -/
structure TgV (w : World) (d : Tg) (v0 : Value) : Prop where
  name : BS w v0 d.name
theorem TgV.below {w w' : World} {d : Tg} {v0 : Value} (h : TgV w d v0) (hb : Below w.heap.size w w') : TgV w' d v0 := ⟨h.name.below hb⟩
/-- Its lists are short. -/
structure TgB (d : Tg) : Prop where
  name : d.name.size ≤ 1048576
/-- Its lists have lengths that an int holds; its numbers are in their range. -/
structure TgL (d : Tg) : Prop where
  name : (d.name.size : Int) ≤ 9223372036854775807
  kind : W64 d.kind
  cell : W64 d.cell
/-- Its slices are copies, in blocks behind G. -/
structure TgO (w : World) (G : Nat) (d : Tg) (v0 : Value) : Prop where
  name : BO w G v0 d.name
theorem TgO.rd {w : World} {G : Nat} {d : Tg} {v0 : Value} (h : TgO w G d v0) : TgV w d v0 := ⟨h.name.bs⟩
theorem TgO.below {w w' : World} {G : Nat} {d : Tg} {v0 : Value} (h : TgO w G d v0) (hb : Below w.heap.size w w') : TgO w' G d v0 := ⟨h.name.below hb⟩
theorem TgO.lower {w : World} {G G' : Nat} {d : Tg} {v0 : Value} (h : TgO w G d v0) (hG : G' ≤ G) : TgO w G' d v0 := ⟨h.name.lower hG⟩
theorem TgO.setAt {w : World} {G G' k : Nat} {d : Tg} {v0 u : Value} (h : TgO w G d v0) (hG : G' ≤ G) : TgO (w.setCell ⟨G', k, none⟩ u) G d v0 := ⟨h.name.setAt hG⟩
end Go.Proofs.YtijdlbanfdhfnaaGreatDoor

namespace Go.Proofs.YtijdlbanfdhfnaaGreatDoor
open Go.RowKit

/-- The cells of one. -/
structure TgC (w : World) (b p : Nat) (d : Tg) (v0 : Value) : Prop where
  name : w.cell? ⟨b, p, none⟩ = some v0
  kind : w.cell? ⟨b, p + 1, none⟩ = some (.int .i64 d.kind)
  cell : w.cell? ⟨b, p + 2, none⟩ = some (.int .i64 d.cell)
theorem TgC.below {w w' : World} {b p : Nat} {d : Tg} {v0 : Value} (h : TgC w b p d v0) (hb : Below w.heap.size w w') : TgC w' b p d v0 := ⟨cell_kept h.name hb, cell_kept h.kind hb, cell_kept h.cell hb⟩
theorem TgC.set {w : World} {b p g k : Nat} {d : Tg} {v0 u : Value} (h : TgC w b p d v0) (hb : b ≠ g) : TgC (w.setCell ⟨g, k, none⟩ u) b p d v0 := ⟨by rw [setCell_cell hb]; exact h.name, by rw [setCell_cell hb]; exact h.kind, by rw [setCell_cell hb]; exact h.cell⟩
/-- A slice of them reads as L. -/
def TgS (w : World) (v : Value) (L : List Tg) : Prop := ∃ a b o c, v = .slice a L.length c ∧ (0 < L.length → a = some ⟨b, o, none⟩) ∧ ∀ j, j < L.length → ∃ v0, TgC w b (o + j * 3) (L.getD j .zero) v0 ∧ TgV w (L.getD j .zero) v0
theorem TgS.below {w w' : World} {v : Value} {L : List Tg} (h : TgS w v L) (hb : Below w.heap.size w w') : TgS w' v L := by
  obtain ⟨a, b, o, c, h1, h2, h3⟩ := h
  refine ⟨a, b, o, c, h1, h2, fun j hj => ?_⟩
  obtain ⟨v0, h4, h5⟩ := h3 j hj
  exact ⟨v0, h4.below hb, h5.below hb⟩
theorem TgS.slice {w : World} {v : Value} {L : List Tg} (h : TgS w v L) : ∃ a c, v = .slice a L.length c := by
  obtain ⟨a, _, _, c, h1, _⟩ := h; exact ⟨a, c, h1⟩
/-- A copy of a slice of them, in blocks behind G. -/
def TgSO (w : World) (G : Nat) (v : Value) (L : List Tg) : Prop := ∃ b c, G < b ∧ b < w.heap.size ∧ v = .slice (some ⟨b, 0, none⟩) L.length c ∧ Fz w b ∧ ∀ j, j < L.length → ∃ v0, TgC w b (j * 3) (L.getD j .zero) v0 ∧ TgO w b (L.getD j .zero) v0
theorem TgSO.slice {w : World} {G : Nat} {v : Value} {L : List Tg} (h : TgSO w G v L) : ∃ g c, v = .slice (some ⟨g, 0, none⟩) L.length c := by
  obtain ⟨b, c, _, _, h1, _⟩ := h; exact ⟨b, c, h1⟩
theorem TgSO.rd {w : World} {G : Nat} {v : Value} {L : List Tg} (h : TgSO w G v L) : TgS w v L := by
  obtain ⟨b, c, _, _, h1, _, h2⟩ := h
  refine ⟨_, b, 0, c, h1, fun _ => rfl, fun j hj => ?_⟩
  obtain ⟨v0, h3, h4⟩ := h2 j hj
  exact ⟨v0, by rw [Nat.zero_add]; exact h3, h4.rd⟩
theorem TgSO.below {w w' : World} {G : Nat} {v : Value} {L : List Tg} (h : TgSO w G v L) (hb : Below w.heap.size w w') : TgSO w' G v L := by
  obtain ⟨b, c, h0, h4, h1, hf, h2⟩ := h
  refine ⟨b, c, h0, by have := hb.size; omega, h1, hf.below h4 hb, fun j hj => ?_⟩
  obtain ⟨v0, h3, h5⟩ := h2 j hj
  exact ⟨v0, h3.below hb, h5.below hb⟩
theorem TgSO.lower {w : World} {G G' : Nat} {v : Value} {L : List Tg} (h : TgSO w G v L) (hG : G' ≤ G) : TgSO w G' v L := by
  obtain ⟨b, c, h0, h4, h1, hf, h2⟩ := h
  refine ⟨b, c, by omega, h4, h1, hf, fun j hj => ?_⟩
  obtain ⟨v0, h3, h5⟩ := h2 j hj
  exact ⟨v0, h3, h5⟩
theorem TgSO.setAt {w : World} {G G' k : Nat} {v u : Value} {L : List Tg} (h : TgSO w G v L) (hG : G' ≤ G) : TgSO (w.setCell ⟨G', k, none⟩ u) G v L := by
  obtain ⟨b, c, h0, h4, h1, hf, h2⟩ := h
  refine ⟨b, c, h0, by simpa using h4, h1, hf.set, fun j hj => ?_⟩
  obtain ⟨v0, h3, h5⟩ := h2 j hj
  exact ⟨v0, h3.set (by omega), h5.setAt (by omega)⟩
/-- A short list of short ones. -/
structure TgSB (L : List Tg) : Prop where
  len : L.length ≤ 1048576
  each : ∀ j, j < L.length → TgB (L.getD j .zero)
structure TgSL (L : List Tg) : Prop where
  len : (L.length : Int) ≤ 9223372036854775807
  each : ∀ j, j < L.length → TgL (L.getD j .zero)
end Go.Proofs.YtijdlbanfdhfnaaGreatDoor

namespace Go.Proofs.YtijdlbanfdhfnaaGreatDoor
open Go.RowKit

/-- A Layout. -/
structure Ly where
  w : Int
  h : Int
  cost : List Int
  exits : List Int
  targets : List Tg
def Ly.zero : Ly := ⟨0, 0, [], [], []⟩
/-- Its value, with the slices that it holds. -/
def lyagg (d : Ly) (v2 v3 v4 : Value) : Value := .agg #[.int .i64 d.w, .int .i64 d.h, v2, v3, v4]
/-- Its slices read as its lists. -/
structure LyV (w : World) (d : Ly) (v2 v3 v4 : Value) : Prop where
  cost : IS w v2 d.cost
  exits : IS w v3 d.exits
  targets : TgS w v4 d.targets
theorem LyV.below {w w' : World} {d : Ly} {v2 v3 v4 : Value} (h : LyV w d v2 v3 v4) (hb : Below w.heap.size w w') : LyV w' d v2 v3 v4 := ⟨h.cost.below hb, h.exits.below hb, h.targets.below hb⟩
/-- Its lists are short. -/
structure LyB (d : Ly) : Prop where
  cost : d.cost.length ≤ 1048576
  exits : d.exits.length ≤ 1048576
  targets : TgSB d.targets
/-- Its lists have lengths that an int holds; its numbers are in their range. -/
structure LyL (d : Ly) : Prop where
  w : W64 d.w
  h : W64 d.h
  cost : IL d.cost
  exits : IL d.exits
  targets : TgSL d.targets
/-- Its slices are copies, in blocks behind G. -/
structure LyO (w : World) (G : Nat) (d : Ly) (v2 v3 v4 : Value) : Prop where
  cost : ICp w G v2 d.cost
  exits : ICp w G v3 d.exits
  targets : TgSO w G v4 d.targets
theorem LyO.rd {w : World} {G : Nat} {d : Ly} {v2 v3 v4 : Value} (h : LyO w G d v2 v3 v4) : LyV w d v2 v3 v4 := ⟨h.cost.is, h.exits.is, h.targets.rd⟩
theorem LyO.below {w w' : World} {G : Nat} {d : Ly} {v2 v3 v4 : Value} (h : LyO w G d v2 v3 v4) (hb : Below w.heap.size w w') : LyO w' G d v2 v3 v4 := ⟨h.cost.below hb, h.exits.below hb, h.targets.below hb⟩
theorem LyO.lower {w : World} {G G' : Nat} {d : Ly} {v2 v3 v4 : Value} (h : LyO w G d v2 v3 v4) (hG : G' ≤ G) : LyO w G' d v2 v3 v4 := ⟨h.cost.lower hG, h.exits.lower hG, h.targets.lower hG⟩
theorem LyO.setAt {w : World} {G G' k : Nat} {d : Ly} {v2 v3 v4 u : Value} (h : LyO w G d v2 v3 v4) (hG : G' ≤ G) : LyO (w.setCell ⟨G', k, none⟩ u) G d v2 v3 v4 := ⟨h.cost.setAt hG, h.exits.setAt hG, h.targets.setAt hG⟩
end Go.Proofs.YtijdlbanfdhfnaaGreatDoor

namespace Go.Proofs.YtijdlbanfdhfnaaGreatDoor
open Go.RowKit

set_option maxHeartbeats 400000 in
set_option maxRecDepth 1000000 in
theorem eqI_w {w : World} {v1 v2 : Value} {l : List Int} (hs : l.length ≤ 100000000) (h1 : IS w v1 l) (h2 : IS w v2 l) :
    Calls Tryz.prog 30 #[v1, v2] w fun e w' => e = .returned (.bool true) ∧ Below w.heap.size w w' := by
  obtain ⟨a1, b1, o1, c1, rfl, ha1, hc1⟩ := h1
  obtain ⟨a2, b2, o2, c2, rfl, ha2, hc2⟩ := h2
  have HC1 := hide hc1
  have HC2 := hide hc2
  clear hc1 hc2
  have hne : ((l.length : Int) != (l.length : Int)) = false := by simp
  go_enter Tryz.func30, Tryz.ntmps30
  go_wp2
  go_loopw [5] (fun i wr => ∃ k n : Nat, k ≤ l.length ∧ i = .int .i64 k ∧ wr = w.drewN n) (fun i _ => l.length - (intOf i).toNat)
  case atStart => exact ⟨0, 0, Nat.zero_le _, rfl, rfl⟩
  case round =>
    obtain ⟨k, n, hk, rfl, rfl⟩ := hrel
    by_cases hlt : k < l.length
    · obtain rfl := ha1 (by omega)
      obtain rfl := ha2 (by omega)
      have g1 := HC1.out k hlt
      have g2 := HC2.out k hlt
      obtain ⟨y, hy⟩ : ∃ y, l.getD k 0 = y := ⟨_, rfl⟩
      rw [hy] at g1 g2
      have hyy : (y != y) = false := by simp
      have hlti : (k : Int) < (l.length : Int) := by omega
      clear hy
      go_wp2
      go_region
      all_goals go_wp2
      all_goals
        go_roundw
        case rel => exact ⟨k + 1, _, by omega, by go_num, rfl⟩
        case measure => simp [intOf]; omega
    · have hge : ¬ (k : Int) < (l.length : Int) := by omega
      go_wp2
      go_ret
      exact ⟨rfl, below_drewN (Below.refl _ _) n⟩
theorem eqI_same {w : World} {v1 v2 : Value} {l : List Int} (hs : l.length ≤ 1048576) (h1 : IS w v1 l) (h2 : IS w v2 l) :
    Calls Tryz.prog 30 #[v1, v2] w fun e w' => e = .returned (.bool true) ∧ Below w.heap.size w w' := eqI_w (by omega) h1 h2

end Go.Proofs.YtijdlbanfdhfnaaGreatDoor

namespace Go.Proofs.YtijdlbanfdhfnaaGreatDoor
open Go.RowKit

set_option maxHeartbeats 2000000 in
set_option maxRecDepth 1000000 in
theorem eqTg_same {w : World} {d : Tg} {p0 q0 : Value} (hb : TgB d) (h1 : TgV w d p0) (h2 : TgV w d q0) :
    Calls Tryz.prog 62 #[tgagg d p0, tgagg d q0] w fun e w' => e = .returned (.bool true) ∧ Below w.heap.size w w' := by
  obtain ⟨x0, x1, x2⟩ := d
  have e1 : (x1 != x1) = false := by simp
  have e2 : (x2 != x2) = false := by simp
  have HB := hide hb
  have H1 := hide h1
  have H2 := hide h2
  clear hb h1 h2
  unfold tgagg
  simp only
  obtain ⟨W0, hW0⟩ : ∃ W, (w.alloc (.cells #[p0, .int .i64 x1, .int .i64 x2] 50)).alloc (.cells #[q0, .int .i64 x1, .int .i64 x2] 50) = W := ⟨_, rfl⟩
  have hb0 : Below w.heap.size w W0 := by rw [← hW0]; exact ((Below.refl _ _).alloc (Nat.le_refl _) _).alloc (by simp) _
  have hA : Blk W0 w.heap.size 50 #[p0, .int .i64 x1, .int .i64 x2] := by rw [← hW0]; exact (Blk.new _ _ _).alloc _
  have hC : Blk W0 (w.heap.size + 1) 50 #[q0, .int .i64 x1, .int .i64 x2] := by
    rw [← hW0]
    have := Blk.new (w.alloc (.cells #[p0, .int .i64 x1, .int .i64 x2] 50)) 50 #[q0, .int .i64 x1, .int .i64 x2]
    simpa using this
  have HA0 := hide hA
  have HC0 := hide hC
  have HB0 := hide hb0
  have HW := hide hW0
  clear hA hC hb0 hW0
  go_enter Tryz.func62, Tryz.ntmps62
  go_wp2_with fail
  rw [HW.out]
  clear HW
  refine (eqB_self HB.out.name (H1.out.name.below HB0.out) (H2.out.name.below HB0.out)).mono ?_
  rintro e w2 ⟨rfl, hb2⟩
  have HA2 := hide (HA0.out.below hb2)
  have HC2 := hide (HC0.out.below hb2)
  have HB2 : Hid (Below w.heap.size w w2) := HB0.out.trans (hb2.mono HB0.out.size)
  have a1 := HA2.out.cell 1
  have c1 := HC2.out.cell 1
  have a2 := HA2.out.cell 2
  have c2 := HC2.out.cell 2
  simp only [List.getElem?_toArray, List.getElem?_cons_succ, List.getElem?_cons_zero] at a1 c1 a2 c2
  clear hb2 HA0 HC0 HB0
  go_wp2
  go_ret
  exact ⟨rfl, HB2.out⟩
end Go.Proofs.YtijdlbanfdhfnaaGreatDoor

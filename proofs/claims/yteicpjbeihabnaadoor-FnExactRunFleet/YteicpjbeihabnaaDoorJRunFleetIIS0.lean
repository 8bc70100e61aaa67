/-
  Lists of such lists in memory.
  A Target in memory.
  Lists of Target in memory.
  A Tables in memory.
  The walk of toIntS.
-/
import Derived.Test.YteicpjbeihabnaaDoorJRunFleetB0
namespace Go.Proofs.YteicpjbeihabnaaDoor
open Go.RowKit

/-- A slice of slices reads as L. -/
def IIS (w : World) (v : Value) (L : List (List Int)) : Prop := ∃ a b o c, v = .slice a L.length c ∧ (0 < L.length → a = some ⟨b, o, none⟩) ∧ ∀ j, j < L.length → ∃ u, w.cell? ⟨b, o + j, none⟩ = some u ∧ IS w u (L.getD j [])
theorem IIS.below {w w' : World} {v : Value} {L : List (List Int)} (h : IIS w v L) (hb : Below w.heap.size w w') : IIS w' v L := by
  obtain ⟨a, b, o, c, h1, h2, h3⟩ := h
  refine ⟨a, b, o, c, h1, h2, fun j hj => ?_⟩
  obtain ⟨u, h4, h5⟩ := h3 j hj
  exact ⟨u, cell_kept h4 hb, h5.below hb⟩
theorem IIS.slice {w : World} {v : Value} {L : List (List Int)} (h : IIS w v L) : ∃ a c, v = .slice a L.length c := by
  obtain ⟨a, _, _, c, h1, _⟩ := h; exact ⟨a, c, h1⟩
/-- A copy of one, in blocks behind G. -/
def IISO (w : World) (G : Nat) (v : Value) (L : List (List Int)) : Prop := ∃ b c, G < b ∧ b < w.heap.size ∧ v = .slice (some ⟨b, 0, none⟩) L.length c ∧ Fz w b ∧ ∀ j, j < L.length → ∃ u, w.cell? ⟨b, 0 + j, none⟩ = some u ∧ ICp w b u (L.getD j [])
theorem IISO.slice {w : World} {G : Nat} {v : Value} {L : List (List Int)} (h : IISO w G v L) : ∃ g c, v = .slice (some ⟨g, 0, none⟩) L.length c := by
  obtain ⟨b, c, _, _, h1, _⟩ := h; exact ⟨b, c, h1⟩
theorem IISO.rd {w : World} {G : Nat} {v : Value} {L : List (List Int)} (h : IISO w G v L) : IIS w v L := by
  obtain ⟨b, c, _, _, h1, _, h2⟩ := h
  refine ⟨_, b, 0, c, h1, fun _ => rfl, fun j hj => ?_⟩
  obtain ⟨u, h3, h4⟩ := h2 j hj
  exact ⟨u, h3, h4.is⟩
theorem IISO.below {w w' : World} {G : Nat} {v : Value} {L : List (List Int)} (h : IISO w G v L) (hb : Below w.heap.size w w') : IISO w' G v L := by
  obtain ⟨b, c, h0, h4, h1, hf, h2⟩ := h
  refine ⟨b, c, h0, by have := hb.size; omega, h1, hf.below h4 hb, fun j hj => ?_⟩
  obtain ⟨u, h5, h6⟩ := h2 j hj
  exact ⟨u, cell_kept h5 hb, h6.below hb⟩
theorem IISO.lower {w : World} {G G' : Nat} {v : Value} {L : List (List Int)} (h : IISO w G v L) (hG : G' ≤ G) : IISO w G' v L := by
  obtain ⟨b, c, h0, h4, h1, hf, h2⟩ := h
  refine ⟨b, c, by omega, h4, h1, hf, fun j hj => ?_⟩
  obtain ⟨u, h5, h6⟩ := h2 j hj
  exact ⟨u, h5, h6⟩
theorem IISO.setAt {w : World} {G G' k : Nat} {v x : Value} {L : List (List Int)} (h : IISO w G v L) (hG : G' ≤ G) : IISO (w.setCell ⟨G', k, none⟩ x) G v L := by
  obtain ⟨b, c, h0, h4, h1, hf, h2⟩ := h
  refine ⟨b, c, h0, by simpa using h4, h1, hf.set, fun j hj => ?_⟩
  obtain ⟨u, h5, h6⟩ := h2 j hj
  exact ⟨u, by rw [setCell_cell (by omega)]; exact h5, h6.setAt (by omega)⟩
structure IISB (L : List (List Int)) : Prop where
  len : L.length ≤ 1048576
  each : ∀ j, j < L.length → (L.getD j []).length ≤ 1048576
structure IISL (L : List (List Int)) : Prop where
  len : (L.length : Int) ≤ 9223372036854775807
  each : ∀ j, j < L.length → IL (L.getD j [])
end Go.Proofs.YteicpjbeihabnaaDoor

namespace Go.Proofs.YteicpjbeihabnaaDoor
open Go.RowKit

/-- A Target. -/
structure Tg where
  name : ByteArray
  kind : Int
  cell : Int
def Tg.zero : Tg := ⟨.empty, 0, 0⟩
/-- Its value, with the slices that it holds. -/
def tgagg (d : Tg) (v0 : Value) : Value := .agg #[v0, .int .i64 d.kind, .int .i64 d.cell]
/-- Its slices read as its lists. -/
structure TgV (w : World) (d : Tg) (v0 : Value) : Prop where
  name : BS w v0 d.name
theorem TgV.below {w w' : World} {d : Tg} {v0 : Value} (h : TgV w d v0) (hb : Below w.heap.size w w') : TgV w' d v0 := ⟨h.name.below hb⟩
/-- Its lists are short. -/
structure TgB (d : Tg) : Prop where
  name : d.name.size ≤ 1048576
/-- Its lists have lengths that an int holds; its numbers are in their range. -/
structure TgL (d : Tg) : Prop where
  name : (d.name.size : Int) ≤ 9223372036854775807
  kind : W64 d.kind
  cell : W64 d.cell
/-- Its slices are copies, in blocks behind G. -/
structure TgO (w : World) (G : Nat) (d : Tg) (v0 : Value) : Prop where
  name : BO w G v0 d.name
theorem TgO.rd {w : World} {G : Nat} {d : Tg} {v0 : Value} (h : TgO w G d v0) : TgV w d v0 := ⟨h.name.bs⟩
theorem TgO.below {w w' : World} {G : Nat} {d : Tg} {v0 : Value} (h : TgO w G d v0) (hb : Below w.heap.size w w') : TgO w' G d v0 := ⟨h.name.below hb⟩
theorem TgO.lower {w : World} {G G' : Nat} {d : Tg} {v0 : Value} (h : TgO w G d v0) (hG : G' ≤ G) : TgO w G' d v0 := ⟨h.name.lower hG⟩
theorem TgO.setAt {w : World} {G G' k : Nat} {d : Tg} {v0 u : Value} (h : TgO w G d v0) (hG : G' ≤ G) : TgO (w.setCell ⟨G', k, none⟩ u) G d v0 := ⟨h.name.setAt hG⟩
end Go.Proofs.YteicpjbeihabnaaDoor

namespace Go.Proofs.YteicpjbeihabnaaDoor
open Go.RowKit

/-- The cells of one. -/
structure TgC (w : World) (b p : Nat) (d : Tg) (v0 : Value) : Prop where
  name : w.cell? ⟨b, p, none⟩ = some v0
  kind : w.cell? ⟨b, p + 1, none⟩ = some (.int .i64 d.kind)
  cell : w.cell? ⟨b, p + 2, none⟩ = some (.int .i64 d.cell)
theorem TgC.below {w w' : World} {b p : Nat} {d : Tg} {v0 : Value} (h : TgC w b p d v0) (hb : Below w.heap.size w w') : TgC w' b p d v0 := ⟨cell_kept h.name hb, cell_kept h.kind hb, cell_kept h.cell hb⟩
theorem TgC.set {w : World} {b p g k : Nat} {d : Tg} {v0 u : Value} (h : TgC w b p d v0) (hb : b ≠ g) : TgC (w.setCell ⟨g, k, none⟩ u) b p d v0 := ⟨by rw [setCell_cell hb]; exact h.name, by rw [setCell_cell hb]; exact h.kind, by rw [setCell_cell hb]; exact h.cell⟩
/-- A slice of them reads as L. -/
def TgS (w : World) (v : Value) (L : List Tg) : Prop := ∃ a b o c, v = .slice a L.length c ∧ (0 < L.length → a = some ⟨b, o, none⟩) ∧ ∀ j, j < L.length → ∃ v0, TgC w b (o + j * 3) (L.getD j .zero) v0 ∧ TgV w (L.getD j .zero) v0
theorem TgS.below {w w' : World} {v : Value} {L : List Tg} (h : TgS w v L) (hb : Below w.heap.size w w') : TgS w' v L := by
  obtain ⟨a, b, o, c, h1, h2, h3⟩ := h
  refine ⟨a, b, o, c, h1, h2, fun j hj => ?_⟩
  obtain ⟨v0, h4, h5⟩ := h3 j hj
  exact ⟨v0, h4.below hb, h5.below hb⟩
theorem TgS.slice {w : World} {v : Value} {L : List Tg} (h : TgS w v L) : ∃ a c, v = .slice a L.length c := by
  obtain ⟨a, _, _, c, h1, _⟩ := h; exact ⟨a, c, h1⟩
/-- A copy of a slice of them, in blocks behind G. -/
def TgSO (w : World) (G : Nat) (v : Value) (L : List Tg) : Prop := ∃ b c, G < b ∧ b < w.heap.size ∧ v = .slice (some ⟨b, 0, none⟩) L.length c ∧ Fz w b ∧ ∀ j, j < L.length → ∃ v0, TgC w b (j * 3) (L.getD j .zero) v0 ∧ TgO w b (L.getD j .zero) v0
theorem TgSO.slice {w : World} {G : Nat} {v : Value} {L : List Tg} (h : TgSO w G v L) : ∃ g c, v = .slice (some ⟨g, 0, none⟩) L.length c := by
  obtain ⟨b, c, _, _, h1, _⟩ := h; exact ⟨b, c, h1⟩
theorem TgSO.rd {w : World} {G : Nat} {v : Value} {L : List Tg} (h : TgSO w G v L) : TgS w v L := by
  obtain ⟨b, c, _, _, h1, _, h2⟩ := h
  refine ⟨_, b, 0, c, h1, fun _ => rfl, fun j hj => ?_⟩
  obtain ⟨v0, h3, h4⟩ := h2 j hj
  exact ⟨v0, by rw [Nat.zero_add]; exact h3, h4.rd⟩
theorem TgSO.below {w w' : World} {G : Nat} {v : Value} {L : List Tg} (h : TgSO w G v L) (hb : Below w.heap.size w w') : TgSO w' G v L := by
  obtain ⟨b, c, h0, h4, h1, hf, h2⟩ := h
  refine ⟨b, c, h0, by have := hb.size; omega, h1, hf.below h4 hb, fun j hj => ?_⟩
  obtain ⟨v0, h3, h5⟩ := h2 j hj
  exact ⟨v0, h3.below hb, h5.below hb⟩
theorem TgSO.lower {w : World} {G G' : Nat} {v : Value} {L : List Tg} (h : TgSO w G v L) (hG : G' ≤ G) : TgSO w G' v L := by
  obtain ⟨b, c, h0, h4, h1, hf, h2⟩ := h
  refine ⟨b, c, by omega, h4, h1, hf, fun j hj => ?_⟩
  obtain ⟨v0, h3, h5⟩ := h2 j hj
  exact ⟨v0, h3, h5⟩
theorem TgSO.setAt {w : World} {G G' k : Nat} {v u : Value} {L : List Tg} (h : TgSO w G v L) (hG : G' ≤ G) : TgSO (w.setCell ⟨G', k, none⟩ u) G v L := by
  obtain ⟨b, c, h0, h4, h1, hf, h2⟩ := h
  refine ⟨b, c, h0, by simpa using h4, h1, hf.set, fun j hj => ?_⟩
  obtain ⟨v0, h3, h5⟩ := h2 j hj
  exact ⟨v0, h3.set (by omega), h5.setAt (by omega)⟩
/-- A short list of short ones. -/
structure TgSB (L : List Tg) : Prop where
  len : L.length ≤ 1048576
  each : ∀ j, j < L.length → TgB (L.getD j .zero)
structure TgSL (L : List Tg) : Prop where
  len : (L.length : Int) ≤ 9223372036854775807
  each : ∀ j, j < L.length → TgL (L.getD j .zero)
end Go.Proofs.YteicpjbeihabnaaDoor

namespace Go.Proofs.YteicpjbeihabnaaDoor
open Go.RowKit

/-- A Tables. -/
structure Tb where
  w : Int
  h : Int
  targets : List Tg
  dist : List (List Int)
  hop : List (List Int)
def Tb.zero : Tb := ⟨0, 0, [], [], []⟩
/-- Its value, with the slices that it holds. -/
def tbagg (d : Tb) (v2 v3 v4 : Value) : Value := .agg #[.int .i64 d.w, .int .i64 d.h, v2, v3, v4]
/-- Its slices read as its lists. -/
structure TbV (w : World) (d : Tb) (v2 v3 v4 : Value) : Prop where
  targets : TgS w v2 d.targets
  dist : IIS w v3 d.dist
  hop : IIS w v4 d.hop
theorem TbV.below {w w' : World} {d : Tb} {v2 v3 v4 : Value} (h : TbV w d v2 v3 v4) (hb : Below w.heap.size w w') : TbV w' d v2 v3 v4 := ⟨h.targets.below hb, h.dist.below hb, h.hop.below hb⟩
/-- Its lists are short. -/
structure TbB (d : Tb) : Prop where
  targets : TgSB d.targets
  dist : IISB d.dist
  hop : IISB d.hop
/-- Its lists have lengths that an int holds; its numbers are in their range. -/
structure TbL (d : Tb) : Prop where
  w : W64 d.w
  h : W64 d.h
  targets : TgSL d.targets
  dist : IISL d.dist
  hop : IISL d.hop
/-- Its slices are copies, in blocks behind G. -/
structure TbO (w : World) (G : Nat) (d : Tb) (v2 v3 v4 : Value) : Prop where
  targets : TgSO w G v2 d.targets
  dist : IISO w G v3 d.dist
  hop : IISO w G v4 d.hop
theorem TbO.rd {w : World} {G : Nat} {d : Tb} {v2 v3 v4 : Value} (h : TbO w G d v2 v3 v4) : TbV w d v2 v3 v4 := ⟨h.targets.rd, h.dist.rd, h.hop.rd⟩
theorem TbO.below {w w' : World} {G : Nat} {d : Tb} {v2 v3 v4 : Value} (h : TbO w G d v2 v3 v4) (hb : Below w.heap.size w w') : TbO w' G d v2 v3 v4 := ⟨h.targets.below hb, h.dist.below hb, h.hop.below hb⟩
theorem TbO.lower {w : World} {G G' : Nat} {d : Tb} {v2 v3 v4 : Value} (h : TbO w G d v2 v3 v4) (hG : G' ≤ G) : TbO w G' d v2 v3 v4 := ⟨h.targets.lower hG, h.dist.lower hG, h.hop.lower hG⟩
theorem TbO.setAt {w : World} {G G' k : Nat} {d : Tb} {v2 v3 v4 u : Value} (h : TbO w G d v2 v3 v4) (hG : G' ≤ G) : TbO (w.setCell ⟨G', k, none⟩ u) G d v2 v3 v4 := ⟨h.targets.setAt hG, h.dist.setAt hG, h.hop.setAt hG⟩
end Go.Proofs.YteicpjbeihabnaaDoor

namespace Go.Proofs.YteicpjbeihabnaaDoor
open Go.RowKit

set_option maxHeartbeats 400000 in
theorem toI_row (v : Value) (l : List Int) (w : World) (hs : l.length ≤ 1048576) (h : IS w v l) :
    Calls Tryd.prog 67 #[v] w fun e w' => (∃ c, e = .returned (.slice (some ⟨w.heap.size, 0, none⟩) l.length c) ∧ l.length ≤ c) ∧ w.heap.size < w'.heap.size ∧ Fz w' w.heap.size ∧ (∀ j, j < l.length → w'.cell? ⟨w.heap.size, j, none⟩ = some (.int .i64 (l.getD j 0))) ∧ Below w.heap.size w w' := by
  obtain ⟨a0, b, off, cap, rfl, ha, hc⟩ := h
  have hmk := run_make_row' (P := Tryd.prog) 40 3 (.int .i64 0) 8 Tryd.underlying40 (by kernel_rfl) rfl .i64 .i64 l.length (by omega) (by omega)
  have HC := hide hc
  clear hc
  go_enter Tryd.func67, Tryd.ntmps67
  go_wp2
  clear hmk
  go_loopw [4] (fun i wr => ∃ k : Nat, k ≤ l.length ∧ i = .int .i64 k ∧ wr.rowIs w.heap.size 3 l.length (fun j => if j < k then .int .i64 (l.getD j 0) else .int .i64 0) ∧ Below w.heap.size w wr ∧ wr.heap.size = w.heap.size + 1) (fun i _ => l.length - (intOf i).toNat)
  case atStart => exact ⟨0, Nat.zero_le _, rfl, (World.rowIs_made w _ l.length 3).congr (fun j _ => by simp), (Below.refl _ _).alloc (Nat.le_refl _) _, by simp⟩
  case round =>
    obtain ⟨k, hk, rfl, hrow, hbl, hsz⟩ := hrel
    by_cases hlt : k < l.length
    · obtain rfl := ha (by omega)
      have g0 : wr.cell? ⟨b, off + k, none⟩ = some (.int .i64 (l.getD k 0)) := cell_kept (HC.out k hlt) hbl
      have g1 : wr.cell? ⟨w.heap.size, k, none⟩ = some (.int .i64 0) := by rw [hrow.cell hlt]; simp
      have g2 : wr.frozen? ⟨w.heap.size, k, none⟩ = false := hrow.frozen k
      have HROW := hide hrow
      have HBL := hide hbl
      have HSZ := hide hsz
      obtain ⟨y, hy⟩ : ∃ y, l.getD k 0 = y := ⟨_, rfl⟩
      rw [hy] at g0
      have HY := hide hy
      clear hrow hbl hsz hy
      go_wp2
      go_roundw
      case rel => exact ⟨k + 1, by omega, by go_num, (HROW.out.set k _).congr (fun j _ => by
          by_cases e : j = k
          · subst e; simp [← HY.out]
          · rw [if_neg e]; by_cases hj : j < k
            · rw [if_pos hj, if_pos (by omega)]
            · rw [if_neg hj, if_neg (by omega)]), HBL.out.setCell (Nat.le_refl _) _, by simp [HSZ.out]⟩
      case measure => simp [intOf]; omega
    · go_wp2
      go_ret
      exact ⟨⟨_, rfl, Nat.le_refl _⟩, by omega, hrow.frozen, fun j hj => by rw [hrow.cell hj, if_pos (by omega)], hbl⟩
theorem toI_any (v : Value) (l : List Int) (w : World) (hs : l.length ≤ 1048576) (h : IS w v l) :
    Calls Tryd.prog 67 #[v] w fun e w' => ∃ v', e = .returned v' ∧ (∀ G, G < w.heap.size → ICp w' G v' l) ∧ Below w.heap.size w w' :=
  (toI_row v l w hs h).mono fun _ _ ⟨⟨c, he, _⟩, hlt, hf, hc, hb⟩ => ⟨_, he, fun _ hG => ⟨w.heap.size, c, hG, hlt, rfl, hf, fun j hj => by rw [Nat.zero_add]; exact hc j hj⟩, hb⟩
end Go.Proofs.YteicpjbeihabnaaDoor

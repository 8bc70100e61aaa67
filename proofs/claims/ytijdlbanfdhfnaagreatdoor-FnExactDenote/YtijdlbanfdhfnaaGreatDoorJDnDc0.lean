/-
  A Decl in memory.
  Lists of Decl in memory.
  The walks of toByteS and eqByteS.
  toByteS, eqByteS in short words.
  The walk of szByteS.
  Bytes: toByteS, szByteS in the words of all kinds.
-/
import Derived.Test.YtijdlbanfdhfnaaGreatDoorJDnT
namespace Go.Proofs.YtijdlbanfdhfnaaGreatDoor
open Go.RowKit

/-- A Decl. -/
structure Dc where
  kind : Int
  x1 : Int
  y1 : Int
  x2 : Int
  y2 : Int
  dir : Int
  cost : Int
  name : ByteArray
  node : Int
def Dc.zero : Dc := ⟨0, 0, 0, 0, 0, 0, 0, .empty, 0⟩
/-- Its value, with the slices that it holds. -/
def dcagg (d : Dc) (v7 : Value) : Value := .agg #[.int .i64 d.kind, .int .i64 d.x1, .int .i64 d.y1, .int .i64 d.x2, .int .i64 d.y2, .int .i64 d.dir, .int .i64 d.cost, v7, .int .i64 d.node]
/-- Its slices read as its lists. -/
structure DcV (w : World) (d : Dc) (v7 : Value) : Prop where
  name : BS w v7 d.name
theorem DcV.below {w w' : World} {d : Dc} {v7 : Value} (h : DcV w d v7) (hb : Below w.heap.size w w') : DcV w' d v7 := ⟨h.name.below hb⟩
/-- Its lists are short. -/
structure DcB (d : Dc) : Prop where
  name : d.name.size ≤ 1048576
/-- Its lists have lengths that an int holds; its numbers are in their range. -/
structure DcL (d : Dc) : Prop where
  kind : W64 d.kind
  x1 : W64 d.x1
  y1 : W64 d.y1
  x2 : W64 d.x2
  y2 : W64 d.y2
  dir : W64 d.dir
  cost : W64 d.cost
  name : (d.name.size : Int) ≤ 9223372036854775807
  node : W64 d.node
/-- Its slices are copies, in blocks behind G. -/
structure DcO (w : World) (G : Nat) (d : Dc) (v7 : Value) : Prop where
  name : BO w G v7 d.name
theorem DcO.rd {w : World} {G : Nat} {d : Dc} {v7 : Value} (h : DcO w G d v7) : DcV w d v7 := ⟨h.name.bs⟩
theorem DcO.below {w w' : World} {G : Nat} {d : Dc} {v7 : Value} (h : DcO w G d v7) (hb : Below w.heap.size w w') : DcO w' G d v7 := ⟨h.name.below hb⟩
theorem DcO.lower {w : World} {G G' : Nat} {d : Dc} {v7 : Value} (h : DcO w G d v7) (hG : G' ≤ G) : DcO w G' d v7 := ⟨h.name.lower hG⟩
theorem DcO.setAt {w : World} {G G' k : Nat} {d : Dc} {v7 u : Value} (h : DcO w G d v7) (hG : G' ≤ G) : DcO (w.setCell ⟨G', k, none⟩ u) G d v7 := ⟨h.name.setAt hG⟩
end Go.Proofs.YtijdlbanfdhfnaaGreatDoor

namespace Go.Proofs.YtijdlbanfdhfnaaGreatDoor
open Go.RowKit

/-- The cells of one. -/
structure DcC (w : World) (b p : Nat) (d : Dc) (v7 : Value) : Prop where
  kind : w.cell? ⟨b, p, none⟩ = some (.int .i64 d.kind)
  x1 : w.cell? ⟨b, p + 1, none⟩ = some (.int .i64 d.x1)
  y1 : w.cell? ⟨b, p + 2, none⟩ = some (.int .i64 d.y1)
  x2 : w.cell? ⟨b, p + 3, none⟩ = some (.int .i64 d.x2)
  y2 : w.cell? ⟨b, p + 4, none⟩ = some (.int .i64 d.y2)
  dir : w.cell? ⟨b, p + 5, none⟩ = some (.int .i64 d.dir)
  cost : w.cell? ⟨b, p + 6, none⟩ = some (.int .i64 d.cost)
  name : w.cell? ⟨b, p + 7, none⟩ = some v7
  node : w.cell? ⟨b, p + 8, none⟩ = some (.int .i64 d.node)
theorem DcC.below {w w' : World} {b p : Nat} {d : Dc} {v7 : Value} (h : DcC w b p d v7) (hb : Below w.heap.size w w') : DcC w' b p d v7 := ⟨cell_kept h.kind hb, cell_kept h.x1 hb, cell_kept h.y1 hb, cell_kept h.x2 hb, cell_kept h.y2 hb, cell_kept h.dir hb, cell_kept h.cost hb, cell_kept h.name hb, cell_kept h.node hb⟩
theorem DcC.set {w : World} {b p g k : Nat} {d : Dc} {v7 u : Value} (h : DcC w b p d v7) (hb : b ≠ g) : DcC (w.setCell ⟨g, k, none⟩ u) b p d v7 := ⟨by rw [setCell_cell hb]; exact h.kind, by rw [setCell_cell hb]; exact h.x1, by rw [setCell_cell hb]; exact h.y1, by rw [setCell_cell hb]; exact h.x2, by rw [setCell_cell hb]; exact h.y2, by rw [setCell_cell hb]; exact h.dir, by rw [setCell_cell hb]; exact h.cost, by rw [setCell_cell hb]; exact h.name, by rw [setCell_cell hb]; exact h.node⟩
/-- A slice of them reads as L. -/
def DcS (w : World) (v : Value) (L : List Dc) : Prop := ∃ a b o c, v = .slice a L.length c ∧ (0 < L.length → a = some ⟨b, o, none⟩) ∧ ∀ j, j < L.length → ∃ v7, DcC w b (o + j * 9) (L.getD j .zero) v7 ∧ DcV w (L.getD j .zero) v7
theorem DcS.below {w w' : World} {v : Value} {L : List Dc} (h : DcS w v L) (hb : Below w.heap.size w w') : DcS w' v L := by
  obtain ⟨a, b, o, c, h1, h2, h3⟩ := h
  refine ⟨a, b, o, c, h1, h2, fun j hj => ?_⟩
  obtain ⟨v7, h4, h5⟩ := h3 j hj
  exact ⟨v7, h4.below hb, h5.below hb⟩
theorem DcS.slice {w : World} {v : Value} {L : List Dc} (h : DcS w v L) : ∃ a c, v = .slice a L.length c := by
  obtain ⟨a, _, _, c, h1, _⟩ := h; exact ⟨a, c, h1⟩
/-- A copy of a slice of them, in blocks behind G. -/
def DcSO (w : World) (G : Nat) (v : Value) (L : List Dc) : Prop := ∃ b c, G < b ∧ b < w.heap.size ∧ v = .slice (some ⟨b, 0, none⟩) L.length c ∧ Fz w b ∧ ∀ j, j < L.length → ∃ v7, DcC w b (j * 9) (L.getD j .zero) v7 ∧ DcO w b (L.getD j .zero) v7
theorem DcSO.slice {w : World} {G : Nat} {v : Value} {L : List Dc} (h : DcSO w G v L) : ∃ g c, v = .slice (some ⟨g, 0, none⟩) L.length c := by
  obtain ⟨b, c, _, _, h1, _⟩ := h; exact ⟨b, c, h1⟩
theorem DcSO.rd {w : World} {G : Nat} {v : Value} {L : List Dc} (h : DcSO w G v L) : DcS w v L := by
  obtain ⟨b, c, _, _, h1, _, h2⟩ := h
  refine ⟨_, b, 0, c, h1, fun _ => rfl, fun j hj => ?_⟩
  obtain ⟨v7, h3, h4⟩ := h2 j hj
  exact ⟨v7, by rw [Nat.zero_add]; exact h3, h4.rd⟩
theorem DcSO.below {w w' : World} {G : Nat} {v : Value} {L : List Dc} (h : DcSO w G v L) (hb : Below w.heap.size w w') : DcSO w' G v L := by
  obtain ⟨b, c, h0, h4, h1, hf, h2⟩ := h
  refine ⟨b, c, h0, by have := hb.size; omega, h1, hf.below h4 hb, fun j hj => ?_⟩
  obtain ⟨v7, h3, h5⟩ := h2 j hj
  exact ⟨v7, h3.below hb, h5.below hb⟩
theorem DcSO.lower {w : World} {G G' : Nat} {v : Value} {L : List Dc} (h : DcSO w G v L) (hG : G' ≤ G) : DcSO w G' v L := by
  obtain ⟨b, c, h0, h4, h1, hf, h2⟩ := h
  refine ⟨b, c, by omega, h4, h1, hf, fun j hj => ?_⟩
  obtain ⟨v7, h3, h5⟩ := h2 j hj
  exact ⟨v7, h3, h5⟩
theorem DcSO.setAt {w : World} {G G' k : Nat} {v u : Value} {L : List Dc} (h : DcSO w G v L) (hG : G' ≤ G) : DcSO (w.setCell ⟨G', k, none⟩ u) G v L := by
  obtain ⟨b, c, h0, h4, h1, hf, h2⟩ := h
  refine ⟨b, c, h0, by simpa using h4, h1, hf.set, fun j hj => ?_⟩
  obtain ⟨v7, h3, h5⟩ := h2 j hj
  exact ⟨v7, h3.set (by omega), h5.setAt (by omega)⟩
/-- A short list of short ones. -/
structure DcSB (L : List Dc) : Prop where
  len : L.length ≤ 1048576
  each : ∀ j, j < L.length → DcB (L.getD j .zero)
structure DcSL (L : List Dc) : Prop where
  len : (L.length : Int) ≤ 9223372036854775807
  each : ∀ j, j < L.length → DcL (L.getD j .zero)
end Go.Proofs.YtijdlbanfdhfnaaGreatDoor

namespace Go.Proofs.YtijdlbanfdhfnaaGreatDoor
open Go.RowKit

set_option maxHeartbeats 400000 in
theorem toB_any (a0 : Option Addr) (b off cap : Nat) (s : ByteArray) (w : World) (hs : s.size ≤ 1048576) (ha : 0 < s.size → a0 = some ⟨b, off, none⟩)
    (hc : ∀ j, j < s.size → w.cell? ⟨b, off + j, none⟩ = some (bts s j)) :
    Calls Tryz.prog 46 #[.slice a0 s.size cap] w fun e w' => e = .returned (.slice (some ⟨w.heap.size, 0, none⟩) s.size s.size) ∧ w'.rowIs w.heap.size 5 s.size (bts s) ∧ Below w.heap.size w w' ∧ w'.heap.size = w.heap.size + 1 := by
  have hmk := run_make_row' (P := Tryz.prog) 38 5 (.int .u8 0) 1 Tryz.underlying38 Tryz.info5 rfl .i64 .i64 s.size (by omega) (by omega)
  go_enter Tryz.func46, Tryz.ntmps46
  go_wp2
  clear hmk
  go_loopw [4] (fun i wr => ∃ k : Nat, k ≤ s.size ∧ i = .int .i64 k ∧ wr.rowIs w.heap.size 5 s.size (fun j => if j < k then bts s j else .int .u8 0) ∧ Below w.heap.size w wr ∧ wr.heap.size = w.heap.size + 1) (fun i _ => s.size - (intOf i).toNat)
  case atStart => exact ⟨0, Nat.zero_le _, rfl, (World.rowIs_made w _ s.size 5).congr (fun j _ => by simp), (Below.refl _ _).alloc (Nat.le_refl _) _, by simp⟩
  case round =>
    obtain ⟨k, hk, rfl, hrow, hbl, hsz⟩ := hrel
    by_cases hlt : k < s.size
    · obtain rfl := ha (by omega)
      have hb : b < w.heap.size := World.block_lt_of_cell? _ _ (hc k hlt)
      have hcb : bts s k = .int .u8 ((s.get! k).toNat : Int) := rfl
      have hbd : ((s.get! k).toNat : Int) < 256 := by have := (s.get! k).toNat_lt; omega
      have g0 : wr.cell? ⟨b, off + k, none⟩ = some (.int .u8 ((s.get! k).toNat : Int)) := by rw [hbl.cell (p := ⟨b, off + k, none⟩) hb]; exact hc k hlt
      have g1 : wr.cell? ⟨w.heap.size, k, none⟩ = some (.int .u8 0) := by rw [hrow.cell hlt]; simp
      have g2 : wr.frozen? ⟨w.heap.size, k, none⟩ = false := hrow.frozen k
      clear hcb
      go_wp2
      go_roundw
      case rel => exact ⟨k + 1, by omega, by go_num, (hrow.set k _).congr (fun j _ => by
          by_cases e : j = k
          · subst e; simp [bts]
          · rw [if_neg e]; by_cases hj : j < k
            · rw [if_pos hj, if_pos (by omega)]
            · rw [if_neg hj, if_neg (by omega)]), hbl.setCell (Nat.le_refl _) _, by simp [hsz]⟩
      case measure => simp [intOf]; omega
    · go_wp2
      go_ret
      exact ⟨rfl, hrow.congr (fun j hj => by rw [if_pos (by omega)]), hbl, hsz⟩

set_option maxHeartbeats 400000 in
theorem eqB_any (a1 a2 : Option Addr) (b1 o1 c1 b2 o2 c2 : Nat) (s t : ByteArray) (w : World) (hs : s.size ≤ 1048576) (_ht : t.size ≤ 1048576) (h1 : 0 < s.size → a1 = some ⟨b1, o1, none⟩) (h2 : 0 < t.size → a2 = some ⟨b2, o2, none⟩)
    (hc1 : ∀ j, j < s.size → w.cell? ⟨b1, o1 + j, none⟩ = some (bts s j)) (hc2 : ∀ j, j < t.size → w.cell? ⟨b2, o2 + j, none⟩ = some (bts t j)) :
    Calls Tryz.prog 63 #[.slice a1 s.size c1, .slice a2 t.size c2] w fun e w' => e = .returned (.bool (decide (s = t))) ∧ ∃ n, w' = w.drewN n := by
  by_cases hst : s.size = t.size
  · have hne : ((s.size : Int) != (t.size : Int)) = false := by rw [bne_eq_false_iff_eq]; omega
    have HST : Hid (s.size = t.size) := hst
    have hle : s.size ≤ t.size := by omega
    have hge : t.size ≤ s.size := by omega
    clear hst
    go_enter Tryz.func63, Tryz.ntmps63
    go_wp2
    go_loopw [5] (fun i wr => ∃ k n : Nat, k ≤ s.size ∧ i = .int .i64 k ∧ wr = w.drewN n ∧ ∀ j, j < k → s.get! j = t.get! j) (fun i _ => s.size - (intOf i).toNat)
    case atStart => exact ⟨0, 0, Nat.zero_le _, rfl, rfl, fun j hj => absurd hj (Nat.not_lt_zero _)⟩
    case round =>
      obtain ⟨k, n, hk, rfl, rfl, heq⟩ := hrel
      by_cases hlt : k < s.size
      · obtain rfl := h1 (by omega)
        obtain rfl := h2 (by omega)
        have HEQ : Hid (∀ j, j < k → s.get! j = t.get! j) := heq
        have g1 : w.cell? ⟨b1, o1 + k, none⟩ = some (.int .u8 ((s.get! k).toNat : Int)) := hc1 k hlt
        have g2 : w.cell? ⟨b2, o2 + k, none⟩ = some (.int .u8 ((t.get! k).toNat : Int)) := hc2 k (by omega)
        have hlt2 : k < t.size := by omega
        clear hc1 hc2 heq h1 h2
        by_cases hkk : s.get! k = t.get! k
        · have hbb : (((s.get! k).toNat : Int) != ((t.get! k).toNat : Int)) = false := by rw [hkk]; simp
          have HKK : Hid (s.get! k = t.get! k) := hkk
          clear hkk
          go_wp2
          go_region
          all_goals go_wp2
          all_goals
            go_roundw
            case rel => exact ⟨k + 1, _, by omega, by go_num, rfl, fun j hj => by
              by_cases e : j = k
              · rw [e]; exact HKK.out
              · exact HEQ.out j (by omega)⟩
            case measure => simp [intOf]; omega
        · have hbb : (((s.get! k).toNat : Int) != ((t.get! k).toNat : Int)) = true := by
            rw [bne_iff_ne]; intro e; exact hkk (UInt8.toNat_inj.1 (by omega))
          have HKK : Hid (¬ s.get! k = t.get! k) := hkk
          clear hkk
          go_wp2
          go_region
          all_goals go_wp2
          all_goals go_ret
          all_goals exact ⟨ret_bool (by symm; rw [decide_eq_false_iff_not]; intro e; exact HKK.out (by rw [e])), _, rfl⟩
      · go_wp2
        go_ret
        exact ⟨ret_bool (by symm; rw [decide_eq_true_iff]; exact ext_bytes HST.out (fun j hj => heq j (by omega))), n, rfl⟩
  · have hne : ((s.size : Int) != (t.size : Int)) = true := by rw [bne_iff_ne]; omega
    have HST : Hid (¬ s.size = t.size) := hst
    clear hst
    go_enter Tryz.func63, Tryz.ntmps63
    go_wp2
    go_ret
    exact ⟨ret_bool (by symm; rw [decide_eq_false_iff_not]; intro e; exact HST.out (by rw [e])), 0, rfl⟩

end Go.Proofs.YtijdlbanfdhfnaaGreatDoor

namespace Go.Proofs.YtijdlbanfdhfnaaGreatDoor
open Go.RowKit

/-- A copy of bytes in a block of its own, none of it frozen. -/
structure BN (w : World) (g : Nat) (s : ByteArray) : Prop where
  lt : g < w.heap.size
  cell : ∀ j, j < s.size → w.cell? ⟨g, j, none⟩ = some (bts s j)
  frozen : ∀ j, w.frozen? ⟨g, j, none⟩ = false
theorem BN.bs {w : World} {g : Nat} {s : ByteArray} (h : BN w g s) (c : Nat) : BS w (.slice (some ⟨g, 0, none⟩) s.size c) s :=
  ⟨_, g, 0, c, rfl, fun _ => rfl, fun j hj => by rw [Nat.zero_add]; exact h.cell j hj⟩
theorem BN.below {w w' : World} {g : Nat} {s : ByteArray} (h : BN w g s) (hb : Below w.heap.size w w') : BN w' g s :=
  ⟨by have := hb.size; have := h.lt; omega, fun j hj => cell_kept (h.cell j hj) hb, fun j => by rw [hb.frozen (p := ⟨g, j, none⟩) h.lt]; exact h.frozen j⟩

theorem toB_bs {w : World} {v : Value} {s : ByteArray} (hs : s.size ≤ 1048576) (h : BS w v s) :
    Calls Tryz.prog 46 #[v] w fun e w' => e = .returned (.slice (some ⟨w.heap.size, 0, none⟩) s.size s.size) ∧ BN w' w.heap.size s ∧ Below w.heap.size w w' := by
  obtain ⟨a, b, o, c, rfl, ha, hc⟩ := h
  exact (toB_any a b o c s w hs ha hc).mono fun e w' ⟨h1, h2, h3, _⟩ => ⟨h1, ⟨h2.lt, fun j hj => h2.cell hj, h2.frozen⟩, h3⟩

theorem eqB_bs {w : World} {v1 v2 : Value} {s t : ByteArray} (hs : s.size ≤ 1048576) (ht : t.size ≤ 1048576) (h1 : BS w v1 s) (h2 : BS w v2 t) :
    Calls Tryz.prog 63 #[v1, v2] w fun e w' => e = .returned (.bool (decide (s = t))) ∧ Below w.heap.size w w' := by
  obtain ⟨a1, b1, o1, c1, rfl, ha1, hc1⟩ := h1
  obtain ⟨a2, b2, o2, c2, rfl, ha2, hc2⟩ := h2
  exact (eqB_any a1 a2 b1 o1 c1 b2 o2 c2 s t w hs ht ha1 ha2 hc1 hc2).mono fun _ _ ⟨h1, n, h2⟩ => ⟨h1, by rw [h2]; exact below_drewN (Below.refl _ _) n⟩
theorem eqB_self {w : World} {v1 v2 : Value} {s : ByteArray} (hs : s.size ≤ 1048576) (h1 : BS w v1 s) (h2 : BS w v2 s) :
    Calls Tryz.prog 63 #[v1, v2] w fun e w' => e = .returned (.bool true) ∧ Below w.heap.size w w' := by
  have H := eqB_bs hs hs h1 h2
  rw [decide_eq_true (rfl : s = s)] at H
  exact H
end Go.Proofs.YtijdlbanfdhfnaaGreatDoor

namespace Go.Proofs.YtijdlbanfdhfnaaGreatDoor
open Go.RowKit

set_option maxHeartbeats 400000 in
set_option maxRecDepth 1000000 in
theorem szB_any (a : Option Addr) (n c : Nat) (left : Int) (w : World) (h0 : 0 ≤ left) (hl : left ≤ 1048576) (hn : (n : Int) ≤ 9223372036854775807) :
    Calls Tryz.prog 38 #[.slice a n c, .int .i64 left] w fun e w' => e = .returned (.int .i64 (szl n left)) ∧ w' = w := by
  have e1 : IntKind.i64.wrap (left - (n : Int)) = left - n := by rw [IntKind.wrap_i64]; omega
  by_cases c1 : left - (n : Int) < 0
  · have HZ : Hid (szl n left = -1) := by show _ = _; unfold szl; rw [if_pos c1]
    have d1 : decide (left - (n : Int) < 0) = true := decide_eq_true c1
    go_enter Tryz.func38, Tryz.ntmps38
    go_wp2
    go_ret
    exact ⟨by rw [HZ.out]; rfl, by trivial⟩
  · have HZ : Hid (szl n left = left - n) := by show _ = _; unfold szl; rw [if_neg c1]
    have d1 : decide (left - (n : Int) < 0) = false := decide_eq_false c1
    go_enter Tryz.func38, Tryz.ntmps38
    go_wp2
    go_ret
    exact ⟨by rw [HZ.out]; first | rfl | exact ret_int (by omega), by trivial⟩

end Go.Proofs.YtijdlbanfdhfnaaGreatDoor

namespace Go.Proofs.YtijdlbanfdhfnaaGreatDoor
open Go.RowKit

theorem toB_cp {w : World} {v : Value} {s : ByteArray} (hs : s.size ≤ 1048576) (h : BS w v s) :
    Calls Tryz.prog 46 #[v] w fun e w' => ∃ v', e = .returned v' ∧ (∀ G, G < w.heap.size → BO w' G v' s) ∧ Below w.heap.size w w' :=
  (toB_bs hs h).mono fun e w' ⟨h1, h2, h3⟩ => ⟨_, h1, fun G hG => ⟨w.heap.size, hG, h2.lt, rfl, h2.frozen, fun j hj => by rw [Nat.zero_add]; exact h2.cell j hj⟩, h3⟩
theorem szB_r {w : World} {v : Value} {s : ByteArray} {left : Int} (h0 : 0 ≤ left) (hl : left ≤ 1048576) (hn : (s.size : Int) ≤ 9223372036854775807) (h : BS w v s) :
    Calls Tryz.prog 38 #[v, .int .i64 left] w fun e w' => ∃ r, e = .returned (.int .i64 r) ∧ -1 ≤ r ∧ r ≤ left ∧ (0 ≤ r → s.size ≤ 1048576) ∧ Below w.heap.size w w' := by
  obtain ⟨a, _, _, c, rfl, _, _⟩ := h
  obtain ⟨k1, k2, k3⟩ := szl_le s.size left h0
  exact (szB_any a s.size c left w h0 hl hn).mono fun e w' ⟨h1, h2⟩ => ⟨_, h1, k1, k2, fun h => by have := k3 h; omega, by rw [h2]; exact Below.refl _ _⟩
end Go.Proofs.YtijdlbanfdhfnaaGreatDoor

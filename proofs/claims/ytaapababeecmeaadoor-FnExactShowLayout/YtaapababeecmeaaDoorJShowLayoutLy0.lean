/-
  A Layout in memory.
  The walk of toIntS.
  The walk of eqIntS, where both read as the same.
  The walk of szIntS.
  Numbers: toIntS, szIntS in the words of all kinds.
-/
import Derived.Test.YtaapababeecmeaaDoorJShowLayoutIN0
import Derived.Test.YtaapababeecmeaaDoorJShowLayoutTg0
import Derived.BigQuiet
import Derived.Deep.QuietTactic
import Derived.Deep.RegionWith
namespace Go.Proofs.YtaapababeecmeaaDoor
open Go.RowKit

/-- A Layout. -/
structure Ly where
  w : Int
  h : Int
  cost : List Int
  exits : List Int
  targets : List Tg
def Ly.zero : Ly := ⟨0, 0, [], [], []⟩
/-- Its value, with the slices that it holds. -/
def lyagg (d : Ly) (v2 v3 v4 : Value) : Value := .agg #[.int .i64 d.w, .int .i64 d.h, v2, v3, v4]
/-- Its slices read as its lists. -/
structure LyV (w : World) (d : Ly) (v2 v3 v4 : Value) : Prop where
  cost : IS w v2 d.cost
  exits : IS w v3 d.exits
  targets : TgS w v4 d.targets
theorem LyV.below {w w' : World} {d : Ly} {v2 v3 v4 : Value} (h : LyV w d v2 v3 v4) (hb : Below w.heap.size w w') : LyV w' d v2 v3 v4 := ⟨h.cost.below hb, h.exits.below hb, h.targets.below hb⟩
/-- Its lists are short. -/
structure LyB (d : Ly) : Prop where
  cost : d.cost.length ≤ 1048576
  exits : d.exits.length ≤ 1048576
  targets : TgSB d.targets
/-- Its lists have lengths that an int holds; its numbers are in their range. -/
structure LyL (d : Ly) : Prop where
  w : W64 d.w
  h : W64 d.h
  cost : IL d.cost
  exits : IL d.exits
  targets : TgSL d.targets
/-- Its slices are copies, in blocks behind G. -/
structure LyO (w : World) (G : Nat) (d : Ly) (v2 v3 v4 : Value) : Prop where
  cost : ICp w G v2 d.cost
  exits : ICp w G v3 d.exits
  targets : TgSO w G v4 d.targets
theorem LyO.rd {w : World} {G : Nat} {d : Ly} {v2 v3 v4 : Value} (h : LyO w G d v2 v3 v4) : LyV w d v2 v3 v4 := ⟨h.cost.is, h.exits.is, h.targets.rd⟩
theorem LyO.below {w w' : World} {G : Nat} {d : Ly} {v2 v3 v4 : Value} (h : LyO w G d v2 v3 v4) (hb : Below w.heap.size w w') : LyO w' G d v2 v3 v4 := ⟨h.cost.below hb, h.exits.below hb, h.targets.below hb⟩
theorem LyO.lower {w : World} {G G' : Nat} {d : Ly} {v2 v3 v4 : Value} (h : LyO w G d v2 v3 v4) (hG : G' ≤ G) : LyO w G' d v2 v3 v4 := ⟨h.cost.lower hG, h.exits.lower hG, h.targets.lower hG⟩
theorem LyO.setAt {w : World} {G G' k : Nat} {d : Ly} {v2 v3 v4 u : Value} (h : LyO w G d v2 v3 v4) (hG : G' ≤ G) : LyO (w.setCell ⟨G', k, none⟩ u) G d v2 v3 v4 := ⟨h.cost.setAt hG, h.exits.setAt hG, h.targets.setAt hG⟩
end Go.Proofs.YtaapababeecmeaaDoor

namespace Go.Proofs.YtaapababeecmeaaDoor
open Go.RowKit

set_option maxHeartbeats 400000 in
theorem toI_row (v : Value) (l : List Int) (w : World) (hs : l.length ≤ 1048576) (h : IS w v l) :
    Calls Tryd.prog 27 #[v] w fun e w' => (∃ c, e = .returned (.slice (some ⟨w.heap.size, 0, none⟩) l.length c) ∧ l.length ≤ c) ∧ w.heap.size < w'.heap.size ∧ Fz w' w.heap.size ∧ (∀ j, j < l.length → w'.cell? ⟨w.heap.size, j, none⟩ = some (.int .i64 (l.getD j 0))) ∧ Below w.heap.size w w' := by
  obtain ⟨a0, b, off, cap, rfl, ha, hc⟩ := h
  have hmk := run_make_row' (P := Tryd.prog) 22 3 (.int .i64 0) 8 Tryd.underlying22 (by kernel_rfl) rfl .i64 .i64 l.length (by omega) (by omega)
  have HC := hide hc
  clear hc
  go_enter Tryd.func27, Tryd.ntmps27
  go_wp2
  clear hmk
  go_loopw [4] (fun i wr => ∃ k : Nat, k ≤ l.length ∧ i = .int .i64 k ∧ wr.rowIs w.heap.size 3 l.length (fun j => if j < k then .int .i64 (l.getD j 0) else .int .i64 0) ∧ Below w.heap.size w wr ∧ wr.heap.size = w.heap.size + 1) (fun i _ => l.length - (intOf i).toNat)
  case atStart => exact ⟨0, Nat.zero_le _, rfl, (World.rowIs_made w _ l.length 3).congr (fun j _ => by simp), (Below.refl _ _).alloc (Nat.le_refl _) _, by simp⟩
  case round =>
    obtain ⟨k, hk, rfl, hrow, hbl, hsz⟩ := hrel
    by_cases hlt : k < l.length
    · obtain rfl := ha (by omega)
      have g0 : wr.cell? ⟨b, off + k, none⟩ = some (.int .i64 (l.getD k 0)) := cell_kept (HC.out k hlt) hbl
      have g1 : wr.cell? ⟨w.heap.size, k, none⟩ = some (.int .i64 0) := by rw [hrow.cell hlt]; simp
      have g2 : wr.frozen? ⟨w.heap.size, k, none⟩ = false := hrow.frozen k
      have HROW := hide hrow
      have HBL := hide hbl
      have HSZ := hide hsz
      obtain ⟨y, hy⟩ : ∃ y, l.getD k 0 = y := ⟨_, rfl⟩
      rw [hy] at g0
      have HY := hide hy
      clear hrow hbl hsz hy
      go_wp2
      go_roundw
      case rel => exact ⟨k + 1, by omega, by go_num, (HROW.out.set k _).congr (fun j _ => by
          by_cases e : j = k
          · subst e; simp [← HY.out]
          · rw [if_neg e]; by_cases hj : j < k
            · rw [if_pos hj, if_pos (by omega)]
            · rw [if_neg hj, if_neg (by omega)]), HBL.out.setCell (Nat.le_refl _) _, by simp [HSZ.out]⟩
      case measure => simp [intOf]; omega
    · go_wp2
      go_ret
      exact ⟨⟨_, rfl, Nat.le_refl _⟩, by omega, hrow.frozen, fun j hj => by rw [hrow.cell hj, if_pos (by omega)], hbl⟩
theorem toI_any (v : Value) (l : List Int) (w : World) (hs : l.length ≤ 1048576) (h : IS w v l) :
    Calls Tryd.prog 27 #[v] w fun e w' => ∃ v', e = .returned v' ∧ (∀ G, G < w.heap.size → ICp w' G v' l) ∧ Below w.heap.size w w' :=
  (toI_row v l w hs h).mono fun _ _ ⟨⟨c, he, _⟩, hlt, hf, hc, hb⟩ => ⟨_, he, fun _ hG => ⟨w.heap.size, c, hG, hlt, rfl, hf, fun j hj => by rw [Nat.zero_add]; exact hc j hj⟩, hb⟩
end Go.Proofs.YtaapababeecmeaaDoor

namespace Go.Proofs.YtaapababeecmeaaDoor
open Go.RowKit

set_option maxHeartbeats 400000 in
set_option maxRecDepth 1000000 in
theorem eqI_w {w : World} {v1 v2 : Value} {l : List Int} (hs : l.length ≤ 100000000) (h1 : IS w v1 l) (h2 : IS w v2 l) :
    Calls Tryd.prog 34 #[v1, v2] w fun e w' => e = .returned (.bool true) ∧ Below w.heap.size w w' := by
  obtain ⟨a1, b1, o1, c1, rfl, ha1, hc1⟩ := h1
  obtain ⟨a2, b2, o2, c2, rfl, ha2, hc2⟩ := h2
  have HC1 := hide hc1
  have HC2 := hide hc2
  clear hc1 hc2
  have hne : ((l.length : Int) != (l.length : Int)) = false := by simp
  go_enter Tryd.func34, Tryd.ntmps34
  go_wp2
  go_loopw [5] (fun i wr => ∃ k n : Nat, k ≤ l.length ∧ i = .int .i64 k ∧ wr = w.drewN n) (fun i _ => l.length - (intOf i).toNat)
  case atStart => exact ⟨0, 0, Nat.zero_le _, rfl, rfl⟩
  case round =>
    obtain ⟨k, n, hk, rfl, rfl⟩ := hrel
    by_cases hlt : k < l.length
    · obtain rfl := ha1 (by omega)
      obtain rfl := ha2 (by omega)
      have g1 := HC1.out k hlt
      have g2 := HC2.out k hlt
      obtain ⟨y, hy⟩ : ∃ y, l.getD k 0 = y := ⟨_, rfl⟩
      rw [hy] at g1 g2
      have hyy : (y != y) = false := by simp
      have hlti : (k : Int) < (l.length : Int) := by omega
      clear hy
      go_wp2
      go_region
      all_goals go_wp2
      all_goals
        go_roundw
        case rel => exact ⟨k + 1, _, by omega, by go_num, rfl⟩
        case measure => simp [intOf]; omega
    · have hge : ¬ (k : Int) < (l.length : Int) := by omega
      go_wp2
      go_ret
      exact ⟨rfl, below_drewN (Below.refl _ _) n⟩
theorem eqI_same {w : World} {v1 v2 : Value} {l : List Int} (hs : l.length ≤ 1048576) (h1 : IS w v1 l) (h2 : IS w v2 l) :
    Calls Tryd.prog 34 #[v1, v2] w fun e w' => e = .returned (.bool true) ∧ Below w.heap.size w w' := eqI_w (by omega) h1 h2

end Go.Proofs.YtaapababeecmeaaDoor

namespace Go.Proofs.YtaapababeecmeaaDoor
open Go.RowKit


set_option maxHeartbeats 400000 in
set_option maxRecDepth 1000000 in
theorem szI_any (a : Option Addr) (n c : Nat) (left : Int) (w : World) (h0 : 0 ≤ left) (hl : left ≤ 1048576) (hn : (n : Int) ≤ 9223372036854775807) :
    Calls Tryd.prog 22 #[.slice a n c, .int .i64 left] w fun e w' => e = .returned (.int .i64 (szl n left)) ∧ w' = w := by
  have e1 : IntKind.i64.wrap (left - (n : Int)) = left - n := by rw [IntKind.wrap_i64]; omega
  by_cases c1 : left - (n : Int) < 0
  · have HZ : Hid (szl n left = -1) := by show _ = _; unfold szl; rw [if_pos c1]
    have d1 : decide (left - (n : Int) < 0) = true := decide_eq_true c1
    go_enter Tryd.func22, Tryd.ntmps22
    go_wp2
    go_ret
    exact ⟨by rw [HZ.out]; rfl, by trivial⟩
  · have HZ : Hid (szl n left = left - n) := by show _ = _; unfold szl; rw [if_neg c1]
    have d1 : decide (left - (n : Int) < 0) = false := decide_eq_false c1
    go_enter Tryd.func22, Tryd.ntmps22
    go_wp2
    go_ret
    exact ⟨by rw [HZ.out]; first | rfl | exact ret_int (by omega), by trivial⟩

end Go.Proofs.YtaapababeecmeaaDoor

namespace Go.Proofs.YtaapababeecmeaaDoor
open Go.RowKit

theorem toI_cp {w : World} {v : Value} {l : List Int} (hs : l.length ≤ 1048576) (h : IS w v l) :
    Calls Tryd.prog 27 #[v] w fun e w' => ∃ v', e = .returned v' ∧ (∀ G, G < w.heap.size → ICp w' G v' l) ∧ Below w.heap.size w w' := toI_any v l w hs h
theorem szI_r {w : World} {v : Value} {l : List Int} {left : Int} (h0 : 0 ≤ left) (hl : left ≤ 1048576) (hn : (l.length : Int) ≤ 9223372036854775807) (h : IS w v l) :
    Calls Tryd.prog 22 #[v, .int .i64 left] w fun e w' => ∃ r, e = .returned (.int .i64 r) ∧ -1 ≤ r ∧ r ≤ left ∧ (0 ≤ r → l.length ≤ 1048576) ∧ Below w.heap.size w w' := by
  obtain ⟨a, _, _, c, rfl, _, _⟩ := h
  obtain ⟨k1, k2, k3⟩ := szl_le l.length left h0
  exact (szI_any a l.length c left w h0 hl hn).mono fun e w' ⟨h1, h2⟩ => ⟨_, h1, k1, k2, fun h => by have := k3 h; omega, by rw [h2]; exact Below.refl _ _⟩
theorem szI_l {w : World} {v : Value} {l : List Int} {left : Int} (h0 : 0 ≤ left) (hl : left ≤ 1048576) (hn : IL l) (h : IS w v l) :
    Calls Tryd.prog 22 #[v, .int .i64 left] w fun e w' => ∃ r, e = .returned (.int .i64 r) ∧ -1 ≤ r ∧ r ≤ left ∧ (0 ≤ r → l.length ≤ 1048576) ∧ Below w.heap.size w w' := szI_r h0 hl hn.len h
end Go.Proofs.YtaapababeecmeaaDoor

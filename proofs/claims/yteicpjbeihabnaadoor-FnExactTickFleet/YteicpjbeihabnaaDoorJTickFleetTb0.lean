/-
  A Tables in memory.
  The walk of toIntS.
-/
import Derived.Test.YteicpjbeihabnaaDoorJTickFleetIIS0
import Derived.Test.YteicpjbeihabnaaDoorJTickFleetB0
namespace Go.Proofs.YteicpjbeihabnaaDoor
open Go.RowKit

/-- A Tables. -/
structure Tb where
  w : Int
  h : Int
  targets : List Tg
  dist : List (List Int)
  hop : List (List Int)
def Tb.zero : Tb := ⟨0, 0, [], [], []⟩
/-- Its value, with the slices that it holds. -/
def tbagg (d : Tb) (v2 v3 v4 : Value) : Value := .agg #[.int .i64 d.w, .int .i64 d.h, v2, v3, v4]
/-- Its slices read as its lists. -/
structure TbV (w : World) (d : Tb) (v2 v3 v4 : Value) : Prop where
  targets : TgS w v2 d.targets
  dist : IIS w v3 d.dist
  hop : IIS w v4 d.hop
theorem TbV.below {w w' : World} {d : Tb} {v2 v3 v4 : Value} (h : TbV w d v2 v3 v4) (hb : Below w.heap.size w w') : TbV w' d v2 v3 v4 := ⟨h.targets.below hb, h.dist.below hb, h.hop.below hb⟩
/-- Its lists are short. -/
structure TbB (d : Tb) : Prop where
  targets : TgSB d.targets
  dist : IISB d.dist
  hop : IISB d.hop
/-- Its lists have lengths that an int holds; its numbers are in their range. -/
structure TbL (d : Tb) : Prop where
  w : W64 d.w
  h : W64 d.h
  targets : TgSL d.targets
  dist : IISL d.dist
  hop : IISL d.hop
/-- Its slices are copies, in blocks behind G. -/
structure TbO (w : World) (G : Nat) (d : Tb) (v2 v3 v4 : Value) : Prop where
  targets : TgSO w G v2 d.targets
  dist : IISO w G v3 d.dist
  hop : IISO w G v4 d.hop
theorem TbO.rd {w : World} {G : Nat} {d : Tb} {v2 v3 v4 : Value} (h : TbO w G d v2 v3 v4) : TbV w d v2 v3 v4 := ⟨h.targets.rd, h.dist.rd, h.hop.rd⟩
theorem TbO.below {w w' : World} {G : Nat} {d : Tb} {v2 v3 v4 : Value} (h : TbO w G d v2 v3 v4) (hb : Below w.heap.size w w') : TbO w' G d v2 v3 v4 := ⟨h.targets.below hb, h.dist.below hb, h.hop.below hb⟩
theorem TbO.lower {w : World} {G G' : Nat} {d : Tb} {v2 v3 v4 : Value} (h : TbO w G d v2 v3 v4) (hG : G' ≤ G) : TbO w G' d v2 v3 v4 := ⟨h.targets.lower hG, h.dist.lower hG, h.hop.lower hG⟩
theorem TbO.setAt {w : World} {G G' k : Nat} {d : Tb} {v2 v3 v4 u : Value} (h : TbO w G d v2 v3 v4) (hG : G' ≤ G) : TbO (w.setCell ⟨G', k, none⟩ u) G d v2 v3 v4 := ⟨h.targets.setAt hG, h.dist.setAt hG, h.hop.setAt hG⟩
end Go.Proofs.YteicpjbeihabnaaDoor

namespace Go.Proofs.YteicpjbeihabnaaDoor
open Go.RowKit

set_option maxHeartbeats 400000 in
theorem toI_row (v : Value) (l : List Int) (w : World) (hs : l.length ≤ 1048576) (h : IS w v l) :
    Calls Tryd.prog 67 #[v] w fun e w' => (∃ c, e = .returned (.slice (some ⟨w.heap.size, 0, none⟩) l.length c) ∧ l.length ≤ c) ∧ w.heap.size < w'.heap.size ∧ Fz w' w.heap.size ∧ (∀ j, j < l.length → w'.cell? ⟨w.heap.size, j, none⟩ = some (.int .i64 (l.getD j 0))) ∧ Below w.heap.size w w' := by
  obtain ⟨a0, b, off, cap, rfl, ha, hc⟩ := h
  have hmk := run_make_row' (P := Tryd.prog) 40 3 (.int .i64 0) 8 Tryd.underlying40 (by kernel_rfl) rfl .i64 .i64 l.length (by omega) (by omega)
  have HC := hide hc
  clear hc
  go_enter Tryd.func67, Tryd.ntmps67
  go_wp2
  clear hmk
  go_loopw [4] (fun i wr => ∃ k : Nat, k ≤ l.length ∧ i = .int .i64 k ∧ wr.rowIs w.heap.size 3 l.length (fun j => if j < k then .int .i64 (l.getD j 0) else .int .i64 0) ∧ Below w.heap.size w wr ∧ wr.heap.size = w.heap.size + 1) (fun i _ => l.length - (intOf i).toNat)
  case atStart => exact ⟨0, Nat.zero_le _, rfl, (World.rowIs_made w _ l.length 3).congr (fun j _ => by simp), (Below.refl _ _).alloc (Nat.le_refl _) _, by simp⟩
  case round =>
    obtain ⟨k, hk, rfl, hrow, hbl, hsz⟩ := hrel
    by_cases hlt : k < l.length
    · obtain rfl := ha (by omega)
      have g0 : wr.cell? ⟨b, off + k, none⟩ = some (.int .i64 (l.getD k 0)) := cell_kept (HC.out k hlt) hbl
      have g1 : wr.cell? ⟨w.heap.size, k, none⟩ = some (.int .i64 0) := by rw [hrow.cell hlt]; simp
      have g2 : wr.frozen? ⟨w.heap.size, k, none⟩ = false := hrow.frozen k
      have HROW := hide hrow
      have HBL := hide hbl
      have HSZ := hide hsz
      obtain ⟨y, hy⟩ : ∃ y, l.getD k 0 = y := ⟨_, rfl⟩
      rw [hy] at g0
      have HY := hide hy
      clear hrow hbl hsz hy
      go_wp2
      go_roundw
      case rel => exact ⟨k + 1, by omega, by go_num, (HROW.out.set k _).congr (fun j _ => by
          by_cases e : j = k
          · subst e; simp [← HY.out]
          · rw [if_neg e]; by_cases hj : j < k
            · rw [if_pos hj, if_pos (by omega)]
            · rw [if_neg hj, if_neg (by omega)]), HBL.out.setCell (Nat.le_refl _) _, by simp [HSZ.out]⟩
      case measure => simp [intOf]; omega
    · go_wp2
      go_ret
      exact ⟨⟨_, rfl, Nat.le_refl _⟩, by omega, hrow.frozen, fun j hj => by rw [hrow.cell hj, if_pos (by omega)], hbl⟩
theorem toI_any (v : Value) (l : List Int) (w : World) (hs : l.length ≤ 1048576) (h : IS w v l) :
    Calls Tryd.prog 67 #[v] w fun e w' => ∃ v', e = .returned v' ∧ (∀ G, G < w.heap.size → ICp w' G v' l) ∧ Below w.heap.size w w' :=
  (toI_row v l w hs h).mono fun _ _ ⟨⟨c, he, _⟩, hlt, hf, hc, hb⟩ => ⟨_, he, fun _ hG => ⟨w.heap.size, c, hG, hlt, rfl, hf, fun j hj => by rw [Nat.zero_add]; exact hc j hj⟩, hb⟩
end Go.Proofs.YteicpjbeihabnaaDoor

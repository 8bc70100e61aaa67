/-
  The walk of eqIntS, where both read as the same.
  The walk of szIntS.
  Numbers: toIntS, szIntS in the words of all kinds.
  The walk of toIntSS.
-/
import Derived.Test.YteicpjbeihabnaaDoorJRunFleetB0
import Derived.BigQuiet
import Derived.Deep.QuietTactic
import Derived.Deep.RegionWith
import Derived.Test.YteicpjbeihabnaaDoorJRunFleetIIS0
import Derived.Laws.MakeOwn
namespace Go.Proofs.YteicpjbeihabnaaDoor
open Go.RowKit

set_option maxHeartbeats 400000 in
set_option maxRecDepth 1000000 in
theorem eqI_w {w : World} {v1 v2 : Value} {l : List Int} (hs : l.length ≤ 100000000) (h1 : IS w v1 l) (h2 : IS w v2 l) :
    Calls Tryd.prog 20 #[v1, v2] w fun e w' => e = .returned (.bool true) ∧ Below w.heap.size w w' := by
  obtain ⟨a1, b1, o1, c1, rfl, ha1, hc1⟩ := h1
  obtain ⟨a2, b2, o2, c2, rfl, ha2, hc2⟩ := h2
  have HC1 := hide hc1
  have HC2 := hide hc2
  clear hc1 hc2
  have hne : ((l.length : Int) != (l.length : Int)) = false := by simp
  go_enter Tryd.func20, Tryd.ntmps20
  go_wp2
  go_loopw [5] (fun i wr => ∃ k n : Nat, k ≤ l.length ∧ i = .int .i64 k ∧ wr = w.drewN n) (fun i _ => l.length - (intOf i).toNat)
  case atStart => exact ⟨0, 0, Nat.zero_le _, rfl, rfl⟩
  case round =>
    obtain ⟨k, n, hk, rfl, rfl⟩ := hrel
    by_cases hlt : k < l.length
    · obtain rfl := ha1 (by omega)
      obtain rfl := ha2 (by omega)
      have g1 := HC1.out k hlt
      have g2 := HC2.out k hlt
      obtain ⟨y, hy⟩ : ∃ y, l.getD k 0 = y := ⟨_, rfl⟩
      rw [hy] at g1 g2
      have hyy : (y != y) = false := by simp
      have hlti : (k : Int) < (l.length : Int) := by omega
      clear hy
      go_wp2
      go_region
      all_goals go_wp2
      all_goals
        go_roundw
        case rel => exact ⟨k + 1, _, by omega, by go_num, rfl⟩
        case measure => simp [intOf]; omega
    · have hge : ¬ (k : Int) < (l.length : Int) := by omega
      go_wp2
      go_ret
      exact ⟨rfl, below_drewN (Below.refl _ _) n⟩
theorem eqI_same {w : World} {v1 v2 : Value} {l : List Int} (hs : l.length ≤ 1048576) (h1 : IS w v1 l) (h2 : IS w v2 l) :
    Calls Tryd.prog 20 #[v1, v2] w fun e w' => e = .returned (.bool true) ∧ Below w.heap.size w w' := eqI_w (by omega) h1 h2

end Go.Proofs.YteicpjbeihabnaaDoor

namespace Go.Proofs.YteicpjbeihabnaaDoor
open Go.RowKit


set_option maxHeartbeats 400000 in
set_option maxRecDepth 1000000 in
theorem szI_any (a : Option Addr) (n c : Nat) (left : Int) (w : World) (h0 : 0 ≤ left) (hl : left ≤ 1048576) (hn : (n : Int) ≤ 9223372036854775807) :
    Calls Tryd.prog 63 #[.slice a n c, .int .i64 left] w fun e w' => e = .returned (.int .i64 (szl n left)) ∧ w' = w := by
  have e1 : IntKind.i64.wrap (left - (n : Int)) = left - n := by rw [IntKind.wrap_i64]; omega
  by_cases c1 : left - (n : Int) < 0
  · have HZ : Hid (szl n left = -1) := by show _ = _; unfold szl; rw [if_pos c1]
    have d1 : decide (left - (n : Int) < 0) = true := decide_eq_true c1
    go_enter Tryd.func63, Tryd.ntmps63
    go_wp2
    go_ret
    exact ⟨by rw [HZ.out]; rfl, by trivial⟩
  · have HZ : Hid (szl n left = left - n) := by show _ = _; unfold szl; rw [if_neg c1]
    have d1 : decide (left - (n : Int) < 0) = false := decide_eq_false c1
    go_enter Tryd.func63, Tryd.ntmps63
    go_wp2
    go_ret
    exact ⟨by rw [HZ.out]; first | rfl | exact ret_int (by omega), by trivial⟩

end Go.Proofs.YteicpjbeihabnaaDoor

namespace Go.Proofs.YteicpjbeihabnaaDoor
open Go.RowKit

theorem toI_cp {w : World} {v : Value} {l : List Int} (hs : l.length ≤ 1048576) (h : IS w v l) :
    Calls Tryd.prog 67 #[v] w fun e w' => ∃ v', e = .returned v' ∧ (∀ G, G < w.heap.size → ICp w' G v' l) ∧ Below w.heap.size w w' := toI_any v l w hs h
theorem szI_r {w : World} {v : Value} {l : List Int} {left : Int} (h0 : 0 ≤ left) (hl : left ≤ 1048576) (hn : (l.length : Int) ≤ 9223372036854775807) (h : IS w v l) :
    Calls Tryd.prog 63 #[v, .int .i64 left] w fun e w' => ∃ r, e = .returned (.int .i64 r) ∧ -1 ≤ r ∧ r ≤ left ∧ (0 ≤ r → l.length ≤ 1048576) ∧ Below w.heap.size w w' := by
  obtain ⟨a, _, _, c, rfl, _, _⟩ := h
  obtain ⟨k1, k2, k3⟩ := szl_le l.length left h0
  exact (szI_any a l.length c left w h0 hl hn).mono fun e w' ⟨h1, h2⟩ => ⟨_, h1, k1, k2, fun h => by have := k3 h; omega, by rw [h2]; exact Below.refl _ _⟩
theorem szI_l {w : World} {v : Value} {l : List Int} {left : Int} (h0 : 0 ≤ left) (hl : left ≤ 1048576) (hn : IL l) (h : IS w v l) :
    Calls Tryd.prog 63 #[v, .int .i64 left] w fun e w' => ∃ r, e = .returned (.int .i64 r) ∧ -1 ≤ r ∧ r ≤ left ∧ (0 ≤ r → l.length ≤ 1048576) ∧ Below w.heap.size w w' := szI_r h0 hl hn.len h
end Go.Proofs.YteicpjbeihabnaaDoor

namespace Go.Proofs.YteicpjbeihabnaaDoor
open Go.RowKit

set_option maxHeartbeats 2000000 in
set_option maxRecDepth 1000000 in
theorem toIIS_cp {w : World} {v : Value} {L : List (List Int)} (hs : IISB L) (h : IIS w v L) :
    Calls Tryd.prog 42 #[v] w fun e w' => ∃ v', e = .returned v' ∧ (∀ G, G < w.heap.size → IISO w' G v' L) ∧ Below w.heap.size w w' := by
  obtain ⟨a0, b, off, cap, rfl, ha, hc⟩ := h
  obtain ⟨hs, hz⟩ := hs
  have hmk := run_make_row' (P := Tryd.prog) 23 40 (.slice none 0 0) 24 Tryd.underlying23 (by kernel_rfl) rfl .i64 .i64 L.length (by omega) (by omega)
  have HC := hide hc
  have HZ := hide hz
  clear hc hz
  go_enter Tryd.func42, Tryd.ntmps42
  go_wp2
  clear hmk
  go_loopw [4] (fun i wr => ∃ (k : Nat) (u : Nat → Value), k ≤ L.length ∧ i = .int .i64 k ∧ wr.rowIs w.heap.size 40 L.length (fun j => if j < k then u j else .slice none 0 0) ∧ (∀ j, j < k → ICp wr w.heap.size (u j) (L.getD j [])) ∧ Below w.heap.size w wr ∧ w.heap.size < wr.heap.size) (fun i _ => L.length - (intOf i).toNat)
  case atStart => exact ⟨0, fun _ => .slice none 0 0, Nat.zero_le _, rfl, (World.rowIs_made w _ L.length 40).congr (fun j _ => by simp), fun j hj => absurd hj (Nat.not_lt_zero _), (Below.refl _ _).alloc (Nat.le_refl _) _, by simp⟩
  case round =>
    obtain ⟨k, u, hk, rfl, hrow, hu, hbl, hsz⟩ := hrel
    have HROW := hide hrow
    have HU := hide hu
    have HBL := hide hbl
    by_cases hlt : k < L.length
    · obtain rfl := ha (by omega)
      obtain ⟨x, hx, hxs⟩ := HC.out k hlt
      have g0 : wr.cell? ⟨b, off + k, none⟩ = some x := cell_kept hx hbl
      obtain ⟨s, hs'⟩ : ∃ s, L.getD k [] = s := ⟨_, rfl⟩
      have hzs := HZ.out k hlt
      rw [hs'] at hxs hzs
      have HSK := hide hs'
      have HT := hide (toI_cp (w := wr) hzs (hxs.below hbl))
      obtain ⟨ax, cx, rfl⟩ := hxs.slice
      have d1 : decide ((k : Int) < (L.length : Int)) = true := decide_eq_true (by omega)
      clear hrow hu hbl hx hxs hs' hzs
      go_wp2_with fail
      refine HT.out.mono ?_
      rintro e w2 ⟨v2, rfl, hn2, hb2⟩
      have HR2 := hide (row_kept HROW.out hb2)
      have g1 : w2.cell? ⟨w.heap.size, k, none⟩ = some (.slice none 0 0) := by rw [HR2.out.cell hlt]; simp
      have g2 : w2.frozen? ⟨w.heap.size, k, none⟩ = false := HR2.out.frozen k
      have HB2 := hide hb2
      have HBW : Hid (Below w.heap.size w w2) := HBL.out.trans (hb2.mono HBL.out.size)
      have hn2' := hn2 w.heap.size hsz
      obtain ⟨gx, kx, rfl⟩ := hn2'.slice
      have HN := hide hn2'
      have hsz2 : w.heap.size < w2.heap.size := by have := hb2.size; omega
      clear hn2 hn2' hb2 HT
      go_wp2
      go_roundw
      case rel => exact ⟨k + 1, fun j => if j = k then .slice (some ⟨gx, 0, none⟩) s.length kx else u j, by omega, by go_num, (HR2.out.set k _).congr (fun j _ => by
          by_cases e : j = k
          · subst e; simp
          · rw [if_neg e]; by_cases hj : j < k
            · rw [if_pos hj, if_pos (by omega)]; show u j = if j = k then _ else u j; rw [if_neg e]
            · rw [if_neg hj, if_neg (by omega)]), fun j hj => by
          by_cases e : j = k
          · subst e; simp only [if_pos]; rw [HSK.out]; exact HN.out.setAt (Nat.le_refl _)
          · simp only [if_neg e]; exact ((HU.out j (by omega)).below HB2.out).setAt (Nat.le_refl _), HBW.out.setCell (Nat.le_refl _) _, by simp; omega⟩
      case measure => simp [intOf]; omega
    · have d1 : decide ((k : Int) < (L.length : Int)) = false := decide_eq_false (by omega)
      clear hrow hu hbl
      go_wp2
      go_ret
      exact ⟨_, rfl, fun G hG => ⟨w.heap.size, _, hG, hsz, rfl, HROW.out.frozen, fun j hj => ⟨u j, by rw [Nat.zero_add, HROW.out.cell hj, if_pos (by omega)], HU.out j (by omega)⟩⟩, HBL.out⟩
end Go.Proofs.YteicpjbeihabnaaDoor

/-
  The walks of toByteS and eqByteS.
-/
import Derived.Test.YteicpjbeihabnaaDoorJValidFleetB0
namespace Go.Proofs.YteicpjbeihabnaaDoor
open Go.RowKit

set_option maxHeartbeats 400000 in
theorem toB_any (a0 : Option Addr) (b off cap : Nat) (s : ByteArray) (w : World) (hs : s.size ≤ 1048576) (ha : 0 < s.size → a0 = some ⟨b, off, none⟩)
    (hc : ∀ j, j < s.size → w.cell? ⟨b, off + j, none⟩ = some (bts s j)) :
    Calls Tryd.prog 12 #[.slice a0 s.size cap] w fun e w' => e = .returned (.slice (some ⟨w.heap.size, 0, none⟩) s.size s.size) ∧ w'.rowIs w.heap.size 5 s.size (bts s) ∧ Below w.heap.size w w' ∧ w'.heap.size = w.heap.size + 1 := by
  have hmk := run_make_row' (P := Tryd.prog) 26 5 (.int .u8 0) 1 Tryd.underlying26 Tryd.info5 rfl .i64 .i64 s.size (by omega) (by omega)
  go_enter Tryd.func12, Tryd.ntmps12
  go_wp2
  clear hmk
  go_loopw [4] (fun i wr => ∃ k : Nat, k ≤ s.size ∧ i = .int .i64 k ∧ wr.rowIs w.heap.size 5 s.size (fun j => if j < k then bts s j else .int .u8 0) ∧ Below w.heap.size w wr ∧ wr.heap.size = w.heap.size + 1) (fun i _ => s.size - (intOf i).toNat)
  case atStart => exact ⟨0, Nat.zero_le _, rfl, (World.rowIs_made w _ s.size 5).congr (fun j _ => by simp), (Below.refl _ _).alloc (Nat.le_refl _) _, by simp⟩
  case round =>
    obtain ⟨k, hk, rfl, hrow, hbl, hsz⟩ := hrel
    by_cases hlt : k < s.size
    · obtain rfl := ha (by omega)
      have hb : b < w.heap.size := World.block_lt_of_cell? _ _ (hc k hlt)
      have hcb : bts s k = .int .u8 ((s.get! k).toNat : Int) := rfl
      have hbd : ((s.get! k).toNat : Int) < 256 := by have := (s.get! k).toNat_lt; omega
      have g0 : wr.cell? ⟨b, off + k, none⟩ = some (.int .u8 ((s.get! k).toNat : Int)) := by rw [hbl.cell (p := ⟨b, off + k, none⟩) hb]; exact hc k hlt
      have g1 : wr.cell? ⟨w.heap.size, k, none⟩ = some (.int .u8 0) := by rw [hrow.cell hlt]; simp
      have g2 : wr.frozen? ⟨w.heap.size, k, none⟩ = false := hrow.frozen k
      clear hcb
      go_wp2
      go_roundw
      case rel => exact ⟨k + 1, by omega, by go_num, (hrow.set k _).congr (fun j _ => by
          by_cases e : j = k
          · subst e; simp [bts]
          · rw [if_neg e]; by_cases hj : j < k
            · rw [if_pos hj, if_pos (by omega)]
            · rw [if_neg hj, if_neg (by omega)]), hbl.setCell (Nat.le_refl _) _, by simp [hsz]⟩
      case measure => simp [intOf]; omega
    · go_wp2
      go_ret
      exact ⟨rfl, hrow.congr (fun j hj => by rw [if_pos (by omega)]), hbl, hsz⟩

set_option maxHeartbeats 400000 in
theorem eqB_any (a1 a2 : Option Addr) (b1 o1 c1 b2 o2 c2 : Nat) (s t : ByteArray) (w : World) (hs : s.size ≤ 1048576) (_ht : t.size ≤ 1048576) (h1 : 0 < s.size → a1 = some ⟨b1, o1, none⟩) (h2 : 0 < t.size → a2 = some ⟨b2, o2, none⟩)
    (hc1 : ∀ j, j < s.size → w.cell? ⟨b1, o1 + j, none⟩ = some (bts s j)) (hc2 : ∀ j, j < t.size → w.cell? ⟨b2, o2 + j, none⟩ = some (bts t j)) :
    Calls Tryd.prog 15 #[.slice a1 s.size c1, .slice a2 t.size c2] w fun e w' => e = .returned (.bool (decide (s = t))) ∧ ∃ n, w' = w.drewN n := by
  by_cases hst : s.size = t.size
  · have hne : ((s.size : Int) != (t.size : Int)) = false := by rw [bne_eq_false_iff_eq]; omega
    have HST : Hid (s.size = t.size) := hst
    have hle : s.size ≤ t.size := by omega
    have hge : t.size ≤ s.size := by omega
    clear hst
    go_enter Tryd.func15, Tryd.ntmps15
    go_wp2
    go_loopw [5] (fun i wr => ∃ k n : Nat, k ≤ s.size ∧ i = .int .i64 k ∧ wr = w.drewN n ∧ ∀ j, j < k → s.get! j = t.get! j) (fun i _ => s.size - (intOf i).toNat)
    case atStart => exact ⟨0, 0, Nat.zero_le _, rfl, rfl, fun j hj => absurd hj (Nat.not_lt_zero _)⟩
    case round =>
      obtain ⟨k, n, hk, rfl, rfl, heq⟩ := hrel
      by_cases hlt : k < s.size
      · obtain rfl := h1 (by omega)
        obtain rfl := h2 (by omega)
        have HEQ : Hid (∀ j, j < k → s.get! j = t.get! j) := heq
        have g1 : w.cell? ⟨b1, o1 + k, none⟩ = some (.int .u8 ((s.get! k).toNat : Int)) := hc1 k hlt
        have g2 : w.cell? ⟨b2, o2 + k, none⟩ = some (.int .u8 ((t.get! k).toNat : Int)) := hc2 k (by omega)
        have hlt2 : k < t.size := by omega
        clear hc1 hc2 heq h1 h2
        by_cases hkk : s.get! k = t.get! k
        · have hbb : (((s.get! k).toNat : Int) != ((t.get! k).toNat : Int)) = false := by rw [hkk]; simp
          have HKK : Hid (s.get! k = t.get! k) := hkk
          clear hkk
          go_wp2
          go_region
          all_goals go_wp2
          all_goals
            go_roundw
            case rel => exact ⟨k + 1, _, by omega, by go_num, rfl, fun j hj => by
              by_cases e : j = k
              · rw [e]; exact HKK.out
              · exact HEQ.out j (by omega)⟩
            case measure => simp [intOf]; omega
        · have hbb : (((s.get! k).toNat : Int) != ((t.get! k).toNat : Int)) = true := by
            rw [bne_iff_ne]; intro e; exact hkk (UInt8.toNat_inj.1 (by omega))
          have HKK : Hid (¬ s.get! k = t.get! k) := hkk
          clear hkk
          go_wp2
          go_region
          all_goals go_wp2
          all_goals go_ret
          all_goals exact ⟨ret_bool (by symm; rw [decide_eq_false_iff_not]; intro e; exact HKK.out (by rw [e])), _, rfl⟩
      · go_wp2
        go_ret
        exact ⟨ret_bool (by symm; rw [decide_eq_true_iff]; exact ext_bytes HST.out (fun j hj => heq j (by omega))), n, rfl⟩
  · have hne : ((s.size : Int) != (t.size : Int)) = true := by rw [bne_iff_ne]; omega
    have HST : Hid (¬ s.size = t.size) := hst
    clear hst
    go_enter Tryd.func15, Tryd.ntmps15
    go_wp2
    go_ret
    exact ⟨ret_bool (by symm; rw [decide_eq_false_iff_not]; intro e; exact HST.out (by rw [e])), 0, rfl⟩

end Go.Proofs.YteicpjbeihabnaaDoor

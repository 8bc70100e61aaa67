/-
  The walks of heldByteS, and of eqByteS at slices that are alike.
-/
import Derived.Test.YtfldjcmobpcpoaaDoorJQuoteTextHM
namespace Go.Proofs.YtfldjcmobpcpoaaDoor
open Go.RowKit

set_option maxHeartbeats 400000 in
set_option maxRecDepth 1000000 in
theorem held_any (a0 : Option Addr) (b n cap k0 : Nat) (w : World) (hn : n ≤ 100000000) (hk0 : k0 ≤ 100000000) (ha : 0 < n → a0 = some ⟨b, 0, none⟩) (hc : ∀ j, j < n → w.cell? ⟨b, j, none⟩ = some (mrk (k0 + j))) :
    Calls Tryd.prog 14 #[.slice a0 n cap, .int .i64 k0] w fun e w' => e = .returned (.int .i64 (k0 + n : Nat)) ∧ w' = w := by
  have HC := hide hc
  clear hc
  go_enter Tryd.func14, Tryd.ntmps14
  go_wp2
  go_loop [1, 5] (fun kk i => ∃ m : Nat, m ≤ n ∧ i = .int .i64 m ∧ kk = .int .i64 (k0 + m : Nat)) (fun _ i => n - (intOf i).toNat)
  case atStart => exact ⟨0, Nat.zero_le _, rfl, rfl⟩
  case round =>
    obtain ⟨m, hm, rfl, rfl⟩ := hrel
    by_cases hlt : m < n
    · obtain rfl := ha (by omega)
      have g1 : w.cell? ⟨b, m, none⟩ = some (.int .u8 (((k0 : Int) + (m : Int)) % 256)) := by
        rw [HC.out m hlt]; unfold mrk; congr 2
      have hne : ((((k0 : Int) + (m : Int)) % 256) != (((k0 : Int) + (m : Int)) % 256)) = false := by simp
      go_wp2
      go_round
      case rel => exact ⟨m + 1, by omega, by go_num, by go_num⟩
      case measure => simp [intOf]; omega
    · have e : m = n := by omega
      subst e
      go_wp2
      go_ret
      exact ⟨rfl, rfl⟩

set_option maxHeartbeats 400000 in
/-- Two slices whose cells are alike are equal. -/
theorem eqS_any (a1 a2 : Option Addr) (b1 o1 c1 b2 o2 c2 n : Nat) (f : Nat → Int) (w : World) (hn : n ≤ 100000000) (h1 : 0 < n → a1 = some ⟨b1, o1, none⟩) (h2 : 0 < n → a2 = some ⟨b2, o2, none⟩)
    (hc1 : ∀ j, j < n → w.cell? ⟨b1, o1 + j, none⟩ = some (.int .u8 (f j))) (hc2 : ∀ j, j < n → w.cell? ⟨b2, o2 + j, none⟩ = some (.int .u8 (f j))) :
    Calls Tryd.prog 10 #[.slice a1 n c1, .slice a2 n c2] w fun e w' => e = .returned (.bool true) ∧ ∃ n, w' = w.drewN n := by
  have hne : ((n : Int) != (n : Int)) = false := by simp
  go_enter Tryd.func10, Tryd.ntmps10
  go_wp2
  go_loopw [5] (fun i wr => ∃ k m : Nat, k ≤ n ∧ i = .int .i64 k ∧ wr = w.drewN m) (fun i _ => n - (intOf i).toNat)
  case atStart => exact ⟨0, 0, Nat.zero_le _, rfl, rfl⟩
  case round =>
    obtain ⟨k, m, hk, rfl, rfl⟩ := hrel
    by_cases hlt : k < n
    · obtain rfl := h1 (by omega)
      obtain rfl := h2 (by omega)
      have g1 := hc1 k hlt
      have g2 := hc2 k hlt
      obtain ⟨y, hy⟩ : ∃ y, f k = y := ⟨_, rfl⟩
      rw [hy] at g1 g2
      have hbb : (y != y) = false := by simp
      clear hc1 hc2 h1 h2 hy
      go_wp2
      go_region
      all_goals go_wp2
      all_goals
        go_roundw
        case rel => exact ⟨k + 1, _, by omega, by go_num, rfl⟩
        case measure => simp [intOf]; omega
    · go_wp2
      go_ret
      exact ⟨rfl, m, rfl⟩
end Go.Proofs.YtfldjcmobpcpoaaDoor

/-
  heldBoolS at any slice.
-/
import Derived.Test.YtonhehndoifipabJReachBL0
namespace Go.Proofs.Ytonhehndoifipab
open Go.RowKit

set_option maxHeartbeats 400000 in
set_option maxRecDepth 1000000 in
theorem heldV_w (a0 : Option Addr) (b o n cap k0 : Nat) (w : World) (hn : n ≤ 100000000) (hk0 : k0 ≤ 1000000000000000000) (ha : 0 < n → a0 = some ⟨b, o, none⟩) (hc : ∀ j, j < n → w.cell? ⟨b, o + j, none⟩ = some (mkV (k0 + j))) :
    Calls Try.prog 15 #[.slice a0 n cap, .int .i64 k0] w fun e w' => e = .returned (.int .i64 (k0 + n : Nat)) ∧ w' = w := by
  have HC := hide hc
  clear hc
  go_enter Try.func15, Try.ntmps15
  go_wp2
  go_loop [1, 5] (fun kk i => ∃ m : Nat, m ≤ n ∧ i = .int .i64 m ∧ kk = .int .i64 (k0 + m : Nat)) (fun _ i => n - (intOf i).toNat)
  case atStart => exact ⟨0, Nat.zero_le _, rfl, rfl⟩
  case round =>
    obtain ⟨m, hm, rfl, rfl⟩ := hrel
    by_cases hlt : m < n
    · obtain rfl := ha (by omega)
      have hrm : ((k0 : Int) + (m : Int)).tmod 3 = (((k0 + m) % 3 : Nat) : Int) := by rw [← Int.natCast_add]; rfl
      obtain ⟨r, hr⟩ : ∃ r : Nat, (k0 + m) % 3 = r := ⟨_, rfl⟩
      rw [hr] at hrm
      obtain ⟨q, hq⟩ : ∃ q, ((r : Int) == 0) = q := ⟨_, rfl⟩
      have g1 : w.cell? ⟨b, o + m, none⟩ = some (.bool q) := by
        rw [HC.out m hlt]
        unfold mkV
        rw [hr, ← hq]
        congr 2
        rw [Bool.eq_iff_iff, beq_iff_eq, decide_eq_true_iff]
        omega
      have hne : (q != q) = false := by simp
      clear hr
      go_wp2
      go_round
      case rel => exact ⟨m + 1, by omega, by go_num, by go_num⟩
      case measure => simp [intOf]; omega
    · have e : m = n := by omega
      subst e
      go_wp2
      go_ret
      exact ⟨rfl, rfl⟩

theorem heldV_f {w : World} {v : Value} {n k : Nat} {bl : List Nat} (hs : n ≤ 100000000) (hk : k ≤ 1000000000000000000) (h : VM w v n k bl) :
    Calls Try.prog 15 #[v, .int .i64 (k : Nat)] w fun e w' => e = .returned (.int .i64 (k + n : Nat)) ∧ w' = w := by
  obtain ⟨a, b, o, c, rfl, h2, rfl, h3⟩ := h
  exact heldV_w a b o n c k w hs hk h2 h3
end Go.Proofs.Ytonhehndoifipab

/-
  The walks of spec.l1letter, spec.l1number, spec.l1run.
-/
import Derived.Test.YtfldjcmobpcpoaaDoorJLexLX
namespace Go.Proofs.YtfldjcmobpcpoaaDoor
open Go.RowKit

set_option maxHeartbeats 400000 in
set_option maxRecDepth 1000000 in
theorem letter_any (c : Nat) (w : World) (hc : c < 256) :
    Calls Tryd.prog 42 #[.int .u8 c] w fun e w' => e = .returned (.bool (isL c)) ∧ w' = w := by
  go_enter Tryd.func42, Tryd.ntmps42
  go_wp2
  all_goals go_ret
  all_goals exact ⟨ret_bool (by unfold isL; symm; first | (rw [decide_eq_true_iff]; omega) | (rw [decide_eq_false_iff_not]; omega) | (rw [Bool.eq_iff_iff]; simp; omega)), rfl⟩

set_option maxHeartbeats 400000 in
set_option maxRecDepth 1000000 in
theorem number_any (c : Nat) (w : World) (hc : c < 256) :
    Calls Tryd.prog 55 #[.int .u8 c] w fun e w' => e = .returned (.bool (isD c)) ∧ w' = w := by
  go_enter Tryd.func55, Tryd.ntmps55
  go_wp2
  all_goals go_ret
  all_goals exact ⟨ret_bool (by unfold isD; symm; first | (rw [decide_eq_true_iff]; omega) | (rw [decide_eq_false_iff_not]; omega) | (rw [decide_eq_decide]; omega)), rfl⟩

set_option maxHeartbeats 1000000 in
set_option maxRecDepth 1000000 in
theorem run_any (b off cap p : Nat) (s : ByteArray) (w : World) (hs : s.size ≤ 1048576) (hp : p ≤ s.size) (hc : ∀ j, j < s.size → w.cell? ⟨b, off + j, none⟩ = some (bts s j)) :
    Calls Tryd.prog 41 #[.slice (some ⟨b, off, none⟩) s.size cap, .int .i64 p] w fun e w' => e = .returned (.int .i64 (run s p)) ∧ w' = w := by
  have HC := hide hc
  clear hc
  go_enter Tryd.func41, Tryd.ntmps41
  go_wp2
  go_loopw [5] (fun ix wr => ∃ n : Nat, ix = .int .i64 n ∧ p + n ≤ s.size ∧ (∀ j, j < n → isR (s.get! (p + j)).toNat = true) ∧ wr = w) (fun ix _ => s.size - (intOf ix).toNat)
  case atStart => exact ⟨0, rfl, hp, fun j hj => absurd hj (Nat.not_lt_zero _), rfl⟩
  case round =>
    obtain ⟨n, rfl, hn, hall, rfl⟩ := hrel
    have HALL := hide hall
    clear hall
    by_cases hlt : p + n < s.size
    · have t0 : decide ((p : Int) + (n : Int) < (s.size : Int)) = true := decide_eq_true (by omega)
      have g1 : wr.cell? ⟨b, off + (p + n), none⟩ = some (.int .u8 ((s.get! (p + n)).toNat : Int)) := HC.out (p + n) hlt
      have b1 : (s.get! (p + n)).toNat < 256 := (s.get! (p + n)).toNat_lt
      obtain ⟨y, hy⟩ : ∃ y : Nat, (s.get! (p + n)).toNat = y := ⟨_, rfl⟩
      have HY := hide hy
      rw [hy] at g1 b1
      clear hy
      have HL := hide (fun w => letter_any y w b1)
      have HN := hide (fun w => number_any y w b1)
      cases hl : isL y with
      | true =>
        rw [hl] at HL
        have HR : Hid (isR (s.get! (p + n)).toNat = true) := by show _ = _; rw [HY.out, isR_iff]; exact .inl hl
        clear hl
        go_wp2_with fail
        refine (HL.out _).mono ?_
        rintro e w' ⟨rfl, rfl⟩
        go_wp2
        go_roundw
        case rel => exact ⟨n + 1, by go_num, by omega, fun j hj => by
          by_cases e : j = n
          · rw [e]; exact HR.out
          · exact HALL.out j (by omega), by first | rfl | trivial⟩
        case measure => simp [intOf]; omega
      | false =>
        rw [hl] at HL
        cases hd : isD y with
        | true =>
          rw [hd] at HN
          have HR : Hid (isR (s.get! (p + n)).toNat = true) := by show _ = _; rw [HY.out, isR_iff]; exact .inr hd
          clear hl hd
          go_wp2_with fail
          refine (HL.out _).mono ?_
          rintro e w' ⟨rfl, rfl⟩
          go_wp2_with fail
          refine (HN.out _).mono ?_
          rintro e w' ⟨rfl, rfl⟩
          go_wp2
          go_roundw
          case rel => exact ⟨n + 1, by go_num, by omega, fun j hj => by
            by_cases e : j = n
            · rw [e]; exact HR.out
            · exact HALL.out j (by omega), by first | rfl | trivial⟩
          case measure => simp [intOf]; omega
        | false =>
          rw [hd] at HN
          have HR : Hid (run s p = n) := run_is hn HALL.out (fun g => by
            rw [HY.out, isR_iff, hl, hd] at g
            rcases g.2 with h | h <;> cases h)
          clear hl hd
          go_wp2_with fail
          refine (HL.out _).mono ?_
          rintro e w' ⟨rfl, rfl⟩
          go_wp2_with fail
          refine (HN.out _).mono ?_
          rintro e w' ⟨rfl, rfl⟩
          go_wp2
          go_ret
          exact ⟨by rw [HR.out]; rfl, by first | rfl | trivial⟩
    · have t0 : decide ((p : Int) + (n : Int) < (s.size : Int)) = false := decide_eq_false (by omega)
      have HR : Hid (run s p = n) := run_is hn HALL.out (fun g => hlt g.1)
      go_wp2
      go_ret
      exact ⟨by rw [HR.out]; rfl, by first | rfl | trivial⟩
end Go.Proofs.YtfldjcmobpcpoaaDoor

/-
  The walks of spec.l1letter, spec.l1number, spec.l1run, spec.l1value, spec.l1blank.
-/
import Derived.Test.YtlkbnljbnahdbacDoorLX
namespace Go.Proofs.YtlkbnljbnahdbacDoor
open Go.RowKit

set_option maxHeartbeats 400000 in
set_option maxRecDepth 1000000 in
theorem letter_any (c : Nat) (w : World) (hc : c < 256) :
    Calls Tryd.prog 20 #[.int .u8 c] w fun e w' => e = .returned (.bool (isL c)) ∧ w' = w := by
  go_enter Tryd.func20, Tryd.ntmps20
  go_wp2
  all_goals go_ret
  all_goals exact ⟨ret_bool (by unfold isL; symm; first | (rw [decide_eq_true_iff]; omega) | (rw [decide_eq_false_iff_not]; omega) | (rw [Bool.eq_iff_iff]; simp; omega)), rfl⟩

set_option maxHeartbeats 400000 in
set_option maxRecDepth 1000000 in
theorem number_any (c : Nat) (w : World) (hc : c < 256) :
    Calls Tryd.prog 31 #[.int .u8 c] w fun e w' => e = .returned (.bool (isD c)) ∧ w' = w := by
  go_enter Tryd.func31, Tryd.ntmps31
  go_wp2
  all_goals go_ret
  all_goals exact ⟨ret_bool (by unfold isD; symm; first | (rw [decide_eq_true_iff]; omega) | (rw [decide_eq_false_iff_not]; omega) | (rw [decide_eq_decide]; omega)), rfl⟩

set_option maxHeartbeats 1000000 in
set_option maxRecDepth 1000000 in
theorem run_any (b off cap p : Nat) (s : ByteArray) (w : World) (hs : s.size ≤ 1048576) (hp : p ≤ s.size) (hc : ∀ j, j < s.size → w.cell? ⟨b, off + j, none⟩ = some (bts s j)) :
    Calls Tryd.prog 19 #[.slice (some ⟨b, off, none⟩) s.size cap, .int .i64 p] w fun e w' => e = .returned (.int .i64 (run s p)) ∧ w' = w := by
  have HC := hide hc
  clear hc
  go_enter Tryd.func19, Tryd.ntmps19
  go_wp2
  go_loopw [5] (fun ix wr => ∃ n : Nat, ix = .int .i64 n ∧ p + n ≤ s.size ∧ (∀ j, j < n → isR (s.get! (p + j)).toNat = true) ∧ wr = w) (fun ix _ => s.size - (intOf ix).toNat)
  case atStart => exact ⟨0, rfl, hp, fun j hj => absurd hj (Nat.not_lt_zero _), rfl⟩
  case round =>
    obtain ⟨n, rfl, hn, hall, rfl⟩ := hrel
    have HALL := hide hall
    clear hall
    by_cases hlt : p + n < s.size
    · have t0 : decide ((p : Int) + (n : Int) < (s.size : Int)) = true := decide_eq_true (by omega)
      have g1 : wr.cell? ⟨b, off + (p + n), none⟩ = some (.int .u8 ((s.get! (p + n)).toNat : Int)) := HC.out (p + n) hlt
      have b1 : (s.get! (p + n)).toNat < 256 := (s.get! (p + n)).toNat_lt
      obtain ⟨y, hy⟩ : ∃ y : Nat, (s.get! (p + n)).toNat = y := ⟨_, rfl⟩
      have HY := hide hy
      rw [hy] at g1 b1
      clear hy
      have HL := hide (fun w => letter_any y w b1)
      have HN := hide (fun w => number_any y w b1)
      cases hl : isL y with
      | true =>
        rw [hl] at HL
        have HR : Hid (isR (s.get! (p + n)).toNat = true) := by show _ = _; rw [HY.out, isR_iff]; exact .inl hl
        clear hl
        go_wp2_with fail
        refine (HL.out _).mono ?_
        rintro e w' ⟨rfl, rfl⟩
        go_wp2
        go_roundw
        case rel => exact ⟨n + 1, by go_num, by omega, fun j hj => by
          by_cases e : j = n
          · rw [e]; exact HR.out
          · exact HALL.out j (by omega), by first | rfl | trivial⟩
        case measure => simp [intOf]; omega
      | false =>
        rw [hl] at HL
        cases hd : isD y with
        | true =>
          rw [hd] at HN
          have HR : Hid (isR (s.get! (p + n)).toNat = true) := by show _ = _; rw [HY.out, isR_iff]; exact .inr hd
          clear hl hd
          go_wp2_with fail
          refine (HL.out _).mono ?_
          rintro e w' ⟨rfl, rfl⟩
          go_wp2_with fail
          refine (HN.out _).mono ?_
          rintro e w' ⟨rfl, rfl⟩
          go_wp2
          go_roundw
          case rel => exact ⟨n + 1, by go_num, by omega, fun j hj => by
            by_cases e : j = n
            · rw [e]; exact HR.out
            · exact HALL.out j (by omega), by first | rfl | trivial⟩
          case measure => simp [intOf]; omega
        | false =>
          rw [hd] at HN
          have HR : Hid (run s p = n) := run_is hn HALL.out (fun g => by
            rw [HY.out, isR_iff, hl, hd] at g
            rcases g.2 with h | h <;> cases h)
          clear hl hd
          go_wp2_with fail
          refine (HL.out _).mono ?_
          rintro e w' ⟨rfl, rfl⟩
          go_wp2_with fail
          refine (HN.out _).mono ?_
          rintro e w' ⟨rfl, rfl⟩
          go_wp2
          go_ret
          exact ⟨by rw [HR.out]; rfl, by first | rfl | trivial⟩
    · have t0 : decide ((p : Int) + (n : Int) < (s.size : Int)) = false := decide_eq_false (by omega)
      have HR : Hid (run s p = n) := run_is hn HALL.out (fun g => hlt g.1)
      go_wp2
      go_ret
      exact ⟨by rw [HR.out]; rfl, by first | rfl | trivial⟩

set_option maxHeartbeats 1000000 in
set_option maxRecDepth 1000000 in
theorem value_any (b off cap p k : Nat) (s : ByteArray) (w : World) (hs : s.size ≤ 1048576) (hk : p + k ≤ s.size) (hc : ∀ j, j < s.size → w.cell? ⟨b, off + j, none⟩ = some (bts s j)) :
    Calls Tryd.prog 22 #[.slice (some ⟨b, off + p, none⟩) k cap] w fun e w' => e = .returned (.int .i64 (nval s k p 0)) ∧ w' = w := by
  have HC := hide hc
  clear hc
  obtain ⟨R, hR⟩ : ∃ R, nval s k p 0 = R := ⟨_, rfl⟩
  have HR := hide hR
  rw [hR]
  clear hR
  go_enter Tryd.func22, Tryd.ntmps22
  go_wp2
  go_loopw [3, 4] (fun vx ix wr => ∃ V n : Nat, vx = .int .i64 V ∧ ix = .int .i64 n ∧ n ≤ k ∧ V ≤ 99999 ∧ nval s (k - n) (p + n) V = R ∧ wr = w) (fun _ ix _ => k - (intOf ix).toNat)
  case atStart => exact ⟨0, 0, rfl, rfl, Nat.zero_le _, by omega, HR.out, rfl⟩
  case round =>
    obtain ⟨V, n, rfl, rfl, hn, hV, hval, rfl⟩ := hrel
    have HVAL := hide hval
    clear hval
    by_cases hlt : n < k
    · have t0 : decide ((n : Int) < (k : Int)) = true := decide_eq_true (by omega)
      have g1 : wr.cell? ⟨b, off + p + n, none⟩ = some (.int .u8 ((s.get! (p + n)).toNat : Int)) := by rw [Nat.add_assoc]; exact HC.out (p + n) (by omega)
      have b1 : (s.get! (p + n)).toNat < 256 := (s.get! (p + n)).toNat_lt
      have HST : Hid (nval s (k - n) (p + n) V = if isD (s.get! (p + n)).toNat = true then (if 99999 < V * 10 + ((s.get! (p + n)).toNat - 48) then -1 else nval s (k - (n + 1)) (p + (n + 1)) (V * 10 + ((s.get! (p + n)).toNat - 48))) else -1) := by
        show _ = _
        obtain ⟨f, hf⟩ : ∃ f, k - n = f + 1 := ⟨k - n - 1, by omega⟩
        rw [hf, nval, show k - (n + 1) = f by omega, ← Nat.add_assoc]
      obtain ⟨y, hy⟩ : ∃ y : Nat, (s.get! (p + n)).toNat = y := ⟨_, rfl⟩
      rw [hy] at g1 b1 HST
      clear hy
      have HN := hide (fun w => number_any y w b1)
      cases hd : isD y with
      | true =>
        rw [hd] at HN
        have hd' := (isD_iff y).1 hd
        obtain ⟨D, hD⟩ : ∃ D : Nat, (y : Int) - 48 = (D : Int) := ⟨y - 48, by omega⟩
        have hD9 : (D : Int) ≤ 9 := by omega
        have hyD : y - 48 = D := by omega
        rw [if_pos hd, hyD] at HST
        have hVi : (V : Int) ≤ 99999 := by omega
        have hy1 : (48 : Int) ≤ (y : Int) := by omega
        have hy2 : (y : Int) ≤ 57 := by omega
        clear hd hd' hyD
        by_cases hb : 99999 < V * 10 + D
        · have t1 : decide ((99999 : Int) < (V : Int) * 10 + (D : Int)) = true := decide_eq_true (by omega)
          have HE : Hid (R = -1) := by show _ = _; rw [← HVAL.out, HST.out, if_pos hb]
          clear hb
          go_wp2_with fail
          refine (HN.out _).mono ?_
          rintro e w' ⟨rfl, rfl⟩
          go_wp2
          go_ret
          exact ⟨by rw [HE.out]; rfl, by first | rfl | trivial⟩
        · have t1 : decide ((99999 : Int) < (V : Int) * 10 + (D : Int)) = false := decide_eq_false (by omega)
          have HE : Hid (nval s (k - (n + 1)) (p + (n + 1)) (V * 10 + D) = R) := by show _ = _; rw [← HVAL.out, HST.out, if_neg hb]
          go_wp2_with fail
          refine (HN.out _).mono ?_
          rintro e w' ⟨rfl, rfl⟩
          go_wp2
          go_roundw
          case rel => exact ⟨V * 10 + D, n + 1, by go_num, by go_num, by omega, by omega, HE.out, by first | rfl | trivial⟩
          case measure => simp [intOf]; omega
      | false =>
        rw [hd] at HN
        have HE : Hid (R = -1) := by show _ = _; rw [← HVAL.out, HST.out, if_neg (by rw [hd]; decide)]
        clear hd
        go_wp2_with fail
        refine (HN.out _).mono ?_
        rintro e w' ⟨rfl, rfl⟩
        go_wp2
        go_ret
        exact ⟨by rw [HE.out]; rfl, by first | rfl | trivial⟩
    · have t0 : decide ((n : Int) < (k : Int)) = false := decide_eq_false (by omega)
      have HE : Hid (R = (V : Int)) := by show _ = _; rw [← HVAL.out, show k - n = 0 by omega]; rfl
      go_wp2
      go_ret
      exact ⟨by rw [HE.out]; rfl, by first | rfl | trivial⟩
end Go.Proofs.YtlkbnljbnahdbacDoor

/-
  The walk of spec.l1value.
-/
import Derived.Test.YtfldjcmobpcpoaaDoorJLexSX0
namespace Go.Proofs.YtfldjcmobpcpoaaDoor
open Go.RowKit

set_option maxHeartbeats 1000000 in
set_option maxRecDepth 1000000 in
theorem value_any (b off cap p k : Nat) (s : ByteArray) (w : World) (hs : s.size ≤ 1048576) (hk : p + k ≤ s.size) (hc : ∀ j, j < s.size → w.cell? ⟨b, off + j, none⟩ = some (bts s j)) :
    Calls Tryd.prog 44 #[.slice (some ⟨b, off + p, none⟩) k cap] w fun e w' => e = .returned (.int .i64 (nval s k p 0)) ∧ w' = w := by
  have HC := hide hc
  clear hc
  obtain ⟨R, hR⟩ : ∃ R, nval s k p 0 = R := ⟨_, rfl⟩
  have HR := hide hR
  rw [hR]
  clear hR
  go_enter Tryd.func44, Tryd.ntmps44
  go_wp2
  go_loopw [3, 4] (fun vx ix wr => ∃ V n : Nat, vx = .int .i64 V ∧ ix = .int .i64 n ∧ n ≤ k ∧ V ≤ 99999 ∧ nval s (k - n) (p + n) V = R ∧ wr = w) (fun _ ix _ => k - (intOf ix).toNat)
  case atStart => exact ⟨0, 0, rfl, rfl, Nat.zero_le _, by omega, HR.out, rfl⟩
  case round =>
    obtain ⟨V, n, rfl, rfl, hn, hV, hval, rfl⟩ := hrel
    have HVAL := hide hval
    clear hval
    by_cases hlt : n < k
    · have t0 : decide ((n : Int) < (k : Int)) = true := decide_eq_true (by omega)
      have g1 : wr.cell? ⟨b, off + p + n, none⟩ = some (.int .u8 ((s.get! (p + n)).toNat : Int)) := by rw [Nat.add_assoc]; exact HC.out (p + n) (by omega)
      have b1 : (s.get! (p + n)).toNat < 256 := (s.get! (p + n)).toNat_lt
      have HST : Hid (nval s (k - n) (p + n) V = if isD (s.get! (p + n)).toNat = true then (if 99999 < V * 10 + ((s.get! (p + n)).toNat - 48) then -1 else nval s (k - (n + 1)) (p + (n + 1)) (V * 10 + ((s.get! (p + n)).toNat - 48))) else -1) := by
        show _ = _
        obtain ⟨f, hf⟩ : ∃ f, k - n = f + 1 := ⟨k - n - 1, by omega⟩
        rw [hf, nval, show k - (n + 1) = f by omega, ← Nat.add_assoc]
      obtain ⟨y, hy⟩ : ∃ y : Nat, (s.get! (p + n)).toNat = y := ⟨_, rfl⟩
      rw [hy] at g1 b1 HST
      clear hy
      have HN := hide (fun w => number_any y w b1)
      cases hd : isD y with
      | true =>
        rw [hd] at HN
        have hd' := (isD_iff y).1 hd
        obtain ⟨D, hD⟩ : ∃ D : Nat, (y : Int) - 48 = (D : Int) := ⟨y - 48, by omega⟩
        have hD9 : (D : Int) ≤ 9 := by omega
        have hyD : y - 48 = D := by omega
        rw [if_pos hd, hyD] at HST
        have hVi : (V : Int) ≤ 99999 := by omega
        have hy1 : (48 : Int) ≤ (y : Int) := by omega
        have hy2 : (y : Int) ≤ 57 := by omega
        clear hd hd' hyD
        by_cases hb : 99999 < V * 10 + D
        · have t1 : decide ((99999 : Int) < (V : Int) * 10 + (D : Int)) = true := decide_eq_true (by omega)
          have HE : Hid (R = -1) := by show _ = _; rw [← HVAL.out, HST.out, if_pos hb]
          clear hb
          go_wp2_with fail
          refine (HN.out _).mono ?_
          rintro e w' ⟨rfl, rfl⟩
          go_wp2
          go_ret
          exact ⟨by rw [HE.out]; rfl, by first | rfl | trivial⟩
        · have t1 : decide ((99999 : Int) < (V : Int) * 10 + (D : Int)) = false := decide_eq_false (by omega)
          have HE : Hid (nval s (k - (n + 1)) (p + (n + 1)) (V * 10 + D) = R) := by show _ = _; rw [← HVAL.out, HST.out, if_neg hb]
          go_wp2_with fail
          refine (HN.out _).mono ?_
          rintro e w' ⟨rfl, rfl⟩
          go_wp2
          go_roundw
          case rel => exact ⟨V * 10 + D, n + 1, by go_num, by go_num, by omega, by omega, HE.out, by first | rfl | trivial⟩
          case measure => simp [intOf]; omega
      | false =>
        rw [hd] at HN
        have HE : Hid (R = -1) := by show _ = _; rw [← HVAL.out, HST.out, if_neg (by rw [hd]; decide)]
        clear hd
        go_wp2_with fail
        refine (HN.out _).mono ?_
        rintro e w' ⟨rfl, rfl⟩
        go_wp2
        go_ret
        exact ⟨by rw [HE.out]; rfl, by first | rfl | trivial⟩
    · have t0 : decide ((n : Int) < (k : Int)) = false := decide_eq_false (by omega)
      have HE : Hid (R = (V : Int)) := by show _ = _; rw [← HVAL.out, show k - n = 0 by omega]; rfl
      go_wp2
      go_ret
      exact ⟨by rw [HE.out]; rfl, by first | rfl | trivial⟩
end Go.Proofs.YtfldjcmobpcpoaaDoor

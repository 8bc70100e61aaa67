/-
  The walk of impl.Crc32.
-/
import Derived.Test.YtpnocklldlacjaaDoorJEncodeImagePH
import Derived.Laws.BitsAllLaws
namespace Go.Proofs.YtpnocklldlacjaaDoor
open Go.RowKit

set_option maxHeartbeats 1000000 in
set_option maxRecDepth 1000000 in
theorem implCrc_any (v : Value) (s : ByteArray) (w : World) (hs : s.size ≤ 1048576) (h : BS w v s) :
    Calls Tryd.prog 39 #[v] w fun e w' => e = .returned (.int .u32 (crc s : Nat)) ∧ Below w.heap.size w w' := by
  obtain ⟨a, b, o, c, rfl, ha, hc⟩ := h
  have HC := hide hc
  clear hc
  go_enter Tryd.func39, Tryd.ntmps39
  go_wp2
  go_loop [3, 9] (fun x ix => ∃ (k h : Nat), k ≤ s.size ∧ ix = .int .i64 k ∧ x = .int .u32 h ∧ h < 4294967296 ∧ crcF s (s.size - k) k h = crcF s s.size 0 4294967295) (fun _ ix => s.size - (intOf ix).toNat)
  case atStart => exact ⟨0, 4294967295, Nat.zero_le _, rfl, rfl, by omega, rfl⟩
  case round =>
    obtain ⟨k, h, hk, rfl, rfl, hh, hcr⟩ := hrel
    by_cases hlt : k < s.size
    · obtain rfl := ha (by omega)
      have g := HC.out k hlt
      unfold bts at g
      have hlti : (k : Int) < (s.size : Int) := by omega
      obtain ⟨y, hy⟩ : ∃ y, (s.get! k).toNat = y := ⟨_, rfl⟩
      have hyb : y < 256 := by rw [← hy]; exact UInt8.toNat_lt _
      rw [show s.size - k = (s.size - (k + 1)) + 1 by omega, crcF, hy] at hcr
      rw [hy] at g
      have HCR := hide hcr
      clear hcr hy
      have HX : Hid (bits .xor .u32 (h : Int) (y : Int) = ((h ^^^ y : Nat) : Int)) := u32_xor_nat h y hh (by omega)
      have hxl := xor_lt32 hh (show y < 4294967296 by omega)
      obtain ⟨z, hz⟩ : ∃ z, h ^^^ y = z := ⟨_, rfl⟩
      rw [hz] at HX hxl HCR
      clear hz
      go_wp2
      rw [HX.out]
      clear HX
      go_loop [3, 17] (fun x jx => ∃ (j q : Nat), j ≤ 8 ∧ jx = .int .i64 j ∧ x = .int .u32 q ∧ q < 4294967296 ∧ cK (8 - j) q = cK 8 z) (fun _ jx => 8 - (intOf jx).toNat)
      case atStart => exact ⟨0, z, by omega, rfl, rfl, hxl, rfl⟩
      case round =>
        obtain ⟨j, q, hj, rfl, rfl, hq, hck⟩ := hrel
        by_cases hj8 : j < 8
        · have hji : (j : Int) < 8 := by omega
          rw [show 8 - j = (8 - (j + 1)) + 1 by omega, cK] at hck
          have hq1 := c1_lt hq
          by_cases ho : q % 2 = 1
          · have t1 : ((q : Int) % 2 == 1) = true := by rw [beq_iff_eq]; omega
            have HX : Hid (bits .xor .u32 ((q : Int) / 2) 3988292384 = ((c1 q : Nat) : Int)) := by
              show _ = _
              have := u32_xor_nat (q / 2) 3988292384 (by omega) (by omega)
              unfold c1; rw [if_pos ho, ← this]; rfl
            have HCK := hide hck
            clear hck ho
            go_wp2
            rw [HX.out]
            go_round
            case rel => exact ⟨j + 1, c1 q, by omega, by go_num, rfl, hq1, HCK.out⟩
            case measure => simp [intOf]; omega
          · have t1 : ((q : Int) % 2 == 1) = false := by rw [beq_eq_false_iff_ne]; omega
            have HX : Hid ((q : Int) / 2 = ((c1 q : Nat) : Int)) := by show _ = _; unfold c1; rw [if_neg ho]; rfl
            have HCK := hide hck
            clear hck ho
            go_wp2
            rw [HX.out]
            go_round
            case rel => exact ⟨j + 1, c1 q, by omega, by go_num, rfl, hq1, HCK.out⟩
            case measure => simp [intOf]; omega
        · have hji : ¬ (j : Int) < 8 := by omega
          rw [show 8 - j = 0 by omega, cK] at hck
          rw [← hck] at HCR
          clear hck
          go_wp2
          go_round
          case rel => exact ⟨k + 1, q, by omega, by go_num, rfl, hq, HCR.out⟩
          case measure => simp [intOf]; omega
    · have hge : ¬ (k : Int) < (s.size : Int) := by omega
      rw [show s.size - k = 0 by omega, crcF] at hcr
      have HX : Hid (bits .xor .u32 (h : Int) 4294967295 = ((crc s : Nat) : Int)) := by
        show _ = _
        have := u32_xor_nat h 4294967295 hh (by omega)
        unfold crc; rw [← hcr]; exact this
      clear hcr
      go_wp2
      go_ret
      exact ⟨by rw [← HX.out]; rfl, Below.refl _ _⟩
end Go.Proofs.YtpnocklldlacjaaDoor

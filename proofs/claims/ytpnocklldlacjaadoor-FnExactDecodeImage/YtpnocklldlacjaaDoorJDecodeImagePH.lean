/-
  Plainly: hops as bits of bytes.
  The walk of spec.Crc32.
-/
import Derived.Test.YtpnocklldlacjaaDoorJDecodeImageTK
import Derived.Test.YtpnocklldlacjaaDoorJDecodeImageIN0
import Derived.Laws.BitsAllLaws
namespace Go.Proofs.YtpnocklldlacjaaDoor
open Go.RowKit

/-- A hop's three bits as a number. -/
def hpv (v : Int) : Nat := if v < 0 then 4 else v.toNat
/-- Bit m of all hops. -/
def hbit (L : List Int) (m : Nat) : Bool := hpv (L.getD (m / 3) 0) / 2 ^ (m % 3) % 2 == 1
/-- Byte j, of the first m bits. -/
def pb (L : List Int) : Nat → Nat → Nat
  | 0, _ => 0
  | m + 1, j => pb L m j + (if m / 8 = j ∧ hbit L m = true then 2 ^ (m % 8) else 0)
theorem pb_lt (L : List Int) (j : Nat) : ∀ m, pb L m j < 2 ^ (min 8 (m - 8 * j))
  | 0 => by unfold pb; exact Nat.pow_pos (by decide)
  | m + 1 => by
    have ih := pb_lt L j m
    unfold pb
    by_cases q : m / 8 = j ∧ hbit L m = true
    · rw [if_pos q]
      have e1 : min 8 (m - 8 * j) = m % 8 := by omega
      have e2 : min 8 (m + 1 - 8 * j) = m % 8 + 1 := by omega
      rw [e1] at ih
      rw [e2, Nat.pow_succ]
      omega
    · rw [if_neg q, Nat.add_zero]
      exact Nat.lt_of_lt_of_le ih (Nat.pow_le_pow_right (by decide) (by omega))
theorem pb_byte (L : List Int) (j m : Nat) : pb L m j < 256 := by
  have h := pb_lt L j m
  have : 2 ^ (min 8 (m - 8 * j)) ≤ 2 ^ 8 := Nat.pow_le_pow_right (by decide) (by omega)
  omega
theorem pb_room (L : List Int) (m : Nat) : pb L m (m / 8) < 2 ^ (m % 8) := by
  have h := pb_lt L (m / 8) m
  have e : min 8 (m - 8 * (m / 8)) = m % 8 := by omega
  rw [e] at h
  exact h
/-- All are hops. -/
def hGood (L : List Int) : Bool := L.all fun v => decide (-1 ≤ v) && decide (v ≤ 3)
theorem hGood_iff (L : List Int) : hGood L = true ↔ ∀ i, i < L.length → -1 ≤ L.getD i 0 ∧ L.getD i 0 ≤ 3 := by
  unfold hGood
  rw [List.all_eq_true]
  constructor
  · intro h i hi
    have := h (L.getD i 0) (by rw [List.getD_eq_getElem?_getD, List.getElem?_eq_getElem hi]; exact List.getElem_mem hi)
    rw [Bool.and_eq_true, decide_eq_true_iff, decide_eq_true_iff] at this
    exact this
  · intro h x hx
    obtain ⟨i, hi, rfl⟩ := List.getElem_of_mem hx
    have := h i hi
    rw [List.getD_eq_getElem?_getD, List.getElem?_eq_getElem hi] at this
    rw [Bool.and_eq_true, decide_eq_true_iff, decide_eq_true_iff]
    exact this
/-- The number of bytes. -/
def pkN (L : List Int) : Nat := (3 * L.length + 7) / 8
/-- The bytes, of the first m bits. -/
def pkL (L : List Int) (m : Nat) : List Nat := (List.range (pkN L)).map fun j => pb L m j
theorem pkL_len (L : List Int) (m : Nat) : (pkL L m).length = pkN L := by unfold pkL; simp
theorem pkL_at (L : List Int) (m : Nat) {j : Nat} (h : j < pkN L) : (pkL L m).getD j 0 = pb L m j := by
  unfold pkL
  rw [List.getD_eq_getElem?_getD, List.getElem?_map, List.getElem?_range h]
  rfl
theorem pkL_lo (L : List Int) (m : Nat) : Lo (pkL L m) := fun x hx => by
  unfold pkL at hx
  obtain ⟨j, _, rfl⟩ := List.mem_map.1 hx
  exact pb_byte L j m
/-- What PackHops answers. -/
def pkF (L : List Int) : ByteArray := if hGood L = true then byt (pkL L (3 * L.length)) else ByteArray.empty
def pkC (L : List Int) : Int := if hGood L = true then 0 else 1
theorem pkF_no {L : List Int} (h : ¬ hGood L = true) : pkF L = ByteArray.empty := if_neg h
theorem pkC_no {L : List Int} (h : ¬ hGood L = true) : pkC L = 1 := if_neg h
theorem pkF_yes {L : List Int} (h : hGood L = true) : pkF L = byt (pkL L (3 * L.length)) := if_pos h
theorem pkC_yes {L : List Int} (h : hGood L = true) : pkC L = 0 := if_pos h
theorem pkF_size (L : List Int) (h : L.length ≤ 1048576) : (pkF L).size ≤ 1048576 := by
  unfold pkF
  split
  · rw [byt_size, pkL_len]; unfold pkN; omega
  · exact Nat.zero_le _
theorem bs_nil (w : World) (c : Nat) : BS w (.slice none 0 c) ByteArray.empty := ⟨none, 0, 0, c, rfl, fun h => absurd h (by decide), fun j hj => absurd hj (Nat.not_lt_zero _)⟩
/-- A text in new blocks. -/
def BNw (w w' : World) (v : Value) (s : ByteArray) : Prop := ∃ bl, BF w' v s bl ∧ Fr w w' bl
theorem bf_nil (w : World) (c : Nat) : BF w (.slice none 0 c) ByteArray.empty [] := ⟨none, 0, 0, c, rfl, fun h => absurd h (by decide), rfl, fun j hj => absurd hj (Nat.not_lt_zero _)⟩
/-- A made row that holds the bytes of a list reads as its text. -/
theorem row_bs {w : World} {B n c : Nat} {l : List Nat} (hl : l.length = n) (hlo : Lo l) (h : w.rowIs B 5 n (fun j => .int .u8 (l.getD j 0 : Nat))) : BS w (.slice (some ⟨B, 0, none⟩) n c) (byt l) :=
  ⟨_, B, 0, c, by rw [byt_size, hl], fun _ => rfl, fun j hj => by rw [byt_size] at hj; rw [Nat.zero_add, byt_bts hlo hj]; exact h.cell (by omega)⟩
theorem row_bf {w w0 : World} {B n c : Nat} {l : List Nat} (hl : l.length = n) (hlo : Lo l) (h : w.rowIs B 5 n (fun j => .int .u8 (l.getD j 0 : Nat))) (hB : w0.heap.size ≤ B) (hlt : B < w.heap.size) : ∃ bl, BF w (.slice (some ⟨B, 0, none⟩) n c) (byt l) bl ∧ Fr w0 w bl := by
  by_cases h0 : 0 < l.length
  · exact ⟨[B], ⟨_, B, 0, c, by rw [byt_size, hl], fun _ => rfl, by rw [byt_size, if_pos h0], fun j hj => by rw [byt_size] at hj; rw [Nat.zero_add, byt_bts hlo hj]; exact ⟨h.cell (by omega), h.frozen j⟩⟩, Fr.one hB hlt true⟩
  · exact ⟨[], ⟨_, B, 0, c, by rw [byt_size, hl], fun _ => rfl, by rw [byt_size, if_neg h0], fun j hj => by rw [byt_size] at hj; omega⟩, ⟨List.nodup_nil, (fun x hx => nomatch hx), (fun x hx => nomatch hx)⟩⟩
end Go.Proofs.YtpnocklldlacjaaDoor

namespace Go.Proofs.YtpnocklldlacjaaDoor
open Go.RowKit

/-- One bit of the checksum. -/
def c1 (h : Nat) : Nat := if h % 2 = 1 then (h / 2) ^^^ 3988292384 else h / 2
/-- k bits. -/
def cK : Nat → Nat → Nat
  | 0, h => h
  | k + 1, h => cK k (c1 h)
/-- n bytes from i on. -/
def crcF (s : ByteArray) : Nat → Nat → Nat → Nat
  | 0, _, h => h
  | n + 1, i, h => crcF s n (i + 1) (cK 8 (h ^^^ (s.get! i).toNat))
/-- The checksum. -/
def crc (s : ByteArray) : Nat := crcF s s.size 0 4294967295 ^^^ 4294967295

theorem xor_lt32 {a b : Nat} (ha : a < 4294967296) (hb : b < 4294967296) : a ^^^ b < 4294967296 := Nat.xor_lt_two_pow (n := 32) ha hb
theorem c1_lt {h : Nat} (hh : h < 4294967296) : c1 h < 4294967296 := by
  unfold c1; split
  · exact xor_lt32 (by omega) (by omega)
  · omega
theorem cK_lt : ∀ (k : Nat) {h : Nat}, h < 4294967296 → cK k h < 4294967296
  | 0, _, hh => hh
  | k + 1, _, hh => cK_lt k (c1_lt hh)

theorem crcF_lt (s : ByteArray) : ∀ (n i : Nat) {h : Nat}, h < 4294967296 → crcF s n i h < 4294967296
  | 0, _, _, hh => hh
  | n + 1, i, h, hh => crcF_lt s n (i + 1) (cK_lt 8 (xor_lt32 hh (by have := UInt8.toNat_lt (s.get! i); omega)))
theorem crc_lt (s : ByteArray) : crc s < 4294967296 := xor_lt32 (crcF_lt s _ _ (by decide)) (by decide)

set_option maxHeartbeats 1000000 in
set_option maxRecDepth 1000000 in
theorem specCrc_any (v : Value) (s : ByteArray) (w : World) (hs : s.size ≤ 1048576) (h : BS w v s) :
    Calls Tryd.prog 63 #[v] w fun e w' => e = .returned (.int .u32 (crc s : Nat)) ∧ w' = w := by
  obtain ⟨a, b, o, c, rfl, ha, hc⟩ := h
  have HC := hide hc
  clear hc
  go_enter Tryd.func63, Tryd.ntmps63
  go_wp2
  go_loop [3, 4] (fun x ix => ∃ (k h : Nat), k ≤ s.size ∧ ix = .int .i64 k ∧ x = .int .u32 h ∧ h < 4294967296 ∧ crcF s (s.size - k) k h = crcF s s.size 0 4294967295) (fun _ ix => s.size - (intOf ix).toNat)
  case atStart => exact ⟨0, 4294967295, Nat.zero_le _, rfl, rfl, by omega, rfl⟩
  case round =>
    obtain ⟨k, h, hk, rfl, rfl, hh, hcr⟩ := hrel
    by_cases hlt : k < s.size
    · obtain rfl := ha (by omega)
      have g := HC.out k hlt
      unfold bts at g
      have hlti : (k : Int) < (s.size : Int) := by omega
      obtain ⟨y, hy⟩ : ∃ y, (s.get! k).toNat = y := ⟨_, rfl⟩
      have hyb : y < 256 := by rw [← hy]; exact UInt8.toNat_lt _
      rw [show s.size - k = (s.size - (k + 1)) + 1 by omega, crcF, hy] at hcr
      rw [hy] at g
      have HCR := hide hcr
      clear hcr hy
      have HX : Hid (bits .xor .u32 (h : Int) (y : Int) = ((h ^^^ y : Nat) : Int)) := u32_xor_nat h y hh (by omega)
      have hxl := xor_lt32 hh (show y < 4294967296 by omega)
      obtain ⟨z, hz⟩ : ∃ z, h ^^^ y = z := ⟨_, rfl⟩
      rw [hz] at HX hxl HCR
      clear hz
      go_wp2
      rw [HX.out]
      clear HX
      go_loop [3, 5] (fun x jx => ∃ (j q : Nat), j ≤ 8 ∧ jx = .int .i64 j ∧ x = .int .u32 q ∧ q < 4294967296 ∧ cK (8 - j) q = cK 8 z) (fun _ jx => 8 - (intOf jx).toNat)
      case atStart => exact ⟨0, z, by omega, rfl, rfl, hxl, rfl⟩
      case round =>
        obtain ⟨j, q, hj, rfl, rfl, hq, hck⟩ := hrel
        by_cases hj8 : j < 8
        · have hji : (j : Int) < 8 := by omega
          rw [show 8 - j = (8 - (j + 1)) + 1 by omega, cK] at hck
          have hq1 := c1_lt hq
          by_cases ho : q % 2 = 1
          · have t1 : ((q : Int) % 2 == 1) = true := by rw [beq_iff_eq]; omega
            have HX : Hid (bits .xor .u32 ((q : Int) / 2) 3988292384 = ((c1 q : Nat) : Int)) := by
              show _ = _
              have := u32_xor_nat (q / 2) 3988292384 (by omega) (by omega)
              unfold c1; rw [if_pos ho, ← this]; rfl
            have HCK := hide hck
            clear hck ho
            go_wp2
            rw [HX.out]
            go_round
            case rel => exact ⟨j + 1, c1 q, by omega, by go_num, rfl, hq1, HCK.out⟩
            case measure => simp [intOf]; omega
          · have t1 : ((q : Int) % 2 == 1) = false := by rw [beq_eq_false_iff_ne]; omega
            have HX : Hid ((q : Int) / 2 = ((c1 q : Nat) : Int)) := by show _ = _; unfold c1; rw [if_neg ho]; rfl
            have HCK := hide hck
            clear hck ho
            go_wp2
            rw [HX.out]
            go_round
            case rel => exact ⟨j + 1, c1 q, by omega, by go_num, rfl, hq1, HCK.out⟩
            case measure => simp [intOf]; omega
        · have hji : ¬ (j : Int) < 8 := by omega
          rw [show 8 - j = 0 by omega, cK] at hck
          rw [← hck] at HCR
          clear hck
          go_wp2
          go_round
          case rel => exact ⟨k + 1, q, by omega, by go_num, rfl, hq, HCR.out⟩
          case measure => simp [intOf]; omega
    · have hge : ¬ (k : Int) < (s.size : Int) := by omega
      rw [show s.size - k = 0 by omega, crcF] at hcr
      have HX : Hid (bits .xor .u32 (h : Int) 4294967295 = ((crc s : Nat) : Int)) := by
        show _ = _
        have := u32_xor_nat h 4294967295 hh (by omega)
        unfold crc; rw [← hcr]; exact this
      clear hcr
      go_wp2
      go_ret
      exact ⟨by rw [← HX.out]; rfl, rfl⟩
end Go.Proofs.YtpnocklldlacjaaDoor

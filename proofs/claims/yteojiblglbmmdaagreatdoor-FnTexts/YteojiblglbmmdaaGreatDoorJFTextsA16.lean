/-
  The walks of internal/strconv.lower and of internal/strconv.ParseUint at base 16, 32 bits, at most six bytes.
-/
import Derived.Test.YteojiblglbmmdaaGreatDoorJFTextsAP
import Derived.Test.YteojiblglbmmdaaGreatDoorJFTextsY
import Derived.Lib.ConvBytes
import Derived.Shelf.Unicode.DecodeSlow
namespace Go.Proofs.YteojiblglbmmdaaGreatDoor
open Go.RowKit

def lowN (c : Nat) : Nat := if c / 32 % 2 = 1 then c else c + 32
theorem or32 : ∀ c : Fin 256, bits BinOp.or IntKind.u8 ((c.val : Nat) : Int) 32 = ((lowN c.val : Nat) : Int) := by decide +kernel
theorem cls : ∀ c : Fin 256, ¬ (48 ≤ c.val ∧ c.val ≤ 57) → (if 97 ≤ lowN c.val ∧ lowN c.val ≤ 122 then (if lowN c.val - 87 < 16 then hd c.val = ((lowN c.val - 87 : Nat) : Int) else hd c.val = -1) else hd c.val = -1) := by decide +kernel

set_option maxHeartbeats 400000 in
set_option maxRecDepth 1000000 in
theorem lower_any (c : Nat) (w : World) (hc : c < 256) : Calls Tryz.prog 87 #[.int .u8 c] w fun e w' => e = .returned (.int .u8 (lowN c : Nat)) ∧ w' = w := by
  have h := or32 ⟨c, hc⟩
  simp only at h
  go_enter Tryz.func87, Tryz.ntmps87
  go_wp2
  go_ret
  exact ⟨rfl, rfl⟩

theorem lowN_lt {c : Nat} (h : c < 256) : lowN c < 256 := by unfold lowN; split <;> omega

/-- What the bytes before k write is below 2 to the 28th. -/
theorem hv_small (s : ByteArray) (k : Nat) (hk : k ≤ 6) : hv s 0 k < 16777216 := by
  have h := hv_lt s 0 k
  have : 16 ^ k ≤ 16 ^ 6 := Nat.pow_le_pow_right (by omega) hk
  omega

def puRes (s : ByteArray) (j0 : Nat) : Value := if j0 = s.size then .tuple #[.int .u64 (hv s 0 s.size), .nilIface] else .tuple #[.int .u64 0, .iface 98 (.int .i64 2)]
theorem puRes_ok {s : ByteArray} {j0 k V : Nat} (h : j0 = s.size) (hk : k = s.size) (hv' : hv s 0 k = V) : puRes s j0 = .tuple #[.int .u64 V, .nilIface] := by unfold puRes; rw [if_pos h, ← hk, hv']
theorem puRes_no {s : ByteArray} {j0 : Nat} (h : j0 ≠ s.size) : puRes s j0 = .tuple #[.int .u64 0, .iface 98 (.int .i64 2)] := by unfold puRes; rw [if_neg h]

set_option maxHeartbeats 1000000 in
set_option maxRecDepth 1000000 in
/-- Digits alone up to j0; there they end, by the text's end or by a byte that is none. -/
theorem pu16_any (s : ByteArray) (w : World) (j0 : Nat) (h1 : 1 ≤ s.size) (h6 : s.size ≤ 6) (hj : j0 ≤ s.size) (hall : ∀ j, j < j0 → 0 ≤ hd (s.get! j).toNat) (hend : j0 = s.size ∨ hd (s.get! j0).toNat = -1) :
    Calls Tryz.prog 77 #[.string s, .int .i64 16, .int .i64 32] w fun e w' => e = .returned (puRes s j0) ∧ Below w.heap.size w w' := by
  have hne : s.toList.isEmpty = false := by
    rw [Lib.toList_data]
    cases h : s.data.toList with
    | nil => exact absurd (by rw [Lib.size_eq, h]; rfl) (show ¬ s.size = 0 by omega)
    | cons _ _ => rfl
  have hcv := Lib.run_convert_string_bytes (P := Tryz.prog) w 9 22 5 s Tryz.underlying9 Tryz.underlying22 Tryz.underlying5
  have HB : Hid (Below w.heap.size w (Lib.bytesWorld w 5 s)) := ⟨rfl, rfl, rfl, by rw [Lib.bytesWorld_size]; omega, fun j hj => Lib.bytesWorld_at_old w 5 s j hj⟩
  have HC : Hid (∀ j, j < s.size → (Lib.bytesWorld w 5 s).cell? ⟨w.heap.size, j, none⟩ = some (.int .u8 ((s.get! j).toNat : Int))) := fun j hj => by
    rw [Lib.bytesWorld_cell w 5 s j hj, Utf8W.get!_of_lt s j hj]
    have h' : j < s.data.size := hj
    simp only [List.getD]
    rw [Array.getElem?_toList, Array.getElem?_eq_getElem h']
    rfl
  have HALL := hide hall
  have HEND := hide hend
  generalize Lib.bytesWorld w 5 s = w1 at *
  generalize grownCap w s.size 0 5 = cc at *
  clear hall hend
  go_enter Tryz.func77, Tryz.ntmps77
  go_wp2_with fail
  clear hcv hne
  go_loopw [12, 13, 101] (fun us n ix wr => ∃ k : Nat, k ≤ j0 ∧ us = .bool false ∧ ix = .int .i64 k ∧ n = .int .u64 (hv s 0 k) ∧ wr = w1) (fun _ _ ix _ => s.size - (intOf ix).toNat)
  case atStart => exact ⟨0, Nat.zero_le _, rfl, rfl, rfl, rfl⟩
  case round =>
    obtain ⟨k, hk, rfl, rfl, rfl, rfl⟩ := hrel
    have hvl := hv_small s k (by omega)
    obtain ⟨V, hV⟩ : ∃ V, hv s 0 k = V := ⟨_, rfl⟩
    have HV := hide hV
    rw [hV] at hvl ⊢
    clear hV
    by_cases hlt : k < s.size
    · have g1 := HC.out k hlt
      have b1 : (s.get! k).toNat < 256 := (s.get! k).toNat_lt
      have HH : Hid (k < j0 → 0 ≤ hd (s.get! k).toNat) := fun h => HALL.out k h
      have HH2 : Hid (k = j0 → hd (s.get! k).toNat = -1) := fun h => by
        rcases HEND.out with e | e
        · omega
        · rw [h]; exact e
      have HVN : Hid (hv s 0 (k + 1) = V * 16 + (hd (s.get! k).toNat).toNat) := by show _ = _; rw [hv, HV.out, Nat.zero_add]
      obtain ⟨y, hy⟩ : ∃ y : Nat, (s.get! k).toNat = y := ⟨_, rfl⟩
      rw [hy] at g1 b1 HH HH2 HVN
      clear hy
      have HLOW := hide (fun w => lower_any y w b1)
      have hll := lowN_lt b1
      have HCLS := hide (cls ⟨y, b1⟩)
      by_cases hdig : 48 ≤ y ∧ y ≤ 57
      · have hhd : hd y = (y : Int) - 48 := by unfold hd; rw [if_pos hdig]
        have hkj : k < j0 := by
          rcases Nat.lt_or_ge k j0 with h | h
          · exact h
          · have := HH2.out (by omega); omega
        have HVN' : Hid ((hv s 0 (k + 1) : Int) = (V : Int) * 16 + ((y : Int) - 48)) := by show _ = _; rw [HVN.out, hhd]; omega
        obtain ⟨hd1, hd2⟩ := hdig
        clear hhd HCLS HLOW
        have c1 : (48 : Int) ≤ (y : Int) := by omega
        have c2 : (y : Int) ≤ 57 := by omega
        have c3 : ((y : Int) == 95) = false := by rw [beq_eq_false_iff_ne]; omega
        obtain ⟨D, hD⟩ : ∃ D : Nat, (y : Int) - 48 = (D : Int) := ⟨y - 48, by omega⟩
        have hD9 : (D : Int) ≤ 9 := by omega
        have t0 : decide ((16 : Int) ≤ (D : Int)) = false := decide_eq_false (by omega)
        have t1 : decide ((1152921504606846976 : Int) ≤ (V : Int)) = false := decide_eq_false (by omega)
        have t2 : decide ((V : Int) * 16 + (D : Int) < (V : Int) * 16) = false := decide_eq_false (by omega)
        have t3 : decide ((4294967295 : Int) < (V : Int) * 16 + (D : Int)) = false := decide_eq_false (by omega)
        have hVi : (V : Int) < 16777216 := by omega
        rw [hD] at HVN'
        clear hvl
        go_wp2
        go_roundw
        case rel => exact ⟨k + 1, by omega, rfl, by go_num, by rw [HVN'.out], by first | rfl | trivial⟩
        case measure => simp [intOf]; omega
      · have hcl := HCLS.out hdig
        simp only at hcl
        have c0 : (decide ((48 : Int) ≤ (y : Int)) = true ∧ decide ((y : Int) ≤ 57) = false) ∨ decide ((48 : Int) ≤ (y : Int)) = false := by
          by_cases h : 48 ≤ y
          · exact .inl ⟨decide_eq_true (by omega), decide_eq_false (by omega)⟩
          · exact .inr (decide_eq_false (by omega))
        have c3 : ((y : Int) == 95) = false ∨ ((y : Int) == 95) = true := by cases ((y : Int) == 95) <;> simp
        have hVi : (V : Int) < 16777216 := by omega
        generalize lowN y = z at *
        by_cases hz : 97 ≤ z ∧ z ≤ 122
        · rw [if_pos hz] at hcl
          obtain ⟨hz1, hz2⟩ := hz
          have z1 : (97 : Int) ≤ (z : Int) := by omega
          have z2 : (z : Int) ≤ 122 := by omega
          by_cases hz16 : z - 87 < 16
          · rw [if_pos hz16] at hcl
            have hkj : k < j0 := by
              rcases Nat.lt_or_ge k j0 with h | h
              · exact h
              · have := HH2.out (by omega); omega
            obtain ⟨D, hD⟩ : ∃ D : Nat, (z : Int) - 97 + 10 = (D : Int) := ⟨z - 87, by omega⟩
            have HVN' : Hid ((hv s 0 (k + 1) : Int) = (V : Int) * 16 + (D : Int)) := by show _ = _; rw [HVN.out, hcl]; omega
            have hD9 : (D : Int) < 16 := by omega
            have t0 : decide ((16 : Int) ≤ (D : Int)) = false := decide_eq_false (by omega)
            have t1 : decide ((1152921504606846976 : Int) ≤ (V : Int)) = false := decide_eq_false (by omega)
            have t2 : decide ((V : Int) * 16 + (D : Int) < (V : Int) * 16) = false := decide_eq_false (by omega)
            have t3 : decide ((4294967295 : Int) < (V : Int) * 16 + (D : Int)) = false := decide_eq_false (by omega)
            clear hcl hvl hz1 hz2 hz16 hdig HCLS
            rcases c0 with ⟨c1, c2⟩ | c1 <;> rcases c3 with c3 | c3
            all_goals
              go_wp2_with (go_at_call 87; refine (HLOW.out _).mono ?_; rintro e w' ⟨rfl, rfl⟩)
              go_roundw
              case rel => exact ⟨k + 1, by omega, rfl, by go_num, by rw [HVN'.out], by first | rfl | trivial⟩
              case measure => simp [intOf]; omega
          · rw [if_neg hz16] at hcl
            have HJ : Hid (j0 ≠ s.size) := by
              show _ ≠ _
              have : ¬ k < j0 := fun h => by have := HH.out h; omega
              omega
            obtain ⟨D, hD⟩ : ∃ D : Nat, (z : Int) - 97 + 10 = (D : Int) := ⟨z - 87, by omega⟩
            have hDb : (D : Int) < 256 := by omega
            have t0 : decide ((16 : Int) ≤ (D : Int)) = true := decide_eq_true (by omega)
            clear hcl hvl hz1 hz2 hz16 hdig HCLS
            rcases c0 with ⟨c1, c2⟩ | c1 <;> rcases c3 with c3 | c3
            all_goals
              go_wp2_with (go_at_call 87; refine (HLOW.out _).mono ?_; rintro e w' ⟨rfl, rfl⟩)
              go_ret2
              exact ⟨by rw [puRes_no HJ.out]; rfl, HB.out⟩
        · rw [if_neg hz] at hcl
          have HJ : Hid (j0 ≠ s.size) := by
            show _ ≠ _
            have : ¬ k < j0 := fun h => by have := HH.out h; omega
            omega
          have z0 : decide ((97 : Int) ≤ (z : Int)) = false ∨ (decide ((97 : Int) ≤ (z : Int)) = true ∧ decide ((z : Int) ≤ 122) = false) := by
            by_cases h : 97 ≤ z
            · exact .inr ⟨decide_eq_true (by omega), decide_eq_false (by omega)⟩
            · exact .inl (decide_eq_false (by omega))
          clear hcl hvl hz hdig HCLS
          rcases c0 with ⟨c1, c2⟩ | c1 <;> rcases c3 with c3 | c3 <;> rcases z0 with z1 | ⟨z1, z2⟩
          all_goals
            go_wp2_with (go_at_call 87; refine (HLOW.out _).mono ?_; rintro e w' ⟨rfl, rfl⟩)
            go_ret2
            exact ⟨by rw [puRes_no HJ.out]; rfl, HB.out⟩
    · have HE1 : Hid (k = s.size) := by show _ = _; omega
      have HE2 : Hid (j0 = s.size) := by show _ = _; omega
      go_wp2
      go_ret2
      exact ⟨by rw [puRes_ok HE2.out HE1.out HV.out]; rfl, HB.out⟩
end Go.Proofs.YteojiblglbmmdaaGreatDoor

/-
  The walk of spec.l1escape, its long form.
-/
import Derived.Test.YtfldjcmobpcpoaaDoorJLexN
namespace Go.Proofs.YtfldjcmobpcpoaaDoor
open Go.RowKit

set_option maxHeartbeats 1000000 in
set_option maxRecDepth 1000000 in
theorem esc_long (b off cap i : Nat) (s : ByteArray) (w : World) (hs : s.size ≤ 1048576) (hc : ∀ j, j < s.size → w.cell? ⟨b, off + j, none⟩ = some (bts s j))
    (h1 : i + 1 < s.size) (h117 : (s.get! i).toNat = 117) (h123 : (s.get! (i + 1)).toNat = 123) :
    Calls Tryd.prog 38 #[.slice (some ⟨b, off, none⟩) s.size cap, .int .i64 i] w fun e w' => Gives w w' e (esc s i).1 (esc s i).2 := by
  have g0 : w.cell? ⟨b, off + i, none⟩ = some (.int .u8 117) := by have := hc i (by omega); unfold bts at this; rw [h117] at this; exact this
  have g1 : w.cell? ⟨b, off + (i + 1), none⟩ = some (.int .u8 123) := by have := hc (i + 1) h1; unfold bts at this; rw [h123] at this; exact this
  have HC := hide hc
  have HE : Hid (esc s i = if kc s (i + 2) 7 < 1 ∨ 6 < kc s (i + 2) 7 ∨ s.size ≤ i + 2 + kc s (i + 2) 7 ∨ (s.get! (i + 2 + kc s (i + 2) 7)).toNat ≠ 125 ∨ pointB (hv s (i + 2) (kc s (i + 2) 7)) = false then ([], 0) else (ubytes (hv s (i + 2) (kc s (i + 2) 7)), kc s (i + 2) 7 + 3)) := by
    show _ = _
    have n1 : ¬ s.size ≤ i := by omega
    have n2 : ¬ ((s.get! i).toNat = 34 ∨ (s.get! i).toNat = 92) := by omega
    have n3 : ¬ ((s.get! i).toNat ≠ 117 ∨ s.size ≤ i + 1 ∨ (s.get! (i + 1)).toNat ≠ 123) := by omega
    unfold esc
    rw [if_neg n1, if_neg n2, if_neg n3]
  have t5 : decide ((s.size : Int) ≤ (i : Int) + 1) = false := decide_eq_false (by omega)
  have t0 : decide (s.size ≤ i) = false := decide_eq_false (by omega)
  clear hc h117 h123
  go_enter Tryd.func38, Tryd.ntmps38
  go_wp2
  go_loopw [6, 7] (fun v n wr => ∃ k : Nat, k ≤ 7 ∧ n = .int .i64 k ∧ v = .int .i64 (hv s (i + 2) k) ∧ k + kc s (i + 2 + k) (7 - k) = kc s (i + 2) 7 ∧ wr = w) (fun _ n _ => 7 - (intOf n).toNat)
  case atStart => exact ⟨0, by omega, rfl, rfl, by simp, rfl⟩
  case round =>
    obtain ⟨k, hk, rfl, rfl, hkc, rfl⟩ := hrel
    have hvl := hv_lt s (i + 2) k
    have HKC := hide hkc
    clear hkc
    obtain ⟨V, hV⟩ : ∃ V, hv s (i + 2) k = V := ⟨_, rfl⟩
    rw [hV] at hvl ⊢
    have HV := hide hV
    clear hV
    have hVb : V < 268435456 := by
      have : 16 ^ k ≤ 16 ^ 7 := Nat.pow_le_pow_right (by omega) hk
      omega
    clear hvl
    by_cases hin : i + 2 + k < s.size
    · have g2 : wr.cell? ⟨b, off + (i + 2 + k), none⟩ = some (.int .u8 ((s.get! (i + 2 + k)).toNat : Int)) := HC.out _ hin
      have b2 : (s.get! (i + 2 + k)).toNat < 256 := (s.get! (i + 2 + k)).toNat_lt
      obtain ⟨y, hy⟩ : ∃ y : Nat, (s.get! (i + 2 + k)).toNat = y := ⟨_, rfl⟩
      rw [hy] at g2 b2
      have HY := hide hy
      have HD := hide (fun w => digit_any y w b2)
      have hdl := hd_lt y
      obtain ⟨d, hd'⟩ : ∃ d, hd y = d := ⟨_, rfl⟩
      rw [hd'] at HD hdl
      have HDD := hide hd'
      clear hy hd'
      have t6 : decide ((i : Int) + 2 + (k : Int) < (s.size : Int)) = true := decide_eq_true (by omega)
      by_cases h7 : k < 7
      · have t7 : decide ((k : Int) < 7) = true := decide_eq_true (by omega)
        by_cases hd0 : 0 ≤ d
        · have t8 : decide (0 ≤ d) = true := decide_eq_true hd0
          have HN : Hid (k + 1 + kc s (i + 2 + (k + 1)) (7 - (k + 1)) = kc s (i + 2) 7) := kc_more h7 hin (by rw [HY.out, HDD.out]; exact hd0) HKC.out
          have HVN : Hid ((hv s (i + 2) (k + 1) : Int) = (V : Int) * 16 + d) := by
            show _ = _
            rw [hv, HV.out, HY.out, HDD.out]; omega
          go_wp2_with (go_at_call 52; refine (HD.out _).mono ?_; rintro e w' ⟨rfl, rfl⟩)
          go_roundw
          case rel => exact ⟨k + 1, by omega, by go_num, by rw [HVN.out], HN.out, by first | rfl | trivial⟩
          case measure => simp [intOf]; omega
        · -- no digit here
          have t8 : decide (0 ≤ d) = false := decide_eq_false hd0
          have HK : Hid (kc s (i + 2) 7 = k) := kc_stop hk (fun g => hd0 (by have := g.2.2; rw [HY.out, HDD.out] at this; exact this)) HKC.out
          have tC : decide ((s.size : Int) ≤ (i : Int) + 2 + (k : Int)) = false := decide_eq_false (by omega)
          have tB : decide (6 < (k : Int)) = false := decide_eq_false (by omega)
          by_cases hA : k < 1
          · have tA : decide ((k : Int) < 1) = true := decide_eq_true (by omega)
            have HR : Hid (esc s i = ([], 0)) := by show _ = _; rw [HE.out, HK.out, if_pos (.inl hA)]
            go_wp2_with (go_at_call 52; refine (HD.out _).mono ?_; rintro e w' ⟨rfl, rfl⟩)
            go_ret2
            exact gives_nil HR.out (Below.refl _ _)
          · have tA : decide ((k : Int) < 1) = false := decide_eq_false (by omega)
            by_cases h125 : y = 125
            · have tD : ((y : Int) != 125) = false := by rw [bne_eq_false_iff_eq]; omega
              have HP := hide (fun w => point_any (V : Int) w)
              by_cases hp : pointB (V : Int) = true
              · have HR : Hid (esc s i = (ubytes V, k + 3)) := by
                  show _ = _
                  rw [HE.out, HK.out, HV.out, HY.out, if_neg (by rw [hp]; simp; omega)]
                rw [hp] at HP
                have hVp := ((pointB_nat V).1 hp).1
                have HU := hide (fun w => utf8_any V w (by omega))
                have hul := ubytes_len V
                obtain ⟨U, hU⟩ : ∃ U, ubytes V = U := ⟨_, rfl⟩
                rw [hU] at HU HR hul
                rw [← hul] at HU
                clear hp h125 hU hul
                go_wp2_with (first | (go_at_call 52; refine (HD.out _).mono ?_; rintro e w' ⟨rfl, rfl⟩) | (go_at_call 33; refine (HP.out _).mono ?_; rintro e w' ⟨rfl, rfl⟩) | (go_at_call 34; refine (HU.out _).mono ?_; rintro e w' ⟨rfl, rfl⟩))
                go_ret2
                rw [HR.out]
                refine ⟨some ⟨_, 0, none⟩, _, _, rfl, fun _ => rfl, fun j hj => ?_, (Below.refl _ _).alloc (Nat.le_refl _) _⟩
                have hj' : j < U.length := hj
                simp [hj', List.getD]
              · have hp' : pointB (V : Int) = false := by simpa using hp
                have HR : Hid (esc s i = ([], 0)) := by show _ = _; rw [HE.out, HK.out, HV.out, if_pos (.inr (.inr (.inr (.inr hp'))))]
                rw [hp'] at HP
                clear hp hp' h125
                go_wp2_with (first | (go_at_call 52; refine (HD.out _).mono ?_; rintro e w' ⟨rfl, rfl⟩) | (go_at_call 33; refine (HP.out _).mono ?_; rintro e w' ⟨rfl, rfl⟩))
                go_ret2
                exact gives_nil HR.out (Below.refl _ _)
            · have tD : ((y : Int) != 125) = true := by rw [bne_iff_ne]; omega
              have HR : Hid (esc s i = ([], 0)) := by show _ = _; rw [HE.out, HK.out, if_pos (.inr (.inr (.inr (.inl (by rw [HY.out]; exact h125)))))]
              clear h125
              go_wp2_with (go_at_call 52; refine (HD.out _).mono ?_; rintro e w' ⟨rfl, rfl⟩)
              go_ret2
              exact gives_nil HR.out (Below.refl _ _)
      · -- seven digits
        have HK : Hid (kc s (i + 2) 7 = k) := kc_stop hk (fun g => h7 g.1) HKC.out
        have t7 : decide ((k : Int) < 7) = false := decide_eq_false (by omega)
        have tA : decide ((k : Int) < 1) = false := decide_eq_false (by omega)
        have tB : decide (6 < (k : Int)) = true := decide_eq_true (by omega)
        have HR : Hid (esc s i = ([], 0)) := by show _ = _; rw [HE.out, HK.out, if_pos (.inr (.inl (by omega)))]
        go_wp2
        go_ret2
        exact gives_nil HR.out (Below.refl _ _)
    · -- the text ends
      have HK : Hid (kc s (i + 2) 7 = k) := kc_stop hk (fun g => hin g.2.1) HKC.out
      have t6 : decide ((i : Int) + 2 + (k : Int) < (s.size : Int)) = false := decide_eq_false (by omega)
      have tC : decide ((s.size : Int) ≤ (i : Int) + 2 + (k : Int)) = true := decide_eq_true (by omega)
      have HR : Hid (esc s i = ([], 0)) := by show _ = _; rw [HE.out, HK.out, if_pos (.inr (.inr (.inl (by omega))))]
      by_cases hA : k < 1
      · have tA : decide ((k : Int) < 1) = true := decide_eq_true (by omega)
        go_wp2
        go_ret2
        exact gives_nil HR.out (Below.refl _ _)
      · have tA : decide ((k : Int) < 1) = false := decide_eq_false (by omega)
        by_cases hB : 6 < k
        · have tB : decide (6 < (k : Int)) = true := decide_eq_true (by omega)
          go_wp2
          go_ret2
          exact gives_nil HR.out (Below.refl _ _)
        · have tB : decide (6 < (k : Int)) = false := decide_eq_false (by omega)
          go_wp2
          go_ret2
          exact gives_nil HR.out (Below.refl _ _)

theorem esc_any (b off cap i : Nat) (s : ByteArray) (w : World) (hs : s.size ≤ 1048576) (hi : i ≤ s.size) (hc : ∀ j, j < s.size → w.cell? ⟨b, off + j, none⟩ = some (bts s j)) :
    Calls Tryd.prog 38 #[.slice (some ⟨b, off, none⟩) s.size cap, .int .i64 i] w fun e w' => Gives w w' e (esc s i).1 (esc s i).2 := by
  by_cases h : i + 1 < s.size ∧ (s.get! i).toNat = 117 ∧ (s.get! (i + 1)).toNat = 123
  · exact esc_long b off cap i s w hs hc h.1 h.2.1 h.2.2
  · exact esc_short b off cap i s w hs hi hc h
end Go.Proofs.YtfldjcmobpcpoaaDoor

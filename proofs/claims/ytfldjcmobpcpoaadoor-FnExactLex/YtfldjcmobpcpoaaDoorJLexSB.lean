/-
  The walk of spec.l1blank.
-/
import Derived.Test.YtfldjcmobpcpoaaDoorJLexLX
namespace Go.Proofs.YtfldjcmobpcpoaaDoor
open Go.RowKit

theorem bl_one {s : ByteArray} {p : Nat} (h : (s.get! p).toNat = 32 ∨ (s.get! p).toNat = 9 ∨ (s.get! p).toNat = 13 ∨ (s.get! p).toNat = 10) : bl s p = 1 := by unfold bl; rw [if_pos h]

set_option maxHeartbeats 1000000 in
set_option maxRecDepth 1000000 in
theorem blank_any (b off cap p : Nat) (s : ByteArray) (w : World) (hs : s.size ≤ 1048576) (hp : p < s.size) (hc : ∀ j, j < s.size → w.cell? ⟨b, off + j, none⟩ = some (bts s j)) :
    Calls Tryd.prog 29 #[.slice (some ⟨b, off, none⟩) s.size cap, .int .i64 p] w fun e w' => e = .returned (.int .i64 (bl s p)) ∧ w' = w := by
  have HC := hide hc
  have g0 : w.cell? ⟨b, off + p, none⟩ = some (.int .u8 ((s.get! p).toNat : Int)) := hc p hp
  have b0 : (s.get! p).toNat < 256 := (s.get! p).toNat_lt
  clear hc
  obtain ⟨y, hy⟩ : ∃ y : Nat, (s.get! p).toNat = y := ⟨_, rfl⟩
  by_cases hb : y = 32 ∨ y = 9 ∨ y = 13 ∨ y = 10
  · have HR : Hid (bl s p = 1) := bl_one (by rw [hy]; exact hb)
    rw [hy] at g0 b0
    clear hy
    rcases hb with rfl | rfl | rfl | rfl
    all_goals
      go_enter Tryd.func29, Tryd.ntmps29
      go_wp2
      go_ret
      exact ⟨by rw [HR.out]; rfl, rfl⟩
  have t1 : ((y : Int) == 32) = false := by rw [beq_eq_false_iff_ne]; omega
  have t2 : ((y : Int) == 9) = false := by rw [beq_eq_false_iff_ne]; omega
  have t3 : ((y : Int) == 13) = false := by rw [beq_eq_false_iff_ne]; omega
  have t4 : ((y : Int) == 10) = false := by rw [beq_eq_false_iff_ne]; omega
  by_cases h47 : y = 47
  · by_cases h1 : p + 1 < s.size
    · have g1 : w.cell? ⟨b, off + (p + 1), none⟩ = some (.int .u8 ((s.get! (p + 1)).toNat : Int)) := HC.out (p + 1) h1
      have b1 : (s.get! (p + 1)).toNat < 256 := (s.get! (p + 1)).toNat_lt
      obtain ⟨z, hz⟩ : ∃ z : Nat, (s.get! (p + 1)).toNat = z := ⟨_, rfl⟩
      have HBL : Hid (bl s p = if z = 47 then ((2 + ln s (p + 2) : Nat) : Int) else if z ≠ 42 then 0 else bcl p (bc s (p + 2) s.size)) := by
        show _ = _
        unfold bl
        rw [hy, hz, if_neg hb, if_neg (by omega)]
      rw [hy] at g0 b0
      rw [hz] at g1 b1
      have t5 : ((y : Int) != 47) = false := by rw [bne_eq_false_iff_eq]; omega
      have t6 : decide ((s.size : Int) ≤ (p : Int) + 1) = false := decide_eq_false (by omega)
      clear hy hz hb h47
      by_cases hz47 : z = 47
      · have t7 : ((z : Int) == 47) = true := by rw [beq_iff_eq]; omega
        have HB2 : Hid (bl s p = ((2 + ln s (p + 2) : Nat) : Int)) := by show _ = _; rw [HBL.out, if_pos hz47]
        clear hz47 HBL
        go_enter Tryd.func29, Tryd.ntmps29
        go_wp2
        go_loopw [6] (fun ix wr => ∃ n : Nat, ix = .int .i64 (2 + n : Nat) ∧ p + 2 + n ≤ s.size ∧ (∀ j, j < n → ((s.get! (p + 2 + j)).toNat != 10) = true) ∧ wr = w) (fun ix _ => s.size - (intOf ix).toNat)
        case atStart => exact ⟨0, rfl, by omega, fun j hj => absurd hj (Nat.not_lt_zero _), rfl⟩
        case round =>
          obtain ⟨n, rfl, hn, hall, rfl⟩ := hrel
          have HALL := hide hall
          clear hall
          obtain ⟨M, hM⟩ : ∃ M : Nat, 2 + n = M := ⟨_, rfl⟩
          have HM := hide hM
          rw [hM]
          have hpM : p + M ≤ s.size := by omega
          by_cases hlt : p + M < s.size
          · have u0 : decide ((p : Int) + (M : Int) < (s.size : Int)) = true := decide_eq_true (by omega)
            have g2 : wr.cell? ⟨b, off + (p + M), none⟩ = some (.int .u8 ((s.get! (p + M)).toNat : Int)) := HC.out (p + M) hlt
            have b2 : (s.get! (p + M)).toNat < 256 := (s.get! (p + M)).toNat_lt
            obtain ⟨x, hx⟩ : ∃ x : Nat, (s.get! (p + M)).toNat = x := ⟨_, rfl⟩
            have HX := hide hx
            rw [hx] at g2 b2
            clear hx hM
            by_cases h10 : x = 10
            · have u1 : ((x : Int) != 10) = false := by rw [bne_eq_false_iff_eq]; omega
              have HR : Hid (bl s p = (M : Int)) := by
                show _ = _
                have e := HM.out
                have hl : ln s (p + 2) = n := cw_is hn HALL.out (fun g => by
                  rw [show p + 2 + n = p + M by omega, HX.out, h10] at g
                  exact absurd g.2 (by decide))
                rw [HB2.out, hl, e]
              clear h10
              go_wp2
              go_ret
              exact ⟨by rw [HR.out]; rfl, by first | rfl | trivial⟩
            · have u1 : ((x : Int) != 10) = true := by rw [bne_iff_ne]; omega
              go_wp2
              go_roundw
              case rel =>
                have e := HM.out
                exact ⟨n + 1, by go_num, by omega, fun j hj => by
                  by_cases e2 : j = n
                  · rw [e2, show p + 2 + n = p + M by omega, HX.out, bne_iff_ne]; exact h10
                  · exact HALL.out j (by omega), by first | rfl | trivial⟩
              case measure => simp [intOf]; omega
          · have u0 : decide ((p : Int) + (M : Int) < (s.size : Int)) = false := decide_eq_false (by omega)
            have HR : Hid (bl s p = (M : Int)) := by
              show _ = _
              have e := HM.out
              have hl : ln s (p + 2) = n := cw_is hn HALL.out (fun g => by omega)
              rw [HB2.out, hl, e]
            clear hM
            go_wp2
            go_ret
            exact ⟨by rw [HR.out]; rfl, by first | rfl | trivial⟩
      · have t7 : ((z : Int) == 47) = false := by rw [beq_eq_false_iff_ne]; omega
        by_cases hz42 : z = 42
        · have t8 : ((z : Int) != 42) = false := by rw [bne_eq_false_iff_eq]; omega
          have HB2 : Hid (bl s p = bcl p (bc s (p + 2) s.size)) := by show _ = _; rw [HBL.out, if_neg hz47, if_neg (fun g => g hz42)]
          clear hz47 hz42 HBL
          go_enter Tryd.func29, Tryd.ntmps29
          go_wp2
          go_loopw [6] (fun ix wr => ∃ n : Nat, ix = .int .i64 (2 + n : Nat) ∧ p + 2 + n ≤ s.size ∧ (∀ j, j < n → ¬ ((s.get! (p + 2 + j)).toNat = 42 ∧ (s.get! (p + 2 + j + 1)).toNat = 47)) ∧ wr = w) (fun ix _ => s.size - (intOf ix).toNat)
          case atStart => exact ⟨0, rfl, by omega, fun j hj => absurd hj (Nat.not_lt_zero _), rfl⟩
          case round =>
            obtain ⟨n, rfl, hn, hall, rfl⟩ := hrel
            have HALL := hide hall
            clear hall
            obtain ⟨M, hM⟩ : ∃ M : Nat, 2 + n = M := ⟨_, rfl⟩
            have HM := hide hM
            rw [hM]
            have hpM : p + M ≤ s.size := by omega
            by_cases hlt : p + M + 1 < s.size
            · have u0 : decide ((p : Int) + (M : Int) + 1 < (s.size : Int)) = true := decide_eq_true (by omega)
              have g2 : wr.cell? ⟨b, off + (p + M), none⟩ = some (.int .u8 ((s.get! (p + M)).toNat : Int)) := HC.out (p + M) (by omega)
              have b2 : (s.get! (p + M)).toNat < 256 := (s.get! (p + M)).toNat_lt
              have g3 : wr.cell? ⟨b, off + (p + M + 1), none⟩ = some (.int .u8 ((s.get! (p + M + 1)).toNat : Int)) := HC.out (p + M + 1) hlt
              have b3 : (s.get! (p + M + 1)).toNat < 256 := (s.get! (p + M + 1)).toNat_lt
              obtain ⟨x, hx⟩ : ∃ x : Nat, (s.get! (p + M)).toNat = x := ⟨_, rfl⟩
              obtain ⟨x2, hx2⟩ : ∃ x2 : Nat, (s.get! (p + M + 1)).toNat = x2 := ⟨_, rfl⟩
              have HX := hide hx
              have HX2 := hide hx2
              rw [hx] at g2 b2
              rw [hx2] at g3 b3
              clear hx hx2 hM
              have HGO : Hid (¬ (x = 42 ∧ x2 = 47) → ∀ j, j < n + 1 → ¬ ((s.get! (p + 2 + j)).toNat = 42 ∧ (s.get! (p + 2 + j + 1)).toNat = 47)) := fun hne j hj => by
                have e := HM.out
                by_cases e2 : j = n
                · rw [e2, show p + 2 + n = p + M by omega, HX.out, HX2.out]; exact hne
                · exact HALL.out j (by omega)
              by_cases h42 : x = 42
              · have u1 : ((x : Int) == 42) = true := by rw [beq_iff_eq]; omega
                by_cases h47' : x2 = 47
                · have u2 : ((x2 : Int) == 47) = true := by rw [beq_iff_eq]; omega
                  have HR : Hid (bl s p = ((M + 2 : Nat) : Int)) := by
                    show _ = _
                    have e := HM.out
                    have hl : bc s (p + 2) s.size = some (p + 2 + n) := bc_hit s s.size (p + 2) n (by omega) (by omega) HALL.out (by rw [show p + 2 + n = p + M by omega, HX.out]; exact h42) (by rw [show p + 2 + n = p + M by omega, HX2.out]; exact h47')
                    rw [HB2.out, hl]
                    show ((p + 2 + n - p + 2 : Nat) : Int) = _
                    omega
                  clear h42 h47' HGO
                  go_wp2
                  go_ret
                  exact ⟨by rw [HR.out]; rfl, by first | rfl | trivial⟩
                · have u2 : ((x2 : Int) == 47) = false := by rw [beq_eq_false_iff_ne]; omega
                  have HG := hide (HGO.out (fun g => h47' g.2))
                  clear h42 h47' HGO
                  go_wp2
                  go_roundw
                  case rel => exact ⟨n + 1, by have e := HM.out; go_num, by have e := HM.out; omega, HG.out, by first | rfl | trivial⟩
                  case measure => simp [intOf]; omega
              · have u1 : ((x : Int) == 42) = false := by rw [beq_eq_false_iff_ne]; omega
                have HG := hide (HGO.out (fun g => h42 g.1))
                clear h42 HGO
                go_wp2
                go_roundw
                case rel => exact ⟨n + 1, by have e := HM.out; go_num, by have e := HM.out; omega, HG.out, by first | rfl | trivial⟩
                case measure => simp [intOf]; omega
            · have u0 : decide ((p : Int) + (M : Int) + 1 < (s.size : Int)) = false := decide_eq_false (by omega)
              have HR : Hid (bl s p = -1) := by
                show _ = _
                have e := HM.out
                have hl : bc s (p + 2) s.size = none := bc_miss s s.size (p + 2) (fun j hj => HALL.out j (by omega))
                rw [HB2.out, hl]; rfl
              clear hM
              go_wp2
              go_ret
              exact ⟨by rw [HR.out]; rfl, by first | rfl | trivial⟩
        · have t8 : ((z : Int) != 42) = true := by rw [bne_iff_ne]; omega
          have HR : Hid (bl s p = 0) := by show _ = _; rw [HBL.out, if_neg hz47, if_pos hz42]
          clear hz47 hz42 HBL
          go_enter Tryd.func29, Tryd.ntmps29
          go_wp2
          go_ret
          exact ⟨by rw [HR.out]; rfl, rfl⟩
    · have t5 : ((y : Int) != 47) = false := by rw [bne_eq_false_iff_eq]; omega
      have t6 : decide ((s.size : Int) ≤ (p : Int) + 1) = true := decide_eq_true (by omega)
      have HR : Hid (bl s p = 0) := by show _ = _; unfold bl; rw [hy, if_neg hb, if_pos (.inr (by omega))]
      rw [hy] at g0 b0
      clear hy hb h47
      go_enter Tryd.func29, Tryd.ntmps29
      go_wp2
      go_ret
      exact ⟨by rw [HR.out]; rfl, rfl⟩
  · have t5 : ((y : Int) != 47) = true := by rw [bne_iff_ne]; omega
    have HR : Hid (bl s p = 0) := by show _ = _; unfold bl; rw [hy, if_neg hb, if_pos (.inl h47)]
    rw [hy] at g0 b0
    clear hy hb h47
    go_enter Tryd.func29, Tryd.ntmps29
    go_wp2
    go_ret
    exact ⟨by rw [HR.out]; rfl, rfl⟩
end Go.Proofs.YtfldjcmobpcpoaaDoor

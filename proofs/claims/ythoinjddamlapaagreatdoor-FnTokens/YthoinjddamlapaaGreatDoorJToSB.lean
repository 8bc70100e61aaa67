/-
  The walk of spec.l1blank.
  The walk of spec.Lex.
  CheckText at the nil slice.
-/
import Derived.Test.YthoinjddamlapaaGreatDoorJToLX
import Derived.Test.YthoinjddamlapaaGreatDoorJToIP3
import Derived.Test.YthoinjddamlapaaGreatDoorJToST
import Derived.Test.YthoinjddamlapaaGreatDoorJToK
import Derived.Test.YthoinjddamlapaaGreatDoorJToQ
namespace Go.Proofs.YthoinjddamlapaaGreatDoor
open Go.RowKit

theorem bl_one {s : ByteArray} {p : Nat} (h : (s.get! p).toNat = 32 ∨ (s.get! p).toNat = 9 ∨ (s.get! p).toNat = 13 ∨ (s.get! p).toNat = 10) : bl s p = 1 := by unfold bl; rw [if_pos h]

set_option maxHeartbeats 1000000 in
set_option maxRecDepth 1000000 in
theorem blank_any (b off cap p : Nat) (s : ByteArray) (w : World) (hs : s.size ≤ 1048576) (hp : p < s.size) (hc : ∀ j, j < s.size → w.cell? ⟨b, off + j, none⟩ = some (bts s j)) :
    Calls Tryz.prog 12 #[.slice (some ⟨b, off, none⟩) s.size cap, .int .i64 p] w fun e w' => e = .returned (.int .i64 (bl s p)) ∧ w' = w := by
  have HC := hide hc
  have g0 : w.cell? ⟨b, off + p, none⟩ = some (.int .u8 ((s.get! p).toNat : Int)) := hc p hp
  have b0 : (s.get! p).toNat < 256 := (s.get! p).toNat_lt
  clear hc
  obtain ⟨y, hy⟩ : ∃ y : Nat, (s.get! p).toNat = y := ⟨_, rfl⟩
  by_cases hb : y = 32 ∨ y = 9 ∨ y = 13 ∨ y = 10
  · have HR : Hid (bl s p = 1) := bl_one (by rw [hy]; exact hb)
    rw [hy] at g0 b0
    clear hy
    rcases hb with rfl | rfl | rfl | rfl
    all_goals
      go_enter Tryz.func12, Tryz.ntmps12
      go_wp2
      go_ret
      exact ⟨by rw [HR.out]; rfl, rfl⟩
  have t1 : ((y : Int) == 32) = false := by rw [beq_eq_false_iff_ne]; omega
  have t2 : ((y : Int) == 9) = false := by rw [beq_eq_false_iff_ne]; omega
  have t3 : ((y : Int) == 13) = false := by rw [beq_eq_false_iff_ne]; omega
  have t4 : ((y : Int) == 10) = false := by rw [beq_eq_false_iff_ne]; omega
  by_cases h47 : y = 47
  · by_cases h1 : p + 1 < s.size
    · have g1 : w.cell? ⟨b, off + (p + 1), none⟩ = some (.int .u8 ((s.get! (p + 1)).toNat : Int)) := HC.out (p + 1) h1
      have b1 : (s.get! (p + 1)).toNat < 256 := (s.get! (p + 1)).toNat_lt
      obtain ⟨z, hz⟩ : ∃ z : Nat, (s.get! (p + 1)).toNat = z := ⟨_, rfl⟩
      have HBL : Hid (bl s p = if z = 47 then ((2 + ln s (p + 2) : Nat) : Int) else if z ≠ 42 then 0 else bcl p (bc s (p + 2) s.size)) := by
        show _ = _
        unfold bl
        rw [hy, hz, if_neg hb, if_neg (by omega)]
      rw [hy] at g0 b0
      rw [hz] at g1 b1
      have t5 : ((y : Int) != 47) = false := by rw [bne_eq_false_iff_eq]; omega
      have t6 : decide ((s.size : Int) ≤ (p : Int) + 1) = false := decide_eq_false (by omega)
      clear hy hz hb h47
      by_cases hz47 : z = 47
      · have t7 : ((z : Int) == 47) = true := by rw [beq_iff_eq]; omega
        have HB2 : Hid (bl s p = ((2 + ln s (p + 2) : Nat) : Int)) := by show _ = _; rw [HBL.out, if_pos hz47]
        clear hz47 HBL
        go_enter Tryz.func12, Tryz.ntmps12
        go_wp2
        go_loopw [6] (fun ix wr => ∃ n : Nat, ix = .int .i64 (2 + n : Nat) ∧ p + 2 + n ≤ s.size ∧ (∀ j, j < n → ((s.get! (p + 2 + j)).toNat != 10) = true) ∧ wr = w) (fun ix _ => s.size - (intOf ix).toNat)
        case atStart => exact ⟨0, rfl, by omega, fun j hj => absurd hj (Nat.not_lt_zero _), rfl⟩
        case round =>
          obtain ⟨n, rfl, hn, hall, rfl⟩ := hrel
          have HALL := hide hall
          clear hall
          obtain ⟨M, hM⟩ : ∃ M : Nat, 2 + n = M := ⟨_, rfl⟩
          have HM := hide hM
          rw [hM]
          have hpM : p + M ≤ s.size := by omega
          by_cases hlt : p + M < s.size
          · have u0 : decide ((p : Int) + (M : Int) < (s.size : Int)) = true := decide_eq_true (by omega)
            have g2 : wr.cell? ⟨b, off + (p + M), none⟩ = some (.int .u8 ((s.get! (p + M)).toNat : Int)) := HC.out (p + M) hlt
            have b2 : (s.get! (p + M)).toNat < 256 := (s.get! (p + M)).toNat_lt
            obtain ⟨x, hx⟩ : ∃ x : Nat, (s.get! (p + M)).toNat = x := ⟨_, rfl⟩
            have HX := hide hx
            rw [hx] at g2 b2
            clear hx hM
            by_cases h10 : x = 10
            · have u1 : ((x : Int) != 10) = false := by rw [bne_eq_false_iff_eq]; omega
              have HR : Hid (bl s p = (M : Int)) := by
                show _ = _
                have e := HM.out
                have hl : ln s (p + 2) = n := cw_is hn HALL.out (fun g => by
                  rw [show p + 2 + n = p + M by omega, HX.out, h10] at g
                  exact absurd g.2 (by decide))
                rw [HB2.out, hl, e]
              clear h10
              go_wp2
              go_ret
              exact ⟨by rw [HR.out]; rfl, by first | rfl | trivial⟩
            · have u1 : ((x : Int) != 10) = true := by rw [bne_iff_ne]; omega
              go_wp2
              go_roundw
              case rel =>
                have e := HM.out
                exact ⟨n + 1, by go_num, by omega, fun j hj => by
                  by_cases e2 : j = n
                  · rw [e2, show p + 2 + n = p + M by omega, HX.out, bne_iff_ne]; exact h10
                  · exact HALL.out j (by omega), by first | rfl | trivial⟩
              case measure => simp [intOf]; omega
          · have u0 : decide ((p : Int) + (M : Int) < (s.size : Int)) = false := decide_eq_false (by omega)
            have HR : Hid (bl s p = (M : Int)) := by
              show _ = _
              have e := HM.out
              have hl : ln s (p + 2) = n := cw_is hn HALL.out (fun g => by omega)
              rw [HB2.out, hl, e]
            clear hM
            go_wp2
            go_ret
            exact ⟨by rw [HR.out]; rfl, by first | rfl | trivial⟩
      · have t7 : ((z : Int) == 47) = false := by rw [beq_eq_false_iff_ne]; omega
        by_cases hz42 : z = 42
        · have t8 : ((z : Int) != 42) = false := by rw [bne_eq_false_iff_eq]; omega
          have HB2 : Hid (bl s p = bcl p (bc s (p + 2) s.size)) := by show _ = _; rw [HBL.out, if_neg hz47, if_neg (fun g => g hz42)]
          clear hz47 hz42 HBL
          go_enter Tryz.func12, Tryz.ntmps12
          go_wp2
          go_loopw [6] (fun ix wr => ∃ n : Nat, ix = .int .i64 (2 + n : Nat) ∧ p + 2 + n ≤ s.size ∧ (∀ j, j < n → ¬ ((s.get! (p + 2 + j)).toNat = 42 ∧ (s.get! (p + 2 + j + 1)).toNat = 47)) ∧ wr = w) (fun ix _ => s.size - (intOf ix).toNat)
          case atStart => exact ⟨0, rfl, by omega, fun j hj => absurd hj (Nat.not_lt_zero _), rfl⟩
          case round =>
            obtain ⟨n, rfl, hn, hall, rfl⟩ := hrel
            have HALL := hide hall
            clear hall
            obtain ⟨M, hM⟩ : ∃ M : Nat, 2 + n = M := ⟨_, rfl⟩
            have HM := hide hM
            rw [hM]
            have hpM : p + M ≤ s.size := by omega
            by_cases hlt : p + M + 1 < s.size
            · have u0 : decide ((p : Int) + (M : Int) + 1 < (s.size : Int)) = true := decide_eq_true (by omega)
              have g2 : wr.cell? ⟨b, off + (p + M), none⟩ = some (.int .u8 ((s.get! (p + M)).toNat : Int)) := HC.out (p + M) (by omega)
              have b2 : (s.get! (p + M)).toNat < 256 := (s.get! (p + M)).toNat_lt
              have g3 : wr.cell? ⟨b, off + (p + M + 1), none⟩ = some (.int .u8 ((s.get! (p + M + 1)).toNat : Int)) := HC.out (p + M + 1) hlt
              have b3 : (s.get! (p + M + 1)).toNat < 256 := (s.get! (p + M + 1)).toNat_lt
              obtain ⟨x, hx⟩ : ∃ x : Nat, (s.get! (p + M)).toNat = x := ⟨_, rfl⟩
              obtain ⟨x2, hx2⟩ : ∃ x2 : Nat, (s.get! (p + M + 1)).toNat = x2 := ⟨_, rfl⟩
              have HX := hide hx
              have HX2 := hide hx2
              rw [hx] at g2 b2
              rw [hx2] at g3 b3
              clear hx hx2 hM
              have HGO : Hid (¬ (x = 42 ∧ x2 = 47) → ∀ j, j < n + 1 → ¬ ((s.get! (p + 2 + j)).toNat = 42 ∧ (s.get! (p + 2 + j + 1)).toNat = 47)) := fun hne j hj => by
                have e := HM.out
                by_cases e2 : j = n
                · rw [e2, show p + 2 + n = p + M by omega, HX.out, HX2.out]; exact hne
                · exact HALL.out j (by omega)
              by_cases h42 : x = 42
              · have u1 : ((x : Int) == 42) = true := by rw [beq_iff_eq]; omega
                by_cases h47' : x2 = 47
                · have u2 : ((x2 : Int) == 47) = true := by rw [beq_iff_eq]; omega
                  have HR : Hid (bl s p = ((M + 2 : Nat) : Int)) := by
                    show _ = _
                    have e := HM.out
                    have hl : bc s (p + 2) s.size = some (p + 2 + n) := bc_hit s s.size (p + 2) n (by omega) (by omega) HALL.out (by rw [show p + 2 + n = p + M by omega, HX.out]; exact h42) (by rw [show p + 2 + n = p + M by omega, HX2.out]; exact h47')
                    rw [HB2.out, hl]
                    show ((p + 2 + n - p + 2 : Nat) : Int) = _
                    omega
                  clear h42 h47' HGO
                  go_wp2
                  go_ret
                  exact ⟨by rw [HR.out]; rfl, by first | rfl | trivial⟩
                · have u2 : ((x2 : Int) == 47) = false := by rw [beq_eq_false_iff_ne]; omega
                  have HG := hide (HGO.out (fun g => h47' g.2))
                  clear h42 h47' HGO
                  go_wp2
                  go_roundw
                  case rel => exact ⟨n + 1, by have e := HM.out; go_num, by have e := HM.out; omega, HG.out, by first | rfl | trivial⟩
                  case measure => simp [intOf]; omega
              · have u1 : ((x : Int) == 42) = false := by rw [beq_eq_false_iff_ne]; omega
                have HG := hide (HGO.out (fun g => h42 g.1))
                clear h42 HGO
                go_wp2
                go_roundw
                case rel => exact ⟨n + 1, by have e := HM.out; go_num, by have e := HM.out; omega, HG.out, by first | rfl | trivial⟩
                case measure => simp [intOf]; omega
            · have u0 : decide ((p : Int) + (M : Int) + 1 < (s.size : Int)) = false := decide_eq_false (by omega)
              have HR : Hid (bl s p = -1) := by
                show _ = _
                have e := HM.out
                have hl : bc s (p + 2) s.size = none := bc_miss s s.size (p + 2) (fun j hj => HALL.out j (by omega))
                rw [HB2.out, hl]; rfl
              clear hM
              go_wp2
              go_ret
              exact ⟨by rw [HR.out]; rfl, by first | rfl | trivial⟩
        · have t8 : ((z : Int) != 42) = true := by rw [bne_iff_ne]; omega
          have HR : Hid (bl s p = 0) := by show _ = _; rw [HBL.out, if_neg hz47, if_pos hz42]
          clear hz47 hz42 HBL
          go_enter Tryz.func12, Tryz.ntmps12
          go_wp2
          go_ret
          exact ⟨by rw [HR.out]; rfl, rfl⟩
    · have t5 : ((y : Int) != 47) = false := by rw [bne_eq_false_iff_eq]; omega
      have t6 : decide ((s.size : Int) ≤ (p : Int) + 1) = true := decide_eq_true (by omega)
      have HR : Hid (bl s p = 0) := by show _ = _; unfold bl; rw [hy, if_neg hb, if_pos (.inr (by omega))]
      rw [hy] at g0 b0
      clear hy hb h47
      go_enter Tryz.func12, Tryz.ntmps12
      go_wp2
      go_ret
      exact ⟨by rw [HR.out]; rfl, rfl⟩
  · have t5 : ((y : Int) != 47) = true := by rw [bne_iff_ne]; omega
    have HR : Hid (bl s p = 0) := by show _ = _; unfold bl; rw [hy, if_neg hb, if_pos (.inl h47)]
    rw [hy] at g0 b0
    clear hy hb h47
    go_enter Tryz.func12, Tryz.ntmps12
    go_wp2
    go_ret
    exact ⟨by rw [HR.out]; rfl, rfl⟩
end Go.Proofs.YthoinjddamlapaaGreatDoor

namespace Go.Proofs.YthoinjddamlapaaGreatDoor
open Go.RowKit

set_option maxHeartbeats 1000000 in
set_option maxRecDepth 1000000 in
theorem specLex_big (b off cap : Nat) (s : ByteArray) (w : World) (h : 5000 < s.size) :
    Calls Tryz.prog 5 #[.slice (some ⟨b, off, none⟩) s.size cap] w fun e w' => LexGives w w' e (lexed s) := by
  have HR : Hid (lexed s = ([], 4, 5000)) := by show _ = _; unfold lexed; rw [if_pos h]
  have t0 : decide ((5000 : Int) < (s.size : Int)) = true := decide_eq_true (by omega)
  clear h
  go_enter Tryz.func5, Tryz.ntmps5
  go_wp2
  go_ret3
  exact lexGives_nil HR.out (Below.refl _ _)

set_option maxHeartbeats 1000000 in
set_option maxRecDepth 1000000 in
theorem specLex_bad (b off cap : Nat) (s : ByteArray) (w : World) (hs : s.size ≤ 5000) (hc : ∀ j, j < s.size → w.cell? ⟨b, off + j, none⟩ = some (bts s j)) (hg : (chk s).1 ≠ 0) :
    Calls Tryz.prog 5 #[.slice (some ⟨b, off, none⟩) s.size cap] w fun e w' => LexGives w w' e (lexed s) := by
  have H := specCheck_any b off cap s w (by omega) hc
  obtain ⟨A, D, hAD⟩ : ∃ A D, chk s = (A, D) := ⟨_, _, rfl⟩
  rw [pairVal_of hAD] at H
  have H' := hide H
  have HR : Hid (lexed s = ([], A, D)) := by show _ = _; unfold lexed; rw [if_neg (by omega), if_neg hg, hAD]
  rw [hAD] at hg
  have t1 : ((A : Int) != 0) = true := by rw [bne_iff_ne]; simp only at hg; omega
  have t0 : decide ((5000 : Int) < (s.size : Int)) = false := decide_eq_false (by omega)
  clear hc H hAD hg
  go_enter Tryz.func5, Tryz.ntmps5
  go_wp2_with fail
  refine H'.out.mono ?_
  rintro e w1 ⟨rfl, hb⟩
  have HB := hide hb
  clear hb
  go_wp2
  go_ret3
  exact lexGives_nil HR.out HB.out

set_option maxHeartbeats 1000000 in
set_option maxRecDepth 1000000 in
theorem specLex_good (b off cap : Nat) (s : ByteArray) (w : World) (hs : s.size ≤ 5000) (hcap : s.size ≤ cap) (hc : ∀ j, j < s.size → w.cell? ⟨b, off + j, none⟩ = some (bts s j)) (hg : (chk s).1 = 0) :
    Calls Tryz.prog 5 #[.slice (some ⟨b, off, none⟩) s.size cap] w fun e w' => LexGives w w' e (lexed s) := by
  have H := specCheck_any b off cap s w (by omega) hc
  obtain ⟨A, D, hAD⟩ : ∃ A D, chk s = (A, D) := ⟨_, _, rfl⟩
  rw [pairVal_of hAD] at H
  have H' := hide H
  have HR : Hid (lexed s = lex s (s.size + 1) 0 []) := by show _ = _; unfold lexed; rw [if_neg (by omega), if_pos hg]
  rw [hAD] at hg
  have t1 : ((A : Int) != 0) = false := by rw [bne_eq_false_iff_eq]; simp only at hg; omega
  have t0 : decide ((5000 : Int) < (s.size : Int)) = false := decide_eq_false (by omega)
  have HC := hide hc
  obtain ⟨L, hL⟩ : ∃ L, lexed s = L := ⟨_, rfl⟩
  have HL : Hid (lex s (s.size + 1) 0 [] = L) := by show _ = _; rw [← HR.out]; exact hL
  rw [hL]
  clear hc H hAD hg HR hL
  go_enter Tryz.func5, Tryz.ntmps5
  go_wp2_with fail
  refine H'.out.mono ?_
  rintro e w1 ⟨rfl, hb⟩
  have HB := hide hb
  have hsz := hb.size
  clear hb
  go_wp2
  go_loopw [7, 8] (fun out ix wr => ∃ (i f : Nat) (acc : List (Nat × Nat × Nat)), ix = .int .i64 i ∧ i ≤ s.size ∧ s.size < i + f ∧ lex s f i acc = L ∧ acc.length ≤ i ∧ wr.ownsRow w.heap.size 28 3 out acc.length (tcv acc) ∧ Below w.heap.size w wr) (fun _ ix _ => s.size - (intOf ix).toNat)
  case atStart => exact ⟨0, s.size + 1, [], rfl, Nat.zero_le _, by omega, HL.out, by simp, World.ownsRow_nil _ _ _ _, HB.out⟩
  case round =>
    obtain ⟨i, f, acc, rfl, hi, hf, hk, hal, hown, hbl⟩ := hrel
    have HOWN := hide hown
    have HBL := hide hbl
    have HBs := hide hbl.size
    by_cases hlt : i < s.size
    · have d1 : decide ((i : Int) < (s.size : Int)) = true := decide_eq_true (by omega)
      obtain ⟨g, hfg, hst⟩ := lex_step (acc := acc) hf hlt
      have HBLK := blank_any b off cap i s wr (by omega) hlt (fun j hj => by rw [hbl.cell (p := ⟨b, off + j, none⟩) (World.block_lt_of_cell? _ _ (HC.out j hj))]; exact HC.out j hj)
      have HTOK := tok_any b off cap i s wr (by omega) hcap hlt (fun j hj => by rw [hbl.cell (p := ⟨b, off + j, none⟩) (World.block_lt_of_cell? _ _ (HC.out j hj))]; exact HC.out j hj)
      have hble := bl_le s i hlt
      have htle := tok_le s i hlt
      rw [hk] at hst
      have HST := hide hst
      obtain ⟨B, hB⟩ : ∃ B, bl s i = B := ⟨_, rfl⟩
      obtain ⟨K, M, hKM⟩ : ∃ K M, tok s i = (K, M) := ⟨_, _, rfl⟩
      rw [hB] at HBLK hble HST
      rw [two2_of hKM] at HTOK
      rw [hKM] at htle HST
      simp only at htle
      have HBLK' := hide HBLK
      have HTOK' := hide HTOK
      have hfg' : f ≤ g + 1 := by omega
      clear hk hown hbl hst HBLK HTOK hB hKM hfg
      by_cases hpos : 0 < B
      · obtain ⟨n, hn⟩ : ∃ n : Nat, B = (n : Int) := ⟨B.toNat, by omega⟩
        have HS : Hid (lex s g (i + n) acc = L) := by show _ = _; rw [HST.out, if_pos hpos, hn, Int.toNat_natCast]
        subst hn
        have u1 : decide ((0 : Int) < (n : Int)) = true := decide_eq_true hpos
        have hn1 : 1 ≤ n := by omega
        have hin : i + n ≤ s.size := by omega
        clear hpos hble HST
        go_wp2_with fail
        refine HBLK'.out.mono ?_
        rintro e w' ⟨rfl, rfl⟩
        go_wp2
        go_roundw
        case rel => exact ⟨i + n, g, acc, by go_num, hin, by omega, HS.out, by omega, HOWN.out, HBL.out⟩
        case measure => simp [intOf]; omega
      · have u1 : decide ((0 : Int) < B) = false := decide_eq_false hpos
        by_cases hneg : B < 0
        · have u2 : decide (B < 0) = true := decide_eq_true hneg
          have HS : Hid (L = ([], 2, i)) := by show _ = _; rw [HST.out, if_neg hpos, if_pos hneg]
          clear hpos hneg HST
          go_wp2_with fail
          refine HBLK'.out.mono ?_
          rintro e w' ⟨rfl, rfl⟩
          go_wp2
          go_ret3
          exact lexGives_nil HS.out HBL.out
        · have u2 : decide (B < 0) = false := decide_eq_false hneg
          by_cases hM : M = 0
          · have u3 : ((M : Int) == 0) = true := by rw [beq_iff_eq]; omega
            have HS : Hid (L = ([], 2, i)) := by show _ = _; rw [HST.out, if_neg hpos, if_neg hneg, if_pos hM]
            clear hpos hneg HST hM
            go_wp2_with fail
            refine HBLK'.out.mono ?_
            rintro e w' ⟨rfl, rfl⟩
            go_wp2_with fail
            refine HTOK'.out.mono ?_
            rintro e w2 ⟨rfl, hb2⟩
            have HB2 := hide (HBL.out.trans (hb2.mono HBs.out))
            clear hb2
            go_wp2
            go_ret3
            exact lexGives_nil HS.out HB2.out
          · have u3 : ((M : Int) == 0) = false := by rw [beq_eq_false_iff_ne]; omega
            have HS : Hid (lex s g (i + M) (acc ++ [(K, i, M)]) = L) := by show _ = _; rw [HST.out, if_neg hpos, if_neg hneg, if_neg hM]
            have hM1 : 1 ≤ M := by omega
            clear hpos hneg HST hM
            go_wp2_with fail
            refine HBLK'.out.mono ?_
            rintro e w' ⟨rfl, rfl⟩
            go_wp2_with fail
            refine HTOK'.out.mono ?_
            rintro e w2 ⟨rfl, hb2⟩
            have HB2 := hide (HBL.out.trans (hb2.mono HBs.out))
            have HO2 := hide (own_below HOWN.out hb2)
            clear hb2
            go_wp2_with (at_builtin; refine wp_tok rfl (.tmp 48) (.tmp 53) rfl w.heap.size _ acc rfl (HO2.out.alloc _) w2.heap.size 1 (K, i, M) rfl ?n1 ?l1 ?b1 ?_)
            case n1 =>
              intro j u hj
              refine (cell_fresh w2 #[.int .i64 K, .int .i64 i, .int .i64 M] 28 j).trans ?_
              rw [← hj, ← Array.getElem?_toList]; rfl
            case l1 => omega
            case b1 => (have := HB2.out.size; simp; omega)
            intro v' w3 l hl ho hg
            have e1 : l.length = acc.length + 1 := by rw [hl.out]; simp
            have HB3 : Hid (Below w.heap.size w w3) := tok_below (HB2.out.alloc HB2.out.size _) (HO2.out.alloc _) (by have := HB2.out.size; simp; omega) hg
            have HO3 := hide ho
            clear ho hg
            go_wp2
            go_roundw
            case rel => exact ⟨i + M, g, l, by go_num, htle, by omega, by rw [hl.out]; exact HS.out, by omega, HO3.out, HB3.out⟩
            case measure => simp [intOf]; omega
    · have d1 : decide ((i : Int) < (s.size : Int)) = false := decide_eq_false (by omega)
      have HS : Hid (L = (acc, 0, 0)) := by show _ = _; rw [← hk, lex_end hlt]
      clear hk hown hbl
      go_wp2
      go_ret3
      exact ⟨_, by rw [HS.out]; rfl, by rw [HS.out]; exact HOWN.out, HBL.out⟩

theorem specLex_any (b off cap : Nat) (s : ByteArray) (w : World) (hcap : s.size ≤ cap) (hc : ∀ j, j < s.size → w.cell? ⟨b, off + j, none⟩ = some (bts s j)) :
    Calls Tryz.prog 5 #[.slice (some ⟨b, off, none⟩) s.size cap] w fun e w' => LexGives w w' e (lexed s) := by
  by_cases h : 5000 < s.size
  · exact specLex_big b off cap s w h
  · by_cases hg : (chk s).1 = 0
    · exact specLex_good b off cap s w (by omega) hcap hc hg
    · exact specLex_bad b off cap s w (by omega) hc hg
end Go.Proofs.YthoinjddamlapaaGreatDoor

namespace Go.Proofs.YthoinjddamlapaaGreatDoor
open Go.RowKit

theorem toStr_nil (w : World) : (convert 22 9 (.slice none 0 0)).run Tryz.prog w = .ok (.string ByteArray.empty) w := by
  have := run_convert_bytes_nil (P := Tryz.prog) w 22 5 Tryz.underlying22 Tryz.underlying5 0 0 9 Tryz.underlying9
  exact this

set_option maxHeartbeats 400000 in
set_option maxRecDepth 1000000 in
theorem specCheck_nil (w : World) :
    Calls Tryz.prog 11 #[.slice none 0 0] w fun e w' => e = .returned (pairVal (0, 0)) ∧ Below w.heap.size w w' := by
  go_enter Tryz.func11, Tryz.ntmps11
  go_wp2
  go_loopw [4] (fun i wr => i = .int .i64 0 ∧ Below w.heap.size w wr) (fun _ _ => 0)
  case atStart => exact ⟨rfl, Below.refl _ _⟩
  case round =>
    obtain ⟨rfl, hb⟩ := hrel
    go_wp2
    go_ret2
    exact ⟨rfl, hb⟩

set_option maxHeartbeats 400000 in
set_option maxRecDepth 1000000 in
theorem implCheck_nil (w : World) :
    Calls Tryz.prog 14 #[.slice none 0 0] w fun e w' => e = .returned (pairVal (0, 0)) ∧ Below w.heap.size w w' := by
  have hcv := toStr_nil
  go_enter Tryz.func14, Tryz.ntmps14
  go_wp2
  clear hcv
  go_loopw [5] (fun _ wr => wr.heap[w.heap.size]? = some (.stringIter ByteArray.empty 0) ∧ Below w.heap.size w wr) (fun _ _ => 0)
  case atStart => exact ⟨World.iter_heap w ByteArray.empty 0, (Below.refl _ _).alloc (Nat.le_refl _) _⟩
  case round =>
    obtain ⟨hit, hb⟩ := hrel
    have hnx : ∀ ty, (Instr.next (.pointer (some ⟨w.heap.size, 0, none⟩)) true ty).run Tryz.prog wr = _ := fun ty => Lib.run_next_end_at wr w.heap.size ByteArray.empty 0 ty hit (Nat.lt_irrefl _)
    go_wp2
    go_ret2
    exact ⟨rfl, hb⟩

end Go.Proofs.YthoinjddamlapaaGreatDoor

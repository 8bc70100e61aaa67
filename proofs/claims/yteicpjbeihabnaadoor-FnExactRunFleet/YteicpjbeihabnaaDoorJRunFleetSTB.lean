/-
  The walk of l6rowOK.
-/
import Derived.Test.YteicpjbeihabnaaDoorJRunFleetSL4
import Derived.BigQuiet
import Derived.Deep.QuietTactic
namespace Go.Proofs.YteicpjbeihabnaaDoor
open Go.RowKit

set_option maxHeartbeats 4000000 in
set_option maxRecDepth 1000000 in
theorem l6row_any (d : Tb) (v2 v3 v4 : Value) (i : Nat) (w : World) (hb : TbB d) (h : TbV w d v2 v3 v4) (hx0 : 1 ≤ d.w) (hx1 : d.w ≤ 40) (hy0 : 1 ≤ d.h) (hy1 : d.h ≤ 40) (hi : i < d.targets.length) (hid : i < d.dist.length) (hih : i < d.hop.length) :
    Calls Tryd.prog 65 #[tbagg d v2 v3 v4, .int .i64 i] w fun e w' => Ans (RowOk d.w d.h (d.targets.getD i .zero).cell (d.dist.getD i []) (d.hop.getD i [])) e ∧ Below w.heap.size w w' := by
  have hl2 := hb.targets.len
  have hl3 := hb.dist.len
  have hl4 := hb.hop.len
  have hle3 := hb.dist.each i hid
  have hle4 := hb.hop.each i hih
  obtain ⟨a2, b2, o2, c2, rfl, ha2, hc2⟩ := h.targets
  obtain ⟨a3, b3, o3, c3, rfl, ha3, hc3⟩ := h.dist
  obtain ⟨a4, b4, o4, c4, rfl, ha4, hc4⟩ := h.hop
  obtain rfl := ha2 (by omega)
  obtain rfl := ha3 (by omega)
  obtain rfl := ha4 (by omega)
  obtain ⟨_, ht0, _⟩ := hc2 i hi
  have ht := ht0.cell
  obtain ⟨u3, hu3, hI3⟩ := hc3 i hid
  obtain ⟨u4, hu4, hI4⟩ := hc4 i hih
  obtain ⟨t, hT⟩ : ∃ t, (d.targets.getD i .zero).cell = t := ⟨_, rfl⟩
  obtain ⟨D, hD⟩ : ∃ D, d.dist.getD i [] = D := ⟨_, rfl⟩
  obtain ⟨P, hP⟩ : ∃ P, d.hop.getD i [] = P := ⟨_, rfl⟩
  rw [hT] at ht
  rw [hD] at hI3 hle3
  rw [hP] at hI4 hle4
  rw [hT, hD, hP]
  clear hT hD hP hc2 hc3 hc4 h hb ht0 ha2 ha3 ha4
  obtain ⟨aD, bD, oD, cD, rfl, hAD, hCD⟩ := hI3
  obtain ⟨aP, bP, oP, cP, rfl, hAP, hCP⟩ := hI4
  unfold tbagg
  obtain ⟨X, Y, T, Ds, Hs⟩ := d
  simp only at hx0 hx1 hy0 hy1 hi hid hih hl2 hl3 hl4 ⊢
  obtain ⟨W0, hW0⟩ : ∃ W, w.alloc (.cells #[.int .i64 X, .int .i64 Y, .slice (some ⟨b2, o2, none⟩) T.length c2, .slice (some ⟨b3, o3, none⟩) Ds.length c3, .slice (some ⟨b4, o4, none⟩) Hs.length c4] 31) = W := ⟨_, rfl⟩
  have hB0 : Below w.heap.size w W0 := by rw [← hW0]; exact (Below.refl _ _).alloc (Nat.le_refl _) _
  have hA0 : Blk W0 w.heap.size 31 #[.int .i64 X, .int .i64 Y, .slice (some ⟨b2, o2, none⟩) T.length c2, .slice (some ⟨b3, o3, none⟩) Ds.length c3, .slice (some ⟨b4, o4, none⟩) Hs.length c4] := by rw [← hW0]; exact Blk.new _ _ _
  have z0 := hA0.cell 0
  have z1 := hA0.cell 1
  have z2 := hA0.cell 2
  have z3 := hA0.cell 3
  have z4 := hA0.cell 4
  simp only [List.getElem?_toArray, List.getElem?_cons_succ, List.getElem?_cons_zero] at z0 z1 z2 z3 z4
  have y2 := cell_kept ht hB0
  have y3 := cell_kept hu3 hB0
  have y4 := cell_kept hu4 hB0
  have HC3 : Hid (∀ V, Below W0.heap.size W0 V → ∀ j, j < D.length → V.cell? ⟨bD, oD + j, none⟩ = some (.int .i64 (D.getD j 0))) := fun V hV j hj => cell_kept (cell_kept (hCD j hj) hB0) hV
  have HC4 : Hid (∀ V, Below W0.heap.size W0 V → ∀ j, j < P.length → V.cell? ⟨bP, oP + j, none⟩ = some (.int .i64 (P.getD j 0))) := fun V hV j hj => cell_kept (cell_kept (hCP j hj) hB0) hV
  have HW := hide hW0
  have HB := hide hB0
  have HBD : Hid (∀ V, Below W0.heap.size W0 V → ∀ p, Below w.heap.size w (V.drewN p)) := fun V hV p => below_drewN (hB0.trans (hV.mono hB0.size)) p
  clear hW0 hB0 hA0 ht hu3 hu4 hCD hCP
  have hn0 : 0 < X * Y := Int.mul_pos (by omega) (by omega)
  have hn1 : X * Y ≤ 1600 := by
    have : X * Y ≤ 40 * 40 := Int.mul_le_mul (by omega) (by omega) (by omega) (by omega)
    omega
  have HTO := hide (fun (c k : Nat) (hc : (c : Int) < X * Y) (hk : k < 4) w => l4to_any X Y c k w (by omega) (by omega) (by omega) (by omega) (by omega) hc hk)
  have HTL := hide (fun (c k : Nat) (hc : (c : Int) < X * Y) => toC_lt (h := Y) (show (1 : Int) ≤ X by omega) (by omega) hc k)
  obtain ⟨n, hn⟩ : ∃ n : Nat, X * Y = n := ⟨(X * Y).toNat, by omega⟩
  have HN := hide hn
  have hnb : (n : Int) ≤ 1600 := by omega
  have hnp : 0 < n := by omega
  have hii : (i : Int) < (T.length : Int) := by omega
  have hidi : (i : Int) < (Ds.length : Int) := by omega
  have hihi : (i : Int) < (Hs.length : Int) := by omega
  clear hn0 hn1 hx0 hx1 hy0 hy1 hi hid hih
  by_cases q5 : ¬ (D.length : Int) = (n : Int)
  · have t5 : ((D.length : Int) != (n : Int)) = true := by rw [bne_iff_ne]; exact q5
    have HR : Hid (¬ RowOk X Y t D P) := fun h => q5 (by rw [← HN.out]; exact h.dl)
    have hW := HW.out
    clear q5
    go_enter Tryd.func65, Tryd.ntmps65
    go_wp2
    go_ret
    exact ⟨Ans.no HR.out, HB.out⟩
  have t5 : ((D.length : Int) != (n : Int)) = false := by rw [bne_eq_false_iff_eq]; omega
  have HQ5 : Hid (D.length = n) := by show _ = _; omega
  clear q5
  by_cases q6 : ¬ (P.length : Int) = (n : Int)
  · have t6 : ((P.length : Int) != (n : Int)) = true := by rw [bne_iff_ne]; exact q6
    have HR : Hid (¬ RowOk X Y t D P) := fun h => q6 (by rw [← HN.out]; exact h.pl)
    have hW := HW.out
    clear q6
    go_enter Tryd.func65, Tryd.ntmps65
    go_wp2
    go_ret
    exact ⟨Ans.no HR.out, HB.out⟩
  have t6 : ((P.length : Int) != (n : Int)) = false := by rw [bne_eq_false_iff_eq]; omega
  have HQ6 : Hid (P.length = n) := by show _ = _; omega
  clear q6
  obtain rfl := hAD (by have := HQ5.out; omega)
  obtain rfl := hAP (by have := HQ6.out; omega)
  have hW := HW.out
  go_enter Tryd.func65, Tryd.ntmps65
  go_wp2
  clear t5 t6 hn hW hAD hAP y3 y4 z3 z4
  go_loopw [8] (fun ix wr => ∃ k : Nat, k ≤ n ∧ ix = .int .i64 k ∧ (∀ c, c < k → StepOk X Y t D P c) ∧ Below W0.heap.size W0 wr) (fun ix _ => n - (intOf ix).toNat)
  case atStart => exact ⟨0, Nat.zero_le _, rfl, fun _ h => absurd h (Nat.not_lt_zero _), Below.refl _ _⟩
  case round =>
    obtain ⟨k, hk, rfl, hst, hbw⟩ := hrel
    rename World => V
    have HST := hide hst
    have x0 := cell_kept z0 hbw
    have x1 := cell_kept z1 hbw
    have x2 := cell_kept z2 hbw
    have x3 := cell_kept y2 hbw
    have HBV := hide hbw
    have HBE := hide (HBD.out V hbw)
    have HBF : Hid (∀ p, Below W0.heap.size W0 (V.drewN p)) := fun p => below_drewN hbw p
    have HC3V := hide (HC3.out V hbw)
    have HC4V := hide (HC4.out V hbw)
    clear hst hbw z0 z1 z2 y2
    by_cases hlt : k < n
    · have hlti : (k : Int) < (n : Int) := by omega
      have hkD : (k : Int) < (D.length : Int) := by have := HQ5.out; omega
      have hkP : (k : Int) < (P.length : Int) := by have := HQ6.out; omega
      have f3 := HC3V.out k (by omega)
      have f4 := HC4V.out k (by omega)
      obtain ⟨x, hx⟩ : ∃ x, D.getD k 0 = x := ⟨_, rfl⟩
      obtain ⟨y, hy⟩ : ∃ y, P.getD k 0 = y := ⟨_, rfl⟩
      have HS : Hid (StepOk X Y t D P k ↔ if (k : Int) = t then x = 0 ∧ y = -1 else if x = -1 then y = -1 else 1 ≤ x ∧ x ≤ 65534 ∧ 0 ≤ y ∧ y ≤ 3 ∧ 0 ≤ toC X Y k y.toNat ∧ 0 ≤ D.getD (toC X Y k y.toNat).toNat 0 ∧ D.getD (toC X Y k y.toNat).toNat 0 < x) := by
        show _ ↔ _
        unfold StepOk
        rw [hx, hy]
      rw [hx] at f3
      rw [hy] at f4
      have HKN : Hid ((k : Int) < X * Y) := by show _ < _; rw [HN.out]; exact hlti
      have HNX : Hid (∀ k2, k2 = k + 1 → StepOk X Y t D P k → ∀ c, c < k2 → StepOk X Y t D P c) := fun k2 hk2 h c hc => by
        by_cases e : c = k
        · rw [e]; exact h
        · exact HST.out c (by omega)
      have HNO : Hid (¬ StepOk X Y t D P k → ¬ RowOk X Y t D P) := fun h h2 => h (h2.each k HKN.out)
      clear hx hy HST
      by_cases r0 : (k : Int) = t
      · have s0 : ((k : Int) == t) = true := by rw [beq_iff_eq]; exact r0
        have HS1 : Hid (StepOk X Y t D P k ↔ x = 0 ∧ y = -1) := by have := HS.out; rw [if_pos r0] at this; exact this
        clear HS r0
        by_cases r1 : x = 0
        · have s1 : (x != 0) = false := by rw [bne_eq_false_iff_eq]; exact r1
          by_cases r2 : y = -1
          · have s2 : (y != -1) = false := by rw [bne_eq_false_iff_eq]; exact r2
            have HOK := hide (HNX.out _ rfl (HS1.out.2 ⟨r1, r2⟩))
            clear r1 r2
            go_wp2
            go_roundw
            case rel => exact ⟨k + 1, by omega, by go_num, HOK.out, HBV.out⟩
            case measure => simp [intOf]; omega
          · have s2 : (y != -1) = true := by rw [bne_iff_ne]; exact r2
            have HR := hide (HNO.out (fun h => r2 (HS1.out.1 h).2))
            clear r1 r2
            go_wp2
            go_ret
            exact ⟨Ans.no HR.out, HBE.out 0⟩
        · have s1 : (x != 0) = true := by rw [bne_iff_ne]; exact r1
          have HR := hide (HNO.out (fun h => r1 (HS1.out.1 h).1))
          clear r1
          go_wp2
          go_ret
          exact ⟨Ans.no HR.out, HBE.out 0⟩
      have s0 : ((k : Int) == t) = false := by rw [beq_eq_false_iff_ne]; exact r0
      by_cases r1 : x = -1
      · have HS1 : Hid (StepOk X Y t D P k ↔ y = -1) := by have := HS.out; rw [if_neg r0, if_pos r1] at this; exact this
        have s1 : (x == -1) = true := by rw [beq_iff_eq]; exact r1
        have s3 : decide (x < 1) = true := decide_eq_true (by omega)
        clear HS r0
        by_cases r2 : y = -1
        · have s2 : (y == -1) = true := by rw [beq_iff_eq]; exact r2
          have HOK := hide (HNX.out _ rfl (HS1.out.2 r2))
          clear r1 r2
          go_wp2
          go_roundw
          case rel => exact ⟨k + 1, by omega, by go_num, HOK.out, HBV.out⟩
          case measure => simp [intOf]; omega
        · have s2 : (y == -1) = false := by rw [beq_eq_false_iff_ne]; exact r2
          have HR := hide (HNO.out (fun h => r2 (HS1.out.1 h)))
          clear r1 r2
          go_wp2
          go_ret
          exact ⟨Ans.no HR.out, HBE.out 0⟩
      have s1 : (x == -1) = false := by rw [beq_eq_false_iff_ne]; exact r1
      have HS1 : Hid (StepOk X Y t D P k ↔ 1 ≤ x ∧ x ≤ 65534 ∧ 0 ≤ y ∧ y ≤ 3 ∧ 0 ≤ toC X Y k y.toNat ∧ 0 ≤ D.getD (toC X Y k y.toNat).toNat 0 ∧ D.getD (toC X Y k y.toNat).toNat 0 < x) := by have := HS.out; rw [if_neg r0, if_neg r1] at this; exact this
      clear HS r0 r1
      by_cases r3 : x < 1
      · have s3 : decide (x < 1) = true := decide_eq_true r3
        have HR := hide (HNO.out (fun h => by have := (HS1.out.1 h).1; omega))
        clear r3
        go_wp2
        go_ret
        exact ⟨Ans.no HR.out, HBE.out 0⟩
      have s3 : decide (x < 1) = false := decide_eq_false r3
      by_cases r4 : 65534 < x
      · have s4 : decide (65534 < x) = true := decide_eq_true r4
        have HR := hide (HNO.out (fun h => by have := (HS1.out.1 h).2.1; omega))
        clear r3 r4
        go_wp2
        go_ret
        exact ⟨Ans.no HR.out, HBE.out 0⟩
      have s4 : decide (65534 < x) = false := decide_eq_false r4
      by_cases r5 : y < 0
      · have s5 : decide (y < 0) = true := decide_eq_true r5
        have HR := hide (HNO.out (fun h => by have := (HS1.out.1 h).2.2.1; omega))
        clear r3 r4 r5
        go_wp2
        go_ret
        exact ⟨Ans.no HR.out, HBE.out 0⟩
      have s5 : decide (y < 0) = false := decide_eq_false r5
      by_cases r6 : 3 < y
      · have s6 : decide (3 < y) = true := decide_eq_true r6
        have HR := hide (HNO.out (fun h => by have := (HS1.out.1 h).2.2.2.1; omega))
        clear r3 r4 r5 r6
        go_wp2
        go_ret
        exact ⟨Ans.no HR.out, HBE.out 0⟩
      have s6 : decide (3 < y) = false := decide_eq_false r6
      have HXB : Hid (1 ≤ x ∧ x ≤ 65534 ∧ 0 ≤ y ∧ y ≤ 3) := by show _ ∧ _; omega
      obtain ⟨m, rfl⟩ : ∃ m : Nat, y = m := ⟨y.toNat, by omega⟩
      have hm4 : m < 4 := by omega
      have HT4 := hide (HTO.out k m HKN.out hm4)
      have htl := HTL.out k m HKN.out
      rw [HN.out] at htl
      have HS2 : Hid (StepOk X Y t D P k ↔ 0 ≤ toC X Y k m ∧ 0 ≤ D.getD (toC X Y k m).toNat 0 ∧ D.getD (toC X Y k m).toNat 0 < x) := by
        have h1 := HS1.out
        have h2 := HXB.out
        rw [Int.toNat_natCast] at h1
        exact h1.trans ⟨fun h => h.2.2.2.2, fun h => ⟨h2.1, h2.2.1, h2.2.2.1, h2.2.2.2, h⟩⟩
      clear r3 r4 r5 r6 HS1
      obtain ⟨z, hz⟩ : ∃ z, toC X Y k m = z := ⟨_, rfl⟩
      rw [hz] at htl HS2
      simp only [hz] at HT4
      clear hz
      by_cases r7 : z < 0
      · have s7 : decide (z < 0) = true := decide_eq_true r7
        have HR := hide (HNO.out (fun h => by have := (HS2.out.1 h).1; omega))
        clear r7
        go_wp2_with fail
        go_quiet ((go_at_call 72; exact Calls.quiet_of_same (HT4.out _)))
        go_wp2_with fail
        go_quiet (fail)
        go_wp2
        go_ret
        exact ⟨Ans.no HR.out, below_drewN (HBE.out _) _⟩
      have s7 : decide (z < 0) = false := decide_eq_false r7
      obtain ⟨j, rfl⟩ : ∃ j : Nat, z = j := ⟨z.toNat, by omega⟩
      have hjD : (j : Int) < (D.length : Int) := by have := HQ5.out; omega
      have f5 := HC3V.out j (by omega)
      have HS3 : Hid (StepOk X Y t D P k ↔ 0 ≤ D.getD j 0 ∧ D.getD j 0 < x) := by
        have h1 := HS2.out
        rw [Int.toNat_natCast] at h1
        exact h1.trans ⟨fun h => h.2, fun h => ⟨by omega, h⟩⟩
      obtain ⟨q, hq⟩ : ∃ q, D.getD j 0 = q := ⟨_, rfl⟩
      rw [hq] at f5 HS3
      clear hq HS2 r7
      by_cases r8 : q < 0
      · have s8 : decide (q < 0) = true := decide_eq_true r8
        have HR := hide (HNO.out (fun h => by have := (HS3.out.1 h).1; omega))
        clear r8
        go_wp2_with fail
        go_quiet ((go_at_call 72; exact Calls.quiet_of_same (HT4.out _)))
        go_wp2_with fail
        go_quiet (fail)
        go_wp2
        go_ret
        exact ⟨Ans.no HR.out, below_drewN (HBE.out _) _⟩
      have s8 : decide (q < 0) = false := decide_eq_false r8
      by_cases r9 : x ≤ q
      · have s9 : decide (x ≤ q) = true := decide_eq_true r9
        have HR := hide (HNO.out (fun h => by have := (HS3.out.1 h).2; omega))
        clear r8 r9
        go_wp2_with fail
        go_quiet ((go_at_call 72; exact Calls.quiet_of_same (HT4.out _)))
        go_wp2_with fail
        go_quiet (fail)
        go_wp2
        go_ret
        exact ⟨Ans.no HR.out, below_drewN (HBE.out _) _⟩
      have s9 : decide (x ≤ q) = false := decide_eq_false r9
      have HOK := hide (HNX.out _ rfl (HS3.out.2 (by omega)))
      clear r8 r9
      go_wp2_with fail
      go_quiet ((go_at_call 72; exact Calls.quiet_of_same (HT4.out _)))
      go_wp2_with fail
      go_quiet (fail)
      go_wp2
      go_roundw
      case rel => exact ⟨k + 1, by omega, by go_num, HOK.out, HBF.out _⟩
      case measure => simp [intOf]; omega
    · have hge : ¬ (k : Int) < (n : Int) := by omega
      have HOK : Hid (RowOk X Y t D P) := ⟨by rw [HN.out, HQ5.out], by rw [HN.out, HQ6.out], fun c hc => HST.out c (by rw [HN.out] at hc; omega)⟩
      go_wp2
      go_ret
      exact ⟨Ans.yes HOK.out, HBE.out 0⟩
end Go.Proofs.YteicpjbeihabnaaDoor

/-
  The walk of validStep.
-/
import Derived.Test.YteicpjbeihabnaaDoorJRunFleetTK
import Derived.Test.YteicpjbeihabnaaDoorJRunFleetIL0
import Derived.BigQuiet
import Derived.Deep.QuietTactic
namespace Go.Proofs.YteicpjbeihabnaaDoor
open Go.RowKit

set_option maxHeartbeats 4000000 in
set_option maxRecDepth 1000000 in
theorem validStep_any (d : Tb) (v2 v3 v4 : Value) (i c : Nat) (w : World) (hb : TbB d) (h : TbV w d v2 v3 v4) (hx0 : 1 ≤ d.w) (hx1 : d.w ≤ 40) (hy0 : 1 ≤ d.h) (hy1 : d.h ≤ 40) (hi : i < d.targets.length) (hid : i < d.dist.length) (hih : i < d.hop.length) (hmv : MvOk w) (hdl : ((d.dist.getD i []).length : Int) = d.w * d.h) (hpl : ((d.hop.getD i []).length : Int) = d.w * d.h) (hc : (c : Int) < d.w * d.h) :
    Calls Tryd.prog 85 #[tbagg d v2 v3 v4, .int .i64 i, .int .i64 c] w fun e w' => Ans (StepOk d.w d.h (d.targets.getD i .zero).cell (d.dist.getD i []) (d.hop.getD i []) c) e ∧ Below w.heap.size w w' := by
  have hl2 := hb.targets.len
  have hl3 := hb.dist.len
  have hl4 := hb.hop.len
  have hle3 := hb.dist.each i hid
  have hle4 := hb.hop.each i hih
  obtain ⟨a2, b2, o2, c2, rfl, ha2, hc2⟩ := h.targets
  obtain ⟨a3, b3, o3, c3, rfl, ha3, hc3⟩ := h.dist
  obtain ⟨a4, b4, o4, c4, rfl, ha4, hc4⟩ := h.hop
  obtain rfl := ha2 (by omega)
  obtain rfl := ha3 (by omega)
  obtain rfl := ha4 (by omega)
  obtain ⟨_, ht0, _⟩ := hc2 i hi
  have ht := ht0.cell
  obtain ⟨u3, hu3, hI3⟩ := hc3 i hid
  obtain ⟨u4, hu4, hI4⟩ := hc4 i hih
  obtain ⟨t, hT⟩ : ∃ t, (d.targets.getD i .zero).cell = t := ⟨_, rfl⟩
  obtain ⟨D, hD⟩ : ∃ D, d.dist.getD i [] = D := ⟨_, rfl⟩
  obtain ⟨P, hP⟩ : ∃ P, d.hop.getD i [] = P := ⟨_, rfl⟩
  rw [hT] at ht
  rw [hD] at hI3 hle3 hdl
  rw [hP] at hI4 hle4 hpl
  rw [hT, hD, hP]
  clear hT hD hP hc2 hc3 hc4 h hb ht0 ha2 ha3 ha4
  obtain ⟨aD, bD, oD, cD, rfl, hAD, hCD⟩ := hI3
  obtain ⟨aP, bP, oP, cP, rfl, hAP, hCP⟩ := hI4
  unfold tbagg
  obtain ⟨X, Y, T, Ds, Hs⟩ := d
  simp only at hx0 hx1 hy0 hy1 hi hid hih hdl hpl hc hl2 hl3 hl4 ⊢
  obtain ⟨W0, hW0⟩ : ∃ W, w.alloc (.cells #[.int .i64 X, .int .i64 Y, .slice (some ⟨b2, o2, none⟩) T.length c2, .slice (some ⟨b3, o3, none⟩) Ds.length c3, .slice (some ⟨b4, o4, none⟩) Hs.length c4] 31) = W := ⟨_, rfl⟩
  have hB0 : Below w.heap.size w W0 := by rw [← hW0]; exact (Below.refl _ _).alloc (Nat.le_refl _) _
  have hA0 : Blk W0 w.heap.size 31 #[.int .i64 X, .int .i64 Y, .slice (some ⟨b2, o2, none⟩) T.length c2, .slice (some ⟨b3, o3, none⟩) Ds.length c3, .slice (some ⟨b4, o4, none⟩) Hs.length c4] := by rw [← hW0]; exact Blk.new _ _ _
  have z0 := hA0.cell 0
  have z1 := hA0.cell 1
  have z2 := hA0.cell 2
  have z3 := hA0.cell 3
  have z4 := hA0.cell 4
  simp only [List.getElem?_toArray, List.getElem?_cons_succ, List.getElem?_cons_zero] at z0 z1 z2 z3 z4
  have y2 := cell_kept ht hB0
  have y3 := cell_kept hu3 hB0
  have y4 := cell_kept hu4 hB0
  have HC3 : Hid (∀ j, j < D.length → W0.cell? ⟨bD, oD + j, none⟩ = some (.int .i64 (D.getD j 0))) := fun j hj => cell_kept (hCD j hj) hB0
  have HC4 : Hid (∀ j, j < P.length → W0.cell? ⟨bP, oP + j, none⟩ = some (.int .i64 (P.getD j 0))) := fun j hj => cell_kept (hCP j hj) hB0
  have HW := hide hW0
  have HB := hide hB0
  have HBD : Hid (∀ p, Below w.heap.size w (W0.drewN p)) := fun p => below_drewN hB0 p
  clear hW0 hB0 hA0 ht hu3 hu4 hCD hCP
  have hn0 : 0 < X * Y := Int.mul_pos (by omega) (by omega)
  have hn1 : X * Y ≤ 1600 := by
    have : X * Y ≤ 40 * 40 := Int.mul_le_mul (by omega) (by omega) (by omega) (by omega)
    omega
  have HNB := hide (fun (m : Nat) (p : Nat) (hm : m < 4) => neighbor_any X Y c m (W0.drewN p) (hmv.below (HBD.out p)) hx0 hx1 hy1 (by omega) hc hm)
  have HNV := hide (fun (m : Nat) (hm : m < 4) => (insd_toC (H := Y) (d := m) hx0 (by omega) hc hm).2)
  have HTL := hide (fun (m : Nat) => toC_lt (h := Y) hx0 (by omega) hc m)
  obtain ⟨n, hn⟩ : ∃ n : Nat, X * Y = n := ⟨(X * Y).toNat, by omega⟩
  have HN := hide hn
  have hnb : (n : Int) ≤ 1600 := by omega
  have hnp : 0 < n := by omega
  have hii : (i : Int) < (T.length : Int) := by omega
  have hidi : (i : Int) < (Ds.length : Int) := by omega
  have hihi : (i : Int) < (Hs.length : Int) := by omega
  rw [hn] at hdl hpl hc
  have hdl' : D.length = n := by omega
  have hpl' : P.length = n := by omega
  have hkD : (c : Int) < (D.length : Int) := by omega
  have hkP : (c : Int) < (P.length : Int) := by omega
  obtain rfl := hAD (by omega)
  obtain rfl := hAP (by omega)
  have HQ5 := hide hdl'
  have HQ6 := hide hpl'
  have f3 := HC3.out c (by omega)
  have f4 := HC4.out c (by omega)
  clear hn0 hn1 hx0 hx1 hy0 hy1 hi hid hih hmv hdl hpl hdl' hpl' hn hAD hAP
  obtain ⟨x, hx⟩ : ∃ x, D.getD c 0 = x := ⟨_, rfl⟩
  obtain ⟨y, hy⟩ : ∃ y, P.getD c 0 = y := ⟨_, rfl⟩
  have HS : Hid (StepOk X Y t D P c ↔ if (c : Int) = t then x = 0 ∧ y = -1 else if x = -1 then y = -1 else 1 ≤ x ∧ x ≤ 65534 ∧ 0 ≤ y ∧ y ≤ 3 ∧ 0 ≤ toC X Y c y.toNat ∧ 0 ≤ D.getD (toC X Y c y.toNat).toNat 0 ∧ D.getD (toC X Y c y.toNat).toNat 0 < x) := by
    show _ ↔ _
    unfold StepOk
    rw [hx, hy]
  rw [hx] at f3
  rw [hy] at f4
  have hW := HW.out
  clear hx hy
  by_cases r0 : (c : Int) = t
  · have s0 : ((c : Int) == t) = true := by rw [beq_iff_eq]; exact r0
    have HS1 : Hid (StepOk X Y t D P c ↔ x = 0 ∧ y = -1) := by have := HS.out; rw [if_pos r0] at this; exact this
    clear HS r0
    by_cases r1 : x = 0
    · have s1 : (x == 0) = true := by rw [beq_iff_eq]; exact r1
      by_cases r2 : y = -1
      · have s2 : (y == -1) = true := by rw [beq_iff_eq]; exact r2
        have HOK := hide (HS1.out.2 ⟨r1, r2⟩)
        clear r1 r2
        go_enter Tryd.func85, Tryd.ntmps85
        go_wp2_with fail
        go_quiet (fail)
        go_wp2
        go_ret
        exact ⟨Ans.yes HOK.out, HBD.out _⟩
      · have s2 : (y == -1) = false := by rw [beq_eq_false_iff_ne]; exact r2
        have HR : Hid (¬ StepOk X Y t D P c) := fun h => r2 (HS1.out.1 h).2
        clear r1 r2
        go_enter Tryd.func85, Tryd.ntmps85
        go_wp2_with fail
        go_quiet (fail)
        go_wp2
        go_ret
        exact ⟨Ans.no HR.out, HBD.out _⟩
    · have s1 : (x == 0) = false := by rw [beq_eq_false_iff_ne]; exact r1
      have HR : Hid (¬ StepOk X Y t D P c) := fun h => r1 (HS1.out.1 h).1
      clear r1
      go_enter Tryd.func85, Tryd.ntmps85
      go_wp2_with fail
      go_quiet (fail)
      go_wp2
      go_ret
      exact ⟨Ans.no HR.out, HBD.out _⟩
  have s0 : ((c : Int) == t) = false := by rw [beq_eq_false_iff_ne]; exact r0
  by_cases r1 : x = -1
  · have HS1 : Hid (StepOk X Y t D P c ↔ y = -1) := by have := HS.out; rw [if_neg r0, if_pos r1] at this; exact this
    have s1 : (x == -1) = true := by rw [beq_iff_eq]; exact r1
    clear HS r0
    by_cases r2 : y = -1
    · have s2 : (y == -1) = true := by rw [beq_iff_eq]; exact r2
      have HOK := hide (HS1.out.2 r2)
      clear r1 r2
      go_enter Tryd.func85, Tryd.ntmps85
      go_wp2_with fail
      go_quiet (fail)
      go_wp2
      go_ret
      exact ⟨Ans.yes HOK.out, HBD.out _⟩
    · have s2 : (y == -1) = false := by rw [beq_eq_false_iff_ne]; exact r2
      have HR : Hid (¬ StepOk X Y t D P c) := fun h => r2 (HS1.out.1 h)
      clear r1 r2
      go_enter Tryd.func85, Tryd.ntmps85
      go_wp2_with fail
      go_quiet (fail)
      go_wp2
      go_ret
      exact ⟨Ans.no HR.out, HBD.out _⟩
  have s1 : (x == -1) = false := by rw [beq_eq_false_iff_ne]; exact r1
  have HS1 : Hid (StepOk X Y t D P c ↔ 1 ≤ x ∧ x ≤ 65534 ∧ 0 ≤ y ∧ y ≤ 3 ∧ 0 ≤ toC X Y c y.toNat ∧ 0 ≤ D.getD (toC X Y c y.toNat).toNat 0 ∧ D.getD (toC X Y c y.toNat).toNat 0 < x) := by have := HS.out; rw [if_neg r0, if_neg r1] at this; exact this
  clear HS r0 r1
  by_cases r3 : x < 1
  · have s3 : decide (x < 1) = true := decide_eq_true r3
    have HR : Hid (¬ StepOk X Y t D P c) := fun h => by have := (HS1.out.1 h).1; omega
    clear r3
    go_enter Tryd.func85, Tryd.ntmps85
    go_wp2_with fail
    go_quiet (fail)
    go_wp2
    go_ret
    exact ⟨Ans.no HR.out, HBD.out _⟩
  have s3 : decide (x < 1) = false := decide_eq_false r3
  by_cases r4 : 65534 < x
  · have s4 : decide (65534 < x) = true := decide_eq_true r4
    have HR : Hid (¬ StepOk X Y t D P c) := fun h => by have := (HS1.out.1 h).2.1; omega
    clear r3 r4
    go_enter Tryd.func85, Tryd.ntmps85
    go_wp2_with fail
    go_quiet (fail)
    go_wp2
    go_ret
    exact ⟨Ans.no HR.out, HBD.out _⟩
  have s4 : decide (65534 < x) = false := decide_eq_false r4
  by_cases r5 : y < 0
  · have s5 : decide (y < 0) = true := decide_eq_true r5
    have HR : Hid (¬ StepOk X Y t D P c) := fun h => by have := (HS1.out.1 h).2.2.1; omega
    clear r3 r4 r5
    go_enter Tryd.func85, Tryd.ntmps85
    go_wp2_with fail
    go_quiet (fail)
    go_wp2
    go_ret
    exact ⟨Ans.no HR.out, HBD.out _⟩
  have s5 : decide (y < 0) = false := decide_eq_false r5
  by_cases r6 : 3 < y
  · have s6 : decide (3 < y) = true := decide_eq_true r6
    have HR : Hid (¬ StepOk X Y t D P c) := fun h => by have := (HS1.out.1 h).2.2.2.1; omega
    clear r3 r4 r5 r6
    go_enter Tryd.func85, Tryd.ntmps85
    go_wp2_with fail
    go_quiet (fail)
    go_wp2
    go_ret
    exact ⟨Ans.no HR.out, HBD.out _⟩
  have s6 : decide (3 < y) = false := decide_eq_false r6
  have HXB : Hid (1 ≤ x ∧ x ≤ 65534 ∧ 0 ≤ y ∧ y ≤ 3) := by show _ ∧ _; omega
  obtain ⟨m, rfl⟩ : ∃ m : Nat, y = m := ⟨y.toNat, by omega⟩
  have hm4 : m < 4 := by omega
  have HN4 := hide (fun p => HNB.out m p hm4)
  have HV4 := hide (HNV.out m hm4)
  have htl := HTL.out m
  rw [HN.out] at htl
  have HS2 : Hid (StepOk X Y t D P c ↔ 0 ≤ toC X Y c m ∧ 0 ≤ D.getD (toC X Y c m).toNat 0 ∧ D.getD (toC X Y c m).toNat 0 < x) := by
    have h1 := HS1.out
    have h2 := HXB.out
    rw [Int.toNat_natCast] at h1
    exact h1.trans ⟨fun h => h.2.2.2.2, fun h => ⟨h2.1, h2.2.1, h2.2.2.1, h2.2.2.2, h⟩⟩
  clear r3 r4 r5 r6 HS1 HNB HNV HTL
  obtain ⟨z, hz⟩ : ∃ z, toC X Y c m = z := ⟨_, rfl⟩
  obtain ⟨nb, hnb⟩ : ∃ v, nbv X c m = v := ⟨_, rfl⟩
  rw [hz, hnb] at HV4
  rw [hz] at htl HS2
  simp only [hz, hnb] at HN4
  clear hz hnb
  by_cases r7 : z < 0
  · have s7 : decide (0 ≤ z) = false := decide_eq_false (by omega)
    have HR : Hid (¬ StepOk X Y t D P c) := fun h => by have := (HS2.out.1 h).1; omega
    clear r7
    rw [s7] at HN4
    go_enter Tryd.func85, Tryd.ntmps85
    go_wp2_with fail
    go_quiet (fail)
    go_wp2_with fail
    refine (HN4.out _).mono ?_
    rintro e w6 ⟨rfl, hb6⟩
    have HB6 : Hid (∀ p, Below w.heap.size w (w6.drewN p)) := fun p => below_drewN ((HBD.out _).trans (hb6.mono (HBD.out _).size)) p
    clear hb6
    go_wp2
    go_ret
    exact ⟨Ans.no HR.out, HB6.out 0⟩
  have s7 : decide (0 ≤ z) = true := decide_eq_true (by omega)
  rw [s7] at HN4
  obtain rfl : nb = z := HV4.out (by omega)
  obtain ⟨j, rfl⟩ : ∃ j : Nat, nb = j := ⟨nb.toNat, by omega⟩
  have hjD : (j : Int) < (D.length : Int) := by have := HQ5.out; omega
  have f5 := HC3.out j (by omega)
  have HS3 : Hid (StepOk X Y t D P c ↔ 0 ≤ D.getD j 0 ∧ D.getD j 0 < x) := by
    have h1 := HS2.out
    rw [Int.toNat_natCast] at h1
    exact h1.trans ⟨fun h => h.2, fun h => ⟨by omega, h⟩⟩
  obtain ⟨q, hq⟩ : ∃ q, D.getD j 0 = q := ⟨_, rfl⟩
  rw [hq] at f5 HS3
  clear hq HS2 r7 s7
  by_cases r8 : q < 0
  · have s8 : decide (0 ≤ q) = false := decide_eq_false (by omega)
    have HR : Hid (¬ StepOk X Y t D P c) := fun h => by have := (HS3.out.1 h).1; omega
    clear r8
    go_enter Tryd.func85, Tryd.ntmps85
    go_wp2_with fail
    go_quiet (fail)
    go_wp2_with fail
    refine (HN4.out _).mono ?_
    rintro e w6 ⟨rfl, hb6⟩
    have hb0 : Below W0.heap.size W0 w6 := (below_drewN (Below.refl W0.heap.size W0) _).trans (hb6.mono (below_drewN (Below.refl W0.heap.size W0) _).size)
    have HB6 : Hid (∀ p, Below w.heap.size w (w6.drewN p)) := fun p => below_drewN ((HBD.out 0).trans (hb0.mono (HBD.out 0).size)) p
    have x3 := cell_kept z3 hb0
    have x4 := cell_kept y3 hb0
    have x5 := cell_kept f5 hb0
    clear hb6 hb0 hW
    go_wp2
    go_ret
    exact ⟨Ans.no HR.out, HB6.out 0⟩
  have s8 : decide (0 ≤ q) = true := decide_eq_true (by omega)
  by_cases r9 : x ≤ q
  · have s9 : decide (q < x) = false := decide_eq_false (by omega)
    have HR : Hid (¬ StepOk X Y t D P c) := fun h => by have := (HS3.out.1 h).2; omega
    clear r8 r9
    go_enter Tryd.func85, Tryd.ntmps85
    go_wp2_with fail
    go_quiet (fail)
    go_wp2_with fail
    refine (HN4.out _).mono ?_
    rintro e w6 ⟨rfl, hb6⟩
    have hb0 : Below W0.heap.size W0 w6 := (below_drewN (Below.refl W0.heap.size W0) _).trans (hb6.mono (below_drewN (Below.refl W0.heap.size W0) _).size)
    have HB6 : Hid (∀ p, Below w.heap.size w (w6.drewN p)) := fun p => below_drewN ((HBD.out 0).trans (hb0.mono (HBD.out 0).size)) p
    have x3 := cell_kept z3 hb0
    have x4 := cell_kept y3 hb0
    have x5 := cell_kept f5 hb0
    clear hb6 hb0 hW
    go_wp2
    go_ret
    exact ⟨Ans.no HR.out, HB6.out 0⟩
  have s9 : decide (q < x) = true := decide_eq_true (by omega)
  have HOK := hide (HS3.out.2 (by omega))
  clear r8 r9
  go_enter Tryd.func85, Tryd.ntmps85
  go_wp2_with fail
  go_quiet (fail)
  go_wp2_with fail
  refine (HN4.out _).mono ?_
  rintro e w6 ⟨rfl, hb6⟩
  have hb0 : Below W0.heap.size W0 w6 := (below_drewN (Below.refl W0.heap.size W0) _).trans (hb6.mono (below_drewN (Below.refl W0.heap.size W0) _).size)
  have HB6 : Hid (∀ p, Below w.heap.size w (w6.drewN p)) := fun p => below_drewN ((HBD.out 0).trans (hb0.mono (HBD.out 0).size)) p
  have x3 := cell_kept z3 hb0
  have x4 := cell_kept y3 hb0
  have x5 := cell_kept f5 hb0
  clear hb6 hb0 hW
  go_wp2
  go_ret
  exact ⟨Ans.yes HOK.out, HB6.out 0⟩
end Go.Proofs.YteicpjbeihabnaaDoor

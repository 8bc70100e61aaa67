/-
  The walk of spec.ValidFleet.
-/
import Derived.Test.YteicpjbeihabnaaDoorJRunFleetSNX
import Derived.Test.YteicpjbeihabnaaDoorJRunFleetVFD
import Derived.BigQuiet
import Derived.Deep.QuietTactic
namespace Go.Proofs.YteicpjbeihabnaaDoor
open Go.RowKit

/-- A number that may stand. -/
def ctB (v : Int) : Bool := decide (0 ≤ v) && decide (v ≤ 1000000)
theorem ctB_iff (v : Int) : ctB v = true ↔ 0 ≤ v ∧ v ≤ 1000000 := by unfold ctB; rw [Bool.and_eq_true, decide_eq_true_iff, decide_eq_true_iff]
set_option maxRecDepth 1000000 in
theorem l8count_any (v : Int) (w : World) : Calls Tryd.prog 55 #[.int .i64 v] w fun e w' => e = .returned (.bool (ctB v)) ∧ w' = w := by
  unfold ctB
  obtain ⟨b0, t0⟩ : ∃ b, decide (0 ≤ v) = b := ⟨_, rfl⟩
  obtain ⟨b1, t1⟩ : ∃ b, decide (v ≤ 1000000) = b := ⟨_, rfl⟩
  rw [t0, t1]
  cases b0 <;> cases b1
  all_goals
    go_enter Tryd.func55, Tryd.ntmps55
    go_wp2
    go_ret
    exact ⟨rfl, rfl⟩

set_option maxHeartbeats 4000000 in
set_option maxRecDepth 1000000 in
theorem specVF_any (d : Tb) (v2 v3 v4 : Value) (L : List Ro) (u : Value) (w : World) (hb : TbB d) (hL : L.length ≤ 1048576) (h : TbV w d v2 v3 v4) (hu : RoS w u L) :
    Calls Tryd.prog 25 #[tbagg d v2 v3 v4, u] w fun e w' => Ans (VfOk d L) e ∧ Below w.heap.size w w' := by
  have HVT := hide (fun V (hV : Below w.heap.size w V) => specTables_any d v2 v3 v4 V hb (h.below hV))
  have HAS := hide (fun V tg ce (hok : TbOk d) => l8asks_any d v2 v3 v4 tg ce V hb.targets.len hok.w0 hok.w1 hok.h0 hok.h1 h.targets.slice)
  obtain ⟨au, bu, ou, cu, rfl, hau, hcu⟩ := hu
  have HRC : Hid (∀ V, Below w.heap.size w V → ∀ j, j < L.length → RoC V bu (ou + j * 5) (L.getD j .zero)) := fun V hV j hj => (hcu j hj).below hV
  have HAU := hide hau
  obtain ⟨a2, c2, rfl⟩ := h.targets.slice
  obtain ⟨a3, c3, rfl⟩ := h.dist.slice
  obtain ⟨a4, c4, rfl⟩ := h.hop.slice
  clear h hb hcu hau
  unfold tbagg at HVT HAS ⊢
  obtain ⟨X, Y, T, Ds, Hs⟩ := d
  simp only at HVT HAS ⊢
  obtain ⟨W0, hW0⟩ : ∃ W, w.alloc (.cells #[.int .i64 X, .int .i64 Y, .slice a2 T.length c2, .slice a3 Ds.length c3, .slice a4 Hs.length c4] 31) = W := ⟨_, rfl⟩
  have hB0 : Below w.heap.size w W0 := by rw [← hW0]; exact (Below.refl _ _).alloc (Nat.le_refl _) _
  have hA0 : Blk W0 w.heap.size 31 #[.int .i64 X, .int .i64 Y, .slice a2 T.length c2, .slice a3 Ds.length c3, .slice a4 Hs.length c4] := by rw [← hW0]; exact Blk.new _ _ _
  have z0 := hA0.cell 0
  have z1 := hA0.cell 1
  have z2 := hA0.cell 2
  have z3 := hA0.cell 3
  have z4 := hA0.cell 4
  simp only [List.getElem?_toArray, List.getElem?_cons_succ, List.getElem?_cons_zero] at z0 z1 z2 z3 z4
  have HB := hide hB0
  have HTC := hide (HVT.out W0 hB0)
  have hW := hW0
  clear hW0 hB0 hA0 HVT
  go_enter Tryd.func25, Tryd.ntmps25
  go_wp2_with fail
  refine HTC.out.mono ?_
  rintro e w1 ⟨⟨tb, rfl, hti⟩, hb1⟩
  have HTI := hide hti
  have HB1 : Hid (Below w.heap.size w w1) := HB.out.trans (hb1.mono HB.out.size)
  have y0 := cell_kept z0 hb1
  have y1 := cell_kept z1 hb1
  have y2 := cell_kept z2 hb1
  have y3 := cell_kept z3 hb1
  have y4 := cell_kept z4 hb1
  clear hti hb1 z0 z1 z2 z3 z4 hW HTC
  cases tb with
  | false =>
    have HR : Hid (¬ VfOk ⟨X, Y, T, Ds, Hs⟩ L) := fun h => by have := HTI.out.2 h.tb; cases this
    go_wp2
    go_ret
    exact ⟨Ans.no HR.out, HB1.out⟩
  | true =>
  have HOK := hide (HTI.out.1 rfl)
  by_cases q0 : 30 < (L.length : Int)
  · have t0 : decide (30 < (L.length : Int)) = true := decide_eq_true q0
    have HR : Hid (¬ VfOk ⟨X, Y, T, Ds, Hs⟩ L) := fun h => by have := h.len; omega
    clear q0
    go_wp2
    go_ret
    exact ⟨Ans.no HR.out, HB1.out⟩
  have t0 : decide (30 < (L.length : Int)) = false := decide_eq_false q0
  have HL30 : Hid (L.length ≤ 30) := by show _ ≤ _; omega
  clear q0
  go_wp2
  clear t0
  go_loopw [5] (fun ix wr => ∃ i : Nat, i ≤ L.length ∧ ix = .int .i64 i ∧ (∀ j, j < i → RoOk ⟨X, Y, T, Ds, Hs⟩ (L.getD j .zero)) ∧ (∀ j k, k < j → j < i → (L.getD j .zero).done = false → (L.getD k .zero).done = false → (L.getD k .zero).cell ≠ (L.getD j .zero).cell) ∧ Below w1.heap.size w1 wr) (fun ix _ => L.length - (intOf ix).toNat)
  case atStart => exact ⟨0, Nat.zero_le _, rfl, fun _ h => absurd h (Nat.not_lt_zero _), fun _ _ _ h => absurd h (Nat.not_lt_zero _), Below.refl _ _⟩
  case round =>
    obtain ⟨i, hi, rfl, hec, hdf, hbl⟩ := hrel
    rename World => V
    have HEC := hide hec
    have HDF := hide hdf
    have HBV := hide hbl
    have HBE : Hid (Below w.heap.size w V) := HB1.out.trans (hbl.mono HB1.out.size)
    clear hec hdf
    by_cases hlt : i < L.length
    · have hlti : (i : Int) < (L.length : Int) := by omega
      obtain rfl := HAU.out (by omega)
      have hro := HRC.out V HBE.out i hlt
      obtain ⟨d, hd⟩ : ∃ d, L.getD i .zero = d := ⟨_, rfl⟩
      rw [hd] at hro
      have HD := hide hd
      obtain ⟨e0, e1, e2, e3, e4⟩ := hro
      obtain ⟨p0, p1, p2, p3, p4⟩ := d
      simp only at e0 e1 e2 e3 e4
      obtain ⟨W1, hW1⟩ : ∃ W, V.alloc (.cells #[.int .i64 p0, .int .i64 p1, .int .i64 p2, .int .i64 p3, .bool p4] 76) = W := ⟨_, rfl⟩
      have hb1 : Below V.heap.size V W1 := by rw [← hW1]; exact (Below.refl _ _).alloc (Nat.le_refl _) _
      have hBk : Blk W1 V.heap.size 76 #[.int .i64 p0, .int .i64 p1, .int .i64 p2, .int .i64 p3, .bool p4] := by rw [← hW1]; exact Blk.new _ _ _
      have z0 := hBk.cell 0
      have z1 := hBk.cell 1
      simp only [List.getElem?_toArray, List.getElem?_cons_succ, List.getElem?_cons_zero] at z0 z1
      have hbw : Below w1.heap.size w1 W1 := hbl.trans (hb1.mono hbl.size)
      have HBW := hide hbw
      have HBX : Hid (Below w.heap.size w W1) := HBE.out.trans (hb1.mono HBE.out.size)
      have x0 := cell_kept y0 hbw
      have x1 := cell_kept y1 hbw
      have x2 := cell_kept y2 hbw
      have x3 := cell_kept y3 hbw
      have x4 := cell_kept y4 hbw
      have HBK := hide hBk
      have HA1 := hide (HAS.out W1 p1 p0 HOK.out)
      have hW := hW1
      have HNO : Hid (¬ RoOk ⟨X, Y, T, Ds, Hs⟩ ⟨p0, p1, p2, p3, p4⟩ → ¬ VfOk ⟨X, Y, T, Ds, Hs⟩ L) := fun h h2 => h (by have := h2.each i hlt; rw [HD.out] at this; exact this)
      clear hd hbl hb1 hBk hbw hW1
      go_wp2_with fail
      refine HA1.out.mono ?_
      rintro e w2 ⟨⟨ab, rfl, hai⟩, hb2⟩
      have HAI := hide hai
      have HB2 : Hid (Below w1.heap.size w1 w2) := HBW.out.trans (hb2.mono HBW.out.size)
      have HE2 : Hid (Below w.heap.size w w2) := HBX.out.trans (hb2.mono HBX.out.size)
      have hbk2 := HBK.out.below hb2
      obtain ⟨B, hB⟩ : ∃ B, V.heap.size = B := ⟨_, rfl⟩
      rw [hB] at hbk2 ⊢
      have HBK2 := hide hbk2
      have n0 := hbk2.cell 0
      have n2 := hbk2.cell 2
      have n3 := hbk2.cell 3
      have n4 := hbk2.cell 4
      simp only [List.getElem?_toArray, List.getElem?_cons_succ, List.getElem?_cons_zero] at n0 n2 n3 n4
      have HE5 := hide (HRC.out w2 HE2.out)
      clear hai hb2 hbk2 HA1 x0 x1 x2 x3 x4 z0 z1 e0 e1 e2 e3 e4 hW hB HBK
      cases ab with
      | false =>
        have HR := hide (HNO.out (fun h => by have := HAI.out.2 h.ask; cases this))
        go_wp2
        go_ret
        exact ⟨Ans.no HR.out, HE2.out⟩
      | true =>
      have HASK := hide (HAI.out.1 rfl)
      obtain ⟨m1, hm1⟩ : ∃ b, ctB p2 = b := ⟨_, rfl⟩
      have HCM := hide (l8count_any p2 w2)
      rw [hm1] at HCM
      cases m1 with
      | false =>
        have HR := hide (HNO.out (fun h => by have := (ctB_iff p2).2 ⟨h.m0, h.m1⟩; rw [hm1] at this; cases this))
        go_wp2_with fail
        refine HCM.out.mono ?_
        rintro e w3 ⟨rfl, hw3⟩
        subst hw3
        go_wp2
        go_ret
        exact ⟨Ans.no HR.out, HE2.out⟩
      | true =>
      obtain ⟨m2, hm2⟩ : ∃ b, ctB p3 = b := ⟨_, rfl⟩
      have HCW := hide (l8count_any p3 w2)
      rw [hm2] at HCW
      cases m2 with
      | false =>
        have HR := hide (HNO.out (fun h => by have := (ctB_iff p3).2 ⟨h.w0, h.w1⟩; rw [hm2] at this; cases this))
        go_wp2_with fail
        refine HCM.out.mono ?_
        rintro e w3 ⟨rfl, hw3⟩
        subst hw3
        go_wp2_with fail
        refine HCW.out.mono ?_
        rintro e w3 ⟨rfl, hw3⟩
        subst hw3
        go_wp2
        go_ret
        exact ⟨Ans.no HR.out, HE2.out⟩
      | true =>
      have HRO : Hid (RoOk ⟨X, Y, T, Ds, Hs⟩ ⟨p0, p1, p2, p3, p4⟩) := ⟨HASK.out, ((ctB_iff p2).1 hm1).1, ((ctB_iff p2).1 hm1).2, ((ctB_iff p3).1 hm2).1, ((ctB_iff p3).1 hm2).2⟩
      have HEC1 : Hid (∀ j, j < i + 1 → RoOk ⟨X, Y, T, Ds, Hs⟩ (L.getD j .zero)) := fun j hj => by
        by_cases e : j = i
        · rw [e, HD.out]; exact HRO.out
        · exact HEC.out j (by omega)
      clear hm1 hm2
      go_wp2_with fail
      refine HCM.out.mono ?_
      rintro e w3 ⟨rfl, hw3⟩
      subst hw3
      go_wp2_with fail
      refine HCW.out.mono ?_
      rintro e w3 ⟨rfl, hw3⟩
      subst hw3
      rename World => w2
      clear HCM HCW
      go_wp2
      go_loopw [7] (fun kx wr => ∃ k p : Nat, k ≤ i ∧ kx = .int .i64 k ∧ (∀ j, j < k → p4 = false → (L.getD j .zero).done = false → (L.getD j .zero).cell ≠ p0) ∧ wr = w2.drewN p) (fun kx _ => i - (intOf kx).toNat)
      case atStart => exact ⟨0, 0, Nat.zero_le _, rfl, fun _ h => absurd h (Nat.not_lt_zero _), rfl⟩
      case round =>
        obtain ⟨k, p, hk, rfl, hne, rfl⟩ := hrel
        have HNE := hide hne
        clear hne
        by_cases hki : k < i
        · have hkii : (k : Int) < (i : Int) := by omega
          have hkL : (k : Int) < (L.length : Int) := by omega
          have hrk := HE5.out k (by omega)
          obtain ⟨r, hr⟩ : ∃ r, L.getD k .zero = r := ⟨_, rfl⟩
          rw [hr] at hrk
          have HRK := hide hr
          obtain ⟨f0, _, _, _, f4⟩ := hrk
          obtain ⟨g0, g1, g2, g3, g4⟩ := r
          simp only at f0 f4
          clear hr
          have HSTEP : Hid ((p4 = false → g4 = false → g0 ≠ p0) → ∀ j, j < k + 1 → p4 = false → (L.getD j .zero).done = false → (L.getD j .zero).cell ≠ p0) := fun h j hj h1 h2 => by
            by_cases e : j = k
            · rw [e, HRK.out] at h2 ⊢; exact h h1 h2
            · exact HNE.out j (by omega) h1 h2
          cases p4 with
          | true =>
            have HS := hide (HSTEP.out (fun h => by cases h))
            go_wp2_with fail
            go_quiet (fail)
            go_wp2
            go_roundw
            case rel => exact ⟨k + 1, _, by omega, by go_num, HS.out, rfl⟩
            case measure => simp [intOf]; omega
          | false =>
          cases g4 with
          | true =>
            have HS := hide (HSTEP.out (fun _ h => by cases h))
            go_wp2_with fail
            go_quiet (fail)
            go_wp2
            go_roundw
            case rel => exact ⟨k + 1, _, by omega, by go_num, HS.out, rfl⟩
            case measure => simp [intOf]; omega
          | false =>
          by_cases q9 : g0 = p0
          · have s9 : (g0 == p0) = true := by rw [beq_iff_eq]; exact q9
            have HR : Hid (¬ VfOk ⟨X, Y, T, Ds, Hs⟩ L) := fun h => h.diff i k hki hlt (by rw [HD.out]) (by rw [HRK.out]) (by rw [HRK.out, HD.out]; exact q9)
            clear q9
            go_wp2_with fail
            go_quiet (fail)
            go_wp2
            go_ret
            exact ⟨Ans.no HR.out, below_drewN (below_drewN HE2.out _) _⟩
          · have s9 : (g0 == p0) = false := by rw [beq_eq_false_iff_ne]; exact q9
            have HS := hide (HSTEP.out (fun _ _ => q9))
            clear q9
            go_wp2_with fail
            go_quiet (fail)
            go_wp2
            go_roundw
            case rel => exact ⟨k + 1, _, by omega, by go_num, HS.out, rfl⟩
            case measure => simp [intOf]; omega
        · have hkii : ¬ (k : Int) < (i : Int) := by omega
          have HDF1 : Hid (∀ j k, k < j → j < i + 1 → (L.getD j .zero).done = false → (L.getD k .zero).done = false → (L.getD k .zero).cell ≠ (L.getD j .zero).cell) := fun j k' hkj hj h1 h2 => by
            by_cases e : j = i
            · rw [e, HD.out] at h1 ⊢
              exact HNE.out k' (by omega) h1 h2
            · exact HDF.out j k' hkj (by omega) h1 h2
          go_wp2
          go_roundw
          case rel => exact ⟨i + 1, by omega, by go_num, HEC1.out, HDF1.out, below_drewN HB2.out _⟩
          case measure => simp [intOf]; omega
    · have hge : ¬ (i : Int) < (L.length : Int) := by omega
      have HVF : Hid (VfOk ⟨X, Y, T, Ds, Hs⟩ L) := ⟨HOK.out, HL30.out, fun j hj => HEC.out j (by omega), fun j k hk hj => HDF.out j k hk (by omega)⟩
      clear hbl
      go_wp2
      go_ret
      exact ⟨Ans.yes HVF.out, HBE.out⟩
end Go.Proofs.YteicpjbeihabnaaDoor

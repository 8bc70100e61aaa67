/-
  The walk of impl.ValidGraph.
-/
import Derived.Test.YtonhehndoifipabJReachSG
import Derived.Test.YtonhehndoifipabJReachIAW
import Derived.BigQuiet
import Derived.Deep.QuietTactic
namespace Go.Proofs.Ytonhehndoifipab
open Go.RowKit

set_option maxHeartbeats 4000000 in
set_option maxRecDepth 1000000 in
theorem implGraph_any (g : Gr) (v1 v2 v3 v4 : Value) (w : World) (hb : GrB g) (h : GrV w g v1 v2 v3 v4) :
    Calls Try.prog 20 #[gragg g v1 v2 v3 v4] w fun e w' => Ans (GrOk g) e ∧ Below w.heap.size w w' := by
  have hs1 := hb.start
  have hs2 := hb.to
  have hs3 := hb.dir
  have hs4 := hb.cost
  have HV := hide h
  obtain ⟨a1, b1, o1, c1, rfl, ha1, hc1⟩ := h.start
  obtain ⟨a2, c2, rfl⟩ := h.to.slice
  obtain ⟨a3, c3, rfl⟩ := h.dir.slice
  obtain ⟨a4, c4, rfl⟩ := h.cost.slice
  obtain ⟨W0, hW0⟩ : ∃ W, w.alloc (.cells #[.int .i64 g.n, .slice a1 g.start.length c1, .slice a2 g.to.length c2, .slice a3 g.dir.length c3, .slice a4 g.cost.length c4] 29) = W := ⟨_, rfl⟩
  have hB0 : Below w.heap.size w W0 := by rw [← hW0]; exact (Below.refl _ _).alloc (Nat.le_refl _) _
  have hA0 : Blk W0 w.heap.size 29 #[.int .i64 g.n, .slice a1 g.start.length c1, .slice a2 g.to.length c2, .slice a3 g.dir.length c3, .slice a4 g.cost.length c4] := by rw [← hW0]; exact Blk.new _ _ _
  have z0 := hA0.cell 0
  have z1 := hA0.cell 1
  have z2 := hA0.cell 2
  have z3 := hA0.cell 3
  have z4 := hA0.cell 4
  simp only [List.getElem?_toArray, List.getElem?_cons_succ, List.getElem?_cons_zero] at z0 z1 z2 z3 z4
  have HC1 : Hid (∀ j, j < g.start.length → W0.cell? ⟨b1, o1 + j, none⟩ = some (.int .i64 (g.start.getD j 0))) := fun j hj => cell_kept (hc1 j hj) hB0
  have HW := hide hW0
  have HB := hide hB0
  have HA := hide hA0
  have HV0 := hide (h.below hB0)
  unfold gragg
  clear hW0 hB0 hA0 hc1 h hb HV
  by_cases q1 : g.n < 1
  · have t1 : decide (g.n < 1) = true := decide_eq_true q1
    have HR : Hid (¬ GrOk g) := fun h => by have := h.n0; omega
    have hW := HW.out
    go_enter Try.func20, Try.ntmps20
    go_wp2
    go_ret
    exact ⟨Ans.no HR.out, HB.out⟩
  have t1 : decide (g.n < 1) = false := decide_eq_false q1
  by_cases q2 : 1600 < g.n
  · have t2 : decide (1600 < g.n) = true := decide_eq_true q2
    have HR : Hid (¬ GrOk g) := fun h => by have := h.n1; omega
    have hW := HW.out
    go_enter Try.func20, Try.ntmps20
    go_wp2
    go_ret
    exact ⟨Ans.no HR.out, HB.out⟩
  have t2 : decide (1600 < g.n) = false := decide_eq_false q2
  by_cases q5 : 6400 < (g.to.length : Int)
  · have t5 : decide (6400 < (g.to.length : Int)) = true := decide_eq_true q5
    have HR : Hid (¬ GrOk g) := fun h => by have := h.most; have := h.tos; omega
    have q5n : 6400 < g.to.length := by omega
    have hW := HW.out
    go_enter Try.func20, Try.ntmps20
    go_wp2
    go_ret
    exact ⟨Ans.no HR.out, HB.out⟩
  have t5 : decide (6400 < (g.to.length : Int)) = false := decide_eq_false q5
  have q5n : ¬ 6400 < g.to.length := by omega
  have hn0 : 1 ≤ g.n := by omega
  have hn1 : g.n ≤ 1600 := by omega
  by_cases q3 : ¬ (g.start.length : Int) = g.n + 1
  · have t3 : ((g.start.length : Int) != g.n + 1) = true := by rw [bne_iff_ne]; exact q3
    have HR : Hid (¬ GrOk g) := fun h => q3 h.len
    clear q3
    have hW := HW.out
    go_enter Try.func20, Try.ntmps20
    go_wp2
    go_ret
    exact ⟨Ans.no HR.out, HB.out⟩
  have q3 : (g.start.length : Int) = g.n + 1 := by omega
  have t3 : ((g.start.length : Int) != g.n + 1) = false := by rw [bne_eq_false_iff_eq]; exact q3
  have HL := hide q3
  have HQ1 := hide q1
  have HQ2 := hide q2
  by_cases q7 : ¬ (g.dir.length : Int) = (g.to.length : Int)
  · have t7 : ((g.dir.length : Int) != (g.to.length : Int)) = true := by rw [bne_iff_ne]; exact q7
    have HR : Hid (¬ GrOk g) := fun h => q7 (by have h1 := h.dirs; have h2 := h.tos; rw [h1, h2])
    clear q7 q3
    have hW := HW.out
    go_enter Try.func20, Try.ntmps20
    go_wp2
    go_ret
    exact ⟨Ans.no HR.out, HB.out⟩
  have q7 : (g.dir.length : Int) = (g.to.length : Int) := by omega
  have t7 : ((g.dir.length : Int) != (g.to.length : Int)) = false := by rw [bne_eq_false_iff_eq]; exact q7
  have HQ7 := hide q7
  clear q7
  by_cases q8 : ¬ (g.cost.length : Int) = (g.to.length : Int)
  · have t8 : ((g.cost.length : Int) != (g.to.length : Int)) = true := by rw [bne_iff_ne]; exact q8
    have HR : Hid (¬ GrOk g) := fun h => q8 (by have h1 := h.costs; have h2 := h.tos; rw [h1, h2])
    clear q8 q3
    have hW := HW.out
    go_enter Try.func20, Try.ntmps20
    go_wp2
    go_ret
    exact ⟨Ans.no HR.out, HB.out⟩
  have q8 : (g.cost.length : Int) = (g.to.length : Int) := by omega
  have t8 : ((g.cost.length : Int) != (g.to.length : Int)) = false := by rw [bne_eq_false_iff_eq]; exact q8
  have HQ8 := hide q8
  clear q8
  obtain rfl := ha1 (by omega)
  obtain ⟨n, hn⟩ : ∃ n : Nat, g.n = n := ⟨g.n.toNat, by omega⟩
  have f0 := HC1.out 0 (by omega)
  have fn := HC1.out n (by omega)
  rw [Nat.add_zero] at f0
  have hl0 : 0 < g.start.length := by omega
  have hln : g.n < (g.start.length : Int) := by omega
  obtain ⟨m0, hm0⟩ : ∃ m, g.start.getD 0 0 = m := ⟨_, rfl⟩
  rw [hm0] at f0
  by_cases q4 : ¬ m0 = 0
  · have t4 : (m0 != 0) = true := by rw [bne_iff_ne]; exact q4
    have HR : Hid (¬ GrOk g) := fun h => q4 (by rw [← hm0]; exact h.first)
    clear q4 q3 hm0 fn hn
    have hW := HW.out
    go_enter Try.func20, Try.ntmps20
    go_wp2
    go_ret
    exact ⟨Ans.no HR.out, HB.out⟩
  have q4 : m0 = 0 := by omega
  subst q4
  obtain ⟨m, hm⟩ : ∃ m, g.start.getD n 0 = m := ⟨_, rfl⟩
  have HM : Hid (g.start.getD g.n.toNat 0 = m) := by show _ = _; rw [hn, Int.toNat_natCast, hm]
  rw [hm] at fn
  rw [hn] at z0 t1 t2 t3 hn0 hn1 hln HW HA ⊢
  have HN := hide hn
  have HF := hide hm0
  clear hm hm0 q3 q1 q2 hn
  by_cases q6 : ¬ m = (g.to.length : Int)
  · have t6 : (m != (g.to.length : Int)) = true := by rw [bne_iff_ne]; exact q6
    have HR : Hid (¬ GrOk g) := fun h => q6 (by have h1 := h.tos; rw [HM.out] at h1; omega)
    clear q6
    have hW := HW.out
    go_enter Try.func20, Try.ntmps20
    go_wp2
    go_ret
    exact ⟨Ans.no HR.out, HB.out⟩
  have q6 : m = (g.to.length : Int) := by omega
  subst q6
  have HS := hide (isSorted_any _ g.start W0 (by omega) HV0.out.start)
  have HT := hide (fun w2 (h2 : Below W0.heap.size W0 w2) => allWithin_any _ g.to 0 ((n : Int) - 1) w2 (by omega) (HV0.out.to.below h2))
  have HD := hide (fun w2 (h2 : Below W0.heap.size W0 w2) => allWithin_any _ g.dir 0 3 w2 (by omega) (HV0.out.dir.below h2))
  have HK := hide (fun w2 (h2 : Below W0.heap.size W0 w2) => allWithin_any _ g.cost 1 9 w2 (by omega) (HV0.out.cost.below h2))
  have HSZ := hide (show w.heap.size ≤ W0.heap.size from HB.out.size)
  have t6 : ((g.to.length : Int) != (g.to.length : Int)) = false := by rw [bne_eq_false_iff_eq]
  have hW := HW.out
  go_enter Try.func20, Try.ntmps20
  go_wp2_with fail
  clear hW t1 t2 t3 t5 t6 t7 t8 f0 fn z0 z1 z2 z3 z4
  refine HS.out.mono ?_
  rintro e w1 ⟨⟨r1, rfl, hr1⟩, hb1⟩
  have HR1 := hide hr1
  have HB1 := hide hb1
  clear hr1 hb1
  cases r1 with
  | false =>
    have HR : Hid (¬ GrOk g) := fun h => by
      have : false = true := HR1.out.2 fun i hi => h.grow i (by have := HN.out; have := HL.out; omega)
      cases this
    go_wp2
    go_ret
    exact ⟨Ans.no HR.out, HB.out.trans (HB1.out.mono HSZ.out)⟩
  | true =>
  have z0 := (HA.out.below HB1.out).cell 0
  have z2 := (HA.out.below HB1.out).cell 2
  have z3 := (HA.out.below HB1.out).cell 3
  have z4 := (HA.out.below HB1.out).cell 4
  simp only [List.getElem?_toArray, List.getElem?_cons_succ, List.getElem?_cons_zero] at z0 z2 z3 z4
  have HGR := hide (HR1.out.1 rfl)
  clear HR1
  go_wp2_with fail
  refine (HT.out _ HB1.out).mono ?_
  rintro e w2 ⟨⟨r2, rfl, hr2⟩, hb2⟩
  have HR2 := hide hr2
  have HB2 : Hid (Below W0.heap.size W0 w2) := HB1.out.trans (hb2.mono HB1.out.size)
  clear hr2 hb2 HB1 z0 z2 z3 z4
  cases r2 with
  | false =>
    have HR : Hid (¬ GrOk g) := fun h => by
      have : false = true := HR2.out.2 fun i hi => by
        have h1 := (h.edges i hi).to0; have h2 := (h.edges i hi).to1; have := HN.out
        constructor <;> omega
      cases this
    go_wp2
    go_ret
    exact ⟨Ans.no HR.out, HB.out.trans (HB2.out.mono HSZ.out)⟩
  | true =>
  have z3 := (HA.out.below HB2.out).cell 3
  have z4 := (HA.out.below HB2.out).cell 4
  simp only [List.getElem?_toArray, List.getElem?_cons_succ, List.getElem?_cons_zero] at z3 z4
  have HTO := hide (HR2.out.1 rfl)
  clear HR2
  go_wp2_with fail
  refine (HD.out _ HB2.out).mono ?_
  rintro e w3 ⟨⟨r3, rfl, hr3⟩, hb3⟩
  have HR3 := hide hr3
  have HB3 : Hid (Below W0.heap.size W0 w3) := HB2.out.trans (hb3.mono HB2.out.size)
  clear hr3 hb3 HB2 z3 z4
  cases r3 with
  | false =>
    have HR : Hid (¬ GrOk g) := fun h => by
      have : false = true := HR3.out.2 fun i hi => by
        have h0 := HQ7.out
        have h1 := (h.edges i (by omega)).dir0; have h2 := (h.edges i (by omega)).dir1
        constructor <;> omega
      cases this
    go_wp2
    go_ret
    exact ⟨Ans.no HR.out, HB.out.trans (HB3.out.mono HSZ.out)⟩
  | true =>
  have z4 := (HA.out.below HB3.out).cell 4
  simp only [List.getElem?_toArray, List.getElem?_cons_succ, List.getElem?_cons_zero] at z4
  have HDO := hide (HR3.out.1 rfl)
  clear HR3
  go_wp2_with fail
  refine (HK.out _ HB3.out).mono ?_
  rintro e w4 ⟨⟨r4, rfl, hr4⟩, hb4⟩
  have HR4 := hide hr4
  have HB4 : Hid (Below W0.heap.size W0 w4) := HB3.out.trans (hb4.mono HB3.out.size)
  clear hr4 hb4 HB3 z4
  go_wp2
  go_ret
  refine ⟨⟨r4, rfl, HR4.out.trans ⟨fun hk => ?_, fun h i hi => ?_⟩⟩, HB.out.trans (HB4.out.mono HSZ.out)⟩
  · have := HN.out
    have h7 := HQ7.out
    have h8 := HQ8.out
    refine ⟨by omega, by omega, HL.out, HF.out, ?_, ?_, ?_, ?_, ?_, ?_⟩
    · rw [HM.out]; omega
    · rw [HM.out]
    · rw [HM.out]; omega
    · rw [HM.out]; omega
    · intro c hc; exact HGR.out c (by have := HL.out; omega)
    · intro e he
      have t := HTO.out e he
      have d := HDO.out e (by omega)
      have k := hk e (by omega)
      exact ⟨t.1, by omega, d.1, d.2, k.1, k.2⟩
  · have h8 := HQ8.out
    have h1 := (h.edges i (by omega)).cost0; have h2 := (h.edges i (by omega)).cost1
    constructor <;> omega
end Go.Proofs.Ytonhehndoifipab

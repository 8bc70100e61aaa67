/-
  The walk of spec.ValidGraph.
-/
import Derived.Test.YtonhehndoifipabJReachSG0
import Derived.BigQuiet
import Derived.Deep.QuietTactic
namespace Go.Proofs.Ytonhehndoifipab
open Go.RowKit

set_option maxHeartbeats 4000000 in
set_option maxRecDepth 1000000 in
theorem specGraph_any (g : Gr) (v1 v2 v3 v4 : Value) (w : World) (hb : GrB g) (h : GrV w g v1 v2 v3 v4) :
    Calls Try.prog 17 #[gragg g v1 v2 v3 v4] w fun e w' => Ans (GrOk g) e ∧ Below w.heap.size w w' := by
  have hs1 := hb.start
  have hs2 := hb.to
  have hs3 := hb.dir
  have hs4 := hb.cost
  obtain ⟨a1, b1, o1, c1, rfl, ha1, hc1⟩ := h.start
  obtain ⟨a2, b2, o2, c2, rfl, ha2, hc2⟩ := h.to
  obtain ⟨a3, b3, o3, c3, rfl, ha3, hc3⟩ := h.dir
  obtain ⟨a4, b4, o4, c4, rfl, ha4, hc4⟩ := h.cost
  obtain ⟨W0, hW0⟩ : ∃ W, w.alloc (.cells #[.int .i64 g.n, .slice a1 g.start.length c1, .slice a2 g.to.length c2, .slice a3 g.dir.length c3, .slice a4 g.cost.length c4] 29) = W := ⟨_, rfl⟩
  have hB0 : Below w.heap.size w W0 := by rw [← hW0]; exact (Below.refl _ _).alloc (Nat.le_refl _) _
  have hA0 : Blk W0 w.heap.size 29 #[.int .i64 g.n, .slice a1 g.start.length c1, .slice a2 g.to.length c2, .slice a3 g.dir.length c3, .slice a4 g.cost.length c4] := by rw [← hW0]; exact Blk.new _ _ _
  have z0 := hA0.cell 0
  have z1 := hA0.cell 1
  have z2 := hA0.cell 2
  have z3 := hA0.cell 3
  have z4 := hA0.cell 4
  simp only [List.getElem?_toArray, List.getElem?_cons_succ, List.getElem?_cons_zero] at z0 z1 z2 z3 z4
  have HC1 : Hid (∀ j, j < g.start.length → W0.cell? ⟨b1, o1 + j, none⟩ = some (.int .i64 (g.start.getD j 0))) := fun j hj => cell_kept (hc1 j hj) hB0
  have HC2 : Hid (∀ j, j < g.to.length → W0.cell? ⟨b2, o2 + j, none⟩ = some (.int .i64 (g.to.getD j 0))) := fun j hj => cell_kept (hc2 j hj) hB0
  have HC3 : Hid (∀ j, j < g.dir.length → W0.cell? ⟨b3, o3 + j, none⟩ = some (.int .i64 (g.dir.getD j 0))) := fun j hj => cell_kept (hc3 j hj) hB0
  have HC4 : Hid (∀ j, j < g.cost.length → W0.cell? ⟨b4, o4 + j, none⟩ = some (.int .i64 (g.cost.getD j 0))) := fun j hj => cell_kept (hc4 j hj) hB0
  have HW := hide hW0
  have HB := hide hB0
  unfold gragg
  clear hW0 hB0 hA0 hc1 hc2 hc3 hc4 h hb
  by_cases q1 : g.n < 1
  · have t1 : decide (g.n < 1) = true := decide_eq_true q1
    have HR : Hid (¬ GrOk g) := fun h => by have := h.n0; omega
    have hW := HW.out
    go_enter Try.func17, Try.ntmps17
    go_wp2
    go_ret
    exact ⟨Ans.no HR.out, HB.out⟩
  have t1 : decide (g.n < 1) = false := decide_eq_false q1
  by_cases q2 : 1600 < g.n
  · have t2 : decide (1600 < g.n) = true := decide_eq_true q2
    have HR : Hid (¬ GrOk g) := fun h => by have := h.n1; omega
    have hW := HW.out
    go_enter Try.func17, Try.ntmps17
    go_wp2
    go_ret
    exact ⟨Ans.no HR.out, HB.out⟩
  have t2 : decide (1600 < g.n) = false := decide_eq_false q2
  have hn0 : 1 ≤ g.n := by omega
  have hn1 : g.n ≤ 1600 := by omega
  by_cases q3 : ¬ (g.start.length : Int) = g.n + 1
  · have t3 : ((g.start.length : Int) != g.n + 1) = true := by rw [bne_iff_ne]; exact q3
    have HR : Hid (¬ GrOk g) := fun h => q3 h.len
    clear q3
    have hW := HW.out
    go_enter Try.func17, Try.ntmps17
    go_wp2
    go_ret
    exact ⟨Ans.no HR.out, HB.out⟩
  have q3 : (g.start.length : Int) = g.n + 1 := by omega
  have t3 : ((g.start.length : Int) != g.n + 1) = false := by rw [bne_eq_false_iff_eq]; exact q3
  obtain rfl := ha1 (by omega)
  obtain ⟨n, hn⟩ : ∃ n : Nat, g.n = n := ⟨g.n.toNat, by omega⟩
  have f0 := HC1.out 0 (by omega)
  have fn := HC1.out n (by omega)
  rw [Nat.add_zero] at f0
  have hl0 : 0 < g.start.length := by omega
  have hln : g.n < (g.start.length : Int) := by omega
  have hfz : o1 + n = o1 + n := rfl
  obtain ⟨m0, hm0⟩ : ∃ m, g.start.getD 0 0 = m := ⟨_, rfl⟩
  rw [hm0] at f0
  by_cases q4 : ¬ m0 = 0
  · have t4 : (m0 != 0) = true := by rw [bne_iff_ne]; exact q4
    have HR : Hid (¬ GrOk g) := fun h => q4 (by rw [← hm0]; exact h.first)
    clear q4 q3 hm0 fn hn hfz
    have hW := HW.out
    go_enter Try.func17, Try.ntmps17
    go_wp2
    go_ret
    exact ⟨Ans.no HR.out, HB.out⟩
  have q4 : m0 = 0 := by omega
  subst q4
  obtain ⟨m, hm⟩ : ∃ m, g.start.getD n 0 = m := ⟨_, rfl⟩
  have HM : Hid (g.start.getD g.n.toNat 0 = m) := by show _ = _; rw [hn, Int.toNat_natCast, hm]
  rw [hm] at fn
  rw [hn] at z0 t1 t2 t3 hn0 hn1 hln HW ⊢
  have HN := hide hn
  have HF := hide hm0
  have HL := hide q3
  clear hfz hm hm0 q3 q1 q2 hn
  by_cases q5 : 6400 < m
  · have t5 : decide (6400 < m) = true := decide_eq_true q5
    have HR : Hid (¬ GrOk g) := fun h => by have := h.most; rw [HM.out] at this; omega
    have hW := HW.out
    go_enter Try.func17, Try.ntmps17
    go_wp2
    go_ret
    exact ⟨Ans.no HR.out, HB.out⟩
  have t5 : decide (6400 < m) = false := decide_eq_false q5
  by_cases q6 : ¬ (g.to.length : Int) = m
  · have t6 : ((g.to.length : Int) != m) = true := by rw [bne_iff_ne]; exact q6
    have HR : Hid (¬ GrOk g) := fun h => q6 (by have := h.tos; rw [HM.out] at this; exact this)
    clear q6
    have hW := HW.out
    go_enter Try.func17, Try.ntmps17
    go_wp2
    go_ret
    exact ⟨Ans.no HR.out, HB.out⟩
  have q6 : (g.to.length : Int) = m := by omega
  have t6 : ((g.to.length : Int) != m) = false := by rw [bne_eq_false_iff_eq]; exact q6
  have HQ6 := hide q6
  clear q6
  by_cases q7 : ¬ (g.dir.length : Int) = m
  · have t7 : ((g.dir.length : Int) != m) = true := by rw [bne_iff_ne]; exact q7
    have HR : Hid (¬ GrOk g) := fun h => q7 (by have := h.dirs; rw [HM.out] at this; exact this)
    clear q7
    have hW := HW.out
    go_enter Try.func17, Try.ntmps17
    go_wp2
    go_ret
    exact ⟨Ans.no HR.out, HB.out⟩
  have q7 : (g.dir.length : Int) = m := by omega
  have t7 : ((g.dir.length : Int) != m) = false := by rw [bne_eq_false_iff_eq]; exact q7
  have HQ7 := hide q7
  clear q7
  by_cases q8 : ¬ (g.cost.length : Int) = m
  · have t8 : ((g.cost.length : Int) != m) = true := by rw [bne_iff_ne]; exact q8
    have HR : Hid (¬ GrOk g) := fun h => q8 (by have := h.costs; rw [HM.out] at this; exact this)
    clear q8
    have hW := HW.out
    go_enter Try.func17, Try.ntmps17
    go_wp2
    go_ret
    exact ⟨Ans.no HR.out, HB.out⟩
  have q8 : (g.cost.length : Int) = m := by omega
  have t8 : ((g.cost.length : Int) != m) = false := by rw [bne_eq_false_iff_eq]; exact q8
  have HQ8 := hide q8
  have hm0 : 0 ≤ m := by omega
  clear q8
  have hW := HW.out
  go_enter Try.func17, Try.ntmps17
  go_wp2
  clear hW
  go_loopw [4] (fun ix wr => ∃ k p : Nat, k ≤ n ∧ ix = .int .i64 k ∧ (∀ c, c < k → g.start.getD c 0 ≤ g.start.getD (c + 1) 0) ∧ wr = W0.drewN p) (fun ix _ => n - (intOf ix).toNat)
  case atStart => exact ⟨0, 0, Nat.zero_le _, rfl, fun c hc => absurd hc (Nat.not_lt_zero _), rfl⟩
  case round =>
    obtain ⟨k, p, hk, rfl, hgr, rfl⟩ := hrel
    have HGR := hide hgr
    have HBD := hide (below_drewN HB.out p)
    by_cases hlt : k < n
    · have hlti : (k : Int) < (n : Int) := by omega
      have e0 := HC1.out k (by have := HL.out; have := HN.out; omega)
      have e1 := HC1.out (k + 1) (by have := HL.out; have := HN.out; omega)
      obtain ⟨y0, hy0⟩ : ∃ y, g.start.getD k 0 = y := ⟨_, rfl⟩
      obtain ⟨y1, hy1⟩ : ∃ y, g.start.getD (k + 1) 0 = y := ⟨_, rfl⟩
      rw [hy0] at e0
      rw [hy1] at e1
      have hkl : (k : Int) < (g.start.length : Int) := by omega
      have hkl1 : (k : Int) + 1 < (g.start.length : Int) := by have := HL.out; have := HN.out; omega
      by_cases q9 : y1 < y0
      · have t9 : decide (y1 < y0) = true := decide_eq_true q9
        have HR : Hid (¬ GrOk g) := fun h => by
          have := h.grow k (by have := HN.out; omega); rw [hy0, hy1] at this; omega
        clear hgr hy0 hy1
        go_wp2_with fail
        go_quiet (fail)
        go_wp2
        go_ret
        exact ⟨Ans.no HR.out, below_drewN HBD.out _⟩
      · have t9 : decide (y1 < y0) = false := decide_eq_false q9
        have HG1 : Hid (∀ c, c < k + 1 → g.start.getD c 0 ≤ g.start.getD (c + 1) 0) := fun c hc => by
          by_cases e : c = k
          · rw [e, hy0, hy1]; omega
          · exact HGR.out c (by omega)
        clear hgr hy0 hy1
        go_wp2_with fail
        go_quiet (fail)
        go_wp2
        go_roundw
        case rel => exact ⟨k + 1, _, by omega, by go_num, HG1.out, rfl⟩
        case measure => simp [intOf]; omega
    · have hge : ¬ (k : Int) < (n : Int) := by omega
      have HGA : Hid (∀ c, c < g.n.toNat → g.start.getD c 0 ≤ g.start.getD (c + 1) 0) := fun c hc => HGR.out c (by have := HN.out; omega)
      clear hgr
      go_wp2
      clear hge
      go_loopw [5] (fun ix wr => ∃ k p : Nat, k ≤ g.to.length ∧ ix = .int .i64 k ∧ (∀ e, e < k → EdOk g e) ∧ wr = W0.drewN p) (fun ix _ => g.to.length - (intOf ix).toNat)
      case atStart => exact ⟨0, _, Nat.zero_le _, rfl, fun c hc => absurd hc (Nat.not_lt_zero _), rfl⟩
      case round =>
        obtain ⟨k, p, hk, rfl, hed, rfl⟩ := hrel
        have HED := hide hed
        have HBD := hide (below_drewN HB.out p)
        by_cases hlt : k < g.to.length
        · have l2 : (k : Int) < (g.to.length : Int) := by omega
          have l3 : (k : Int) < (g.dir.length : Int) := by have := HQ6.out; have := HQ7.out; omega
          have l4 : (k : Int) < (g.cost.length : Int) := by have := HQ6.out; have := HQ8.out; omega
          have lm : (k : Int) < m := by have := HQ6.out; omega
          obtain rfl := ha2 (by omega)
          obtain rfl := ha3 (by omega)
          obtain rfl := ha4 (by omega)
          have e2 := HC2.out k hlt
          have e3 := HC3.out k (by omega)
          have e4 := HC4.out k (by omega)
          obtain ⟨y2, hy2⟩ : ∃ y, g.to.getD k 0 = y := ⟨_, rfl⟩
          obtain ⟨y3, hy3⟩ : ∃ y, g.dir.getD k 0 = y := ⟨_, rfl⟩
          obtain ⟨y4, hy4⟩ : ∃ y, g.cost.getD k 0 = y := ⟨_, rfl⟩
          rw [hy2] at e2
          rw [hy3] at e3
          rw [hy4] at e4
          have HY2 := hide hy2
          have HY3 := hide hy3
          have HY4 := hide hy4
          have HKT := hide hlt
          clear hed hy2 hy3 hy4
          by_cases r0 : y2 < 0
          · have s0 : decide (y2 < 0) = true := decide_eq_true r0
            have HR : Hid (¬ GrOk g) := fun h => by
              have h1 := (h.edges k HKT.out).to0; rw [HY2.out] at h1; have := HN.out; omega
            go_wp2_with fail
            go_quiet (fail)
            go_wp2
            go_ret
            exact ⟨Ans.no HR.out, below_drewN HBD.out _⟩
          have s0 : decide (y2 < 0) = false := decide_eq_false r0
          by_cases r1 : (n : Int) ≤ y2
          · have s1 : decide ((n : Int) ≤ y2) = true := decide_eq_true r1
            have HR : Hid (¬ GrOk g) := fun h => by
              have h1 := (h.edges k HKT.out).to1; rw [HY2.out] at h1; have := HN.out; omega
            go_wp2_with fail
            go_quiet (fail)
            go_wp2
            go_ret
            exact ⟨Ans.no HR.out, below_drewN HBD.out _⟩
          have s1 : decide ((n : Int) ≤ y2) = false := decide_eq_false r1
          by_cases r2 : y3 < 0
          · have s2 : decide (y3 < 0) = true := decide_eq_true r2
            have HR : Hid (¬ GrOk g) := fun h => by
              have h1 := (h.edges k HKT.out).dir0; rw [HY3.out] at h1; have := HN.out; omega
            go_wp2_with fail
            go_quiet (fail)
            go_wp2
            go_ret
            exact ⟨Ans.no HR.out, below_drewN HBD.out _⟩
          have s2 : decide (y3 < 0) = false := decide_eq_false r2
          by_cases r3 : 3 < y3
          · have s3 : decide (3 < y3) = true := decide_eq_true r3
            have HR : Hid (¬ GrOk g) := fun h => by
              have h1 := (h.edges k HKT.out).dir1; rw [HY3.out] at h1; have := HN.out; omega
            go_wp2_with fail
            go_quiet (fail)
            go_wp2
            go_ret
            exact ⟨Ans.no HR.out, below_drewN HBD.out _⟩
          have s3 : decide (3 < y3) = false := decide_eq_false r3
          by_cases r4 : y4 < 1
          · have s4 : decide (y4 < 1) = true := decide_eq_true r4
            have HR : Hid (¬ GrOk g) := fun h => by
              have h1 := (h.edges k HKT.out).cost0; rw [HY4.out] at h1; have := HN.out; omega
            go_wp2_with fail
            go_quiet (fail)
            go_wp2
            go_ret
            exact ⟨Ans.no HR.out, below_drewN HBD.out _⟩
          have s4 : decide (y4 < 1) = false := decide_eq_false r4
          by_cases r5 : 9 < y4
          · have s5 : decide (9 < y4) = true := decide_eq_true r5
            have HR : Hid (¬ GrOk g) := fun h => by
              have h1 := (h.edges k HKT.out).cost1; rw [HY4.out] at h1; have := HN.out; omega
            go_wp2_with fail
            go_quiet (fail)
            go_wp2
            go_ret
            exact ⟨Ans.no HR.out, below_drewN HBD.out _⟩
          have s5 : decide (9 < y4) = false := decide_eq_false r5
          have HED1 : Hid (∀ e, e < k + 1 → EdOk g e) := fun e he => by
            by_cases ek : e = k
            · subst ek
              have := HN.out
              exact ⟨by rw [HY2.out]; omega, by rw [HY2.out]; omega, by rw [HY3.out]; omega, by rw [HY3.out]; omega, by rw [HY4.out]; omega, by rw [HY4.out]; omega⟩
            · exact HED.out e (by omega)
          go_wp2_with fail
          go_quiet (fail)
          go_wp2
          go_roundw
          case rel => exact ⟨k + 1, _, by omega, by go_num, HED1.out, rfl⟩
          case measure => simp [intOf]; omega
        · have lm : ¬ (k : Int) < m := by have := HQ6.out; omega
          have HOK : Hid (GrOk g) := by
            refine ⟨?_, ?_, HL.out, HF.out, ?_, ?_, ?_, ?_, HGA.out, fun e he => HED.out e (by omega)⟩
            · have := HN.out; omega
            · have := HN.out; omega
            · rw [HM.out]; omega
            · rw [HM.out]; exact HQ6.out
            · rw [HM.out]; exact HQ7.out
            · rw [HM.out]; exact HQ8.out
          clear hed
          go_wp2
          go_ret
          exact ⟨Ans.yes HOK.out, HBD.out⟩
end Go.Proofs.Ytonhehndoifipab

/-
  The walks of impl's validDecl and validDecls.
-/
import Derived.Test.YtijdlbanfdhfnaaGreatDoorJDnSL4
import Derived.Test.YtijdlbanfdhfnaaGreatDoorJDnDc0
import Derived.Test.YtijdlbanfdhfnaaGreatDoorJDnQ
import Derived.BigQuiet
import Derived.Deep.QuietTactic
namespace Go.Proofs.YtijdlbanfdhfnaaGreatDoor
open Go.RowKit

theorem hasArea_any (k : Int) (w : World) : Calls Tryz.prog 67 #[.int .i64 k] w fun e w' => e = .returned (.bool (arK k)) ∧ w' = w := by
  unfold arK
  by_cases h1 : k = 8
  · subst h1
    go_enter Tryz.func67, Tryz.ntmps67
    go_wp2
    go_ret
    exact ⟨rfl, rfl⟩
  by_cases h2 : k = 9
  · subst h2
    go_enter Tryz.func67, Tryz.ntmps67
    go_wp2
    go_ret
    exact ⟨rfl, rfl⟩
  by_cases h3 : k = 10
  · subst h3
    go_enter Tryz.func67, Tryz.ntmps67
    go_wp2
    go_ret
    exact ⟨rfl, rfl⟩
  have e1 : (k == 8) = false := by rw [beq_eq_false_iff_ne]; exact h1
  have e2 : (k == 9) = false := by rw [beq_eq_false_iff_ne]; exact h2
  have e3 : (k == 10) = false := by rw [beq_eq_false_iff_ne]; exact h3
  rw [e1, e2, e3]
  obtain ⟨b, hb⟩ : ∃ b, (k == 13) = b := ⟨_, rfl⟩
  rw [hb]
  clear h1 h2 h3
  go_enter Tryz.func67, Tryz.ntmps67
  go_wp2
  go_ret
  exact ⟨rfl, rfl⟩
theorem isTarget_any (k : Int) (w : World) : Calls Tryz.prog 27 #[.int .i64 k] w fun e w' => e = .returned (.bool (nmK k)) ∧ w' = w := by
  unfold nmK
  by_cases h1 : k = 14
  · subst h1
    go_enter Tryz.func27, Tryz.ntmps27
    go_wp2
    go_ret
    exact ⟨rfl, rfl⟩
  have e1 : (k == 14) = false := by rw [beq_eq_false_iff_ne]; exact h1
  rw [e1]
  obtain ⟨b, hb⟩ : ∃ b, (k == 15) = b := ⟨_, rfl⟩
  rw [hb]
  clear h1
  go_enter Tryz.func27, Tryz.ntmps27
  go_wp2
  go_ret
  exact ⟨rfl, rfl⟩
/-- The greatest way of a kind. -/
def gtN (k : Int) : Int := if wyK k = true then 3 else 0
theorem greatestN_decl (k : Int) (w : World) (h0 : 7 ≤ k) (h1 : k ≤ 15) : Calls Tryz.prog 68 #[.int .i64 k] w fun e w' => e = .returned (.int .i64 (gtN k)) ∧ w' = w := by
  have hk : k = 7 ∨ k = 8 ∨ k = 9 ∨ k = 10 ∨ k = 11 ∨ k = 12 ∨ k = 13 ∨ k = 14 ∨ k = 15 := by omega
  rcases hk with rfl | rfl | rfl | rfl | rfl | rfl | rfl | rfl | rfl
  all_goals
    clear h0 h1
    go_enter Tryz.func68, Tryz.ntmps68
    go_wp2
    go_ret
    exact ⟨rfl, rfl⟩
/-- The numbers of a declaration that have a bound. -/
def numD (d : Dc) : Nat → Int
  | 0 => d.x1
  | 1 => d.y1
  | 2 => d.x2
  | 3 => d.y2
  | _ => d.cost

theorem dcok_mk {d : Dc} {gn : Int} (hk : 7 ≤ d.kind ∧ d.kind ≤ 15) (hv : vlB d.x1 = true ∧ vlB d.y1 = true ∧ vlB d.x2 = true ∧ vlB d.y2 = true ∧ vlB d.cost = true) (h1 : arK d.kind = false → d.x1 = d.x2 ∧ d.y1 = d.y2) (h2 : 0 ≤ d.dir ∧ d.dir ≤ gn) (hg : gtN d.kind = gn) (h3 : d.kind ≠ 13 → d.cost = 0)
    (g1 : nmK d.kind = true → d.name.size ≤ 60 ∧ (chk d.name).1 = 0) (g2 : nmK d.kind = false → d.name.size = 0) : DcOk d := by
  unfold gtN at hg
  obtain ⟨v1, v2, v3, v4, v5⟩ := hv
  refine ⟨hk.1, hk.2, v1, v2, v3, v4, v5, fun a => (h1 a).1, fun a => (h1 a).2, h2.1, ?_, fun a => ?_, h3, fun a => (g1 a).1, fun a => (g1 a).2, g2⟩
  · by_cases q : wyK d.kind = true
    · rw [if_pos q] at hg; omega
    · rw [if_neg q] at hg; omega
  · rw [a, if_neg (by decide)] at hg
    omega
set_option maxHeartbeats 4000000 in
set_option maxRecDepth 1000000 in
theorem validDecl_any (d : Dc) (v7 : Value) (w : World) (hT : Lib.Utf8Tabs 2 3 w) (hb : DcB d) (h : DcV w d v7) :
    Calls Tryz.prog 47 #[dcagg d v7] w fun e w' => Ans (DcOk d) e ∧ Below w.heap.size w w' := by
  obtain ⟨a7, c7, rfl⟩ := h.name.slice
  unfold dcagg
  obtain ⟨W1, hW1⟩ : ∃ W, w.alloc (.cells #[.int .i64 d.kind, .int .i64 d.x1, .int .i64 d.y1, .int .i64 d.x2, .int .i64 d.y2, .int .i64 d.dir, .int .i64 d.cost, .slice a7 d.name.size c7, .int .i64 d.node] 42) = W := ⟨_, rfl⟩
  have hB1 : Below w.heap.size w W1 := by rw [← hW1]; exact (Below.refl _ _).alloc (Nat.le_refl _) _
  have HB1 := hide hB1
  have HSH := hide (fun W (hW : Below w.heap.size w W) => isShort_any (.slice a7 d.name.size c7) d.name W hb.name (Utf8Tabs_below hT hW) (h.name.below hW))
  have hBK : Blk W1 w.heap.size 42 #[.int .i64 d.kind, .int .i64 d.x1, .int .i64 d.y1, .int .i64 d.x2, .int .i64 d.y2, .int .i64 d.dir, .int .i64 d.cost, .slice a7 d.name.size c7, .int .i64 d.node] := by rw [← hW1]; exact Blk.new _ _ _
  have hW := hW1
  have z0 := hBK.cell 0
  have z1 := hBK.cell 1
  have z2 := hBK.cell 2
  have z3 := hBK.cell 3
  have z4 := hBK.cell 4
  have z5 := hBK.cell 5
  have z6 := hBK.cell 6
  have z7 := hBK.cell 7
  have z8 := hBK.cell 8
  simp only [List.getElem?_toArray, List.getElem?_cons_succ, List.getElem?_cons_zero] at z0 z1 z2 z3 z4 z5 z6 z7 z8
  clear hb h hT hW1 hB1 hBK
  by_cases q0 : d.kind < 7
  · have t0 : decide (d.kind < 7) = true := decide_eq_true q0
    have HN : Hid (¬ DcOk d) := fun g => by have := g.k0; omega
    clear q0
    go_enter Tryz.func47, Tryz.ntmps47
    go_wp2
    go_ret
    exact ⟨Ans.no HN.out, HB1.out⟩
  have t0 : decide (d.kind < 7) = false := decide_eq_false q0
  by_cases q1 : 15 < d.kind
  · have t1 : decide (15 < d.kind) = true := decide_eq_true q1
    have HN : Hid (¬ DcOk d) := fun g => by have := g.k1; omega
    clear q1
    go_enter Tryz.func47, Tryz.ntmps47
    go_wp2
    go_ret
    exact ⟨Ans.no HN.out, HB1.out⟩
  have t1 : decide (15 < d.kind) = false := decide_eq_false q1
  have HGN := hide (fun W => greatestN_decl d.kind W (by omega) (by omega))
  have HHA := hide (fun W => hasArea_any d.kind W)
  have HIT := hide (fun W => isTarget_any d.kind W)
  have HK : Hid (7 ≤ d.kind ∧ d.kind ≤ 15) := ⟨by omega, by omega⟩
  clear q0 q1
  have i0 : ∀ w, (Instr.index 90 (.agg #[.int .i64 d.x1, .int .i64 d.y1, .int .i64 d.x2, .int .i64 d.y2, .int .i64 d.cost]) (.int .i64 0)).run Tryz.prog w = .ok (.int .i64 d.x1) w := fun _ => by kernel_rfl
  have i1 : ∀ w, (Instr.index 90 (.agg #[.int .i64 d.x1, .int .i64 d.y1, .int .i64 d.x2, .int .i64 d.y2, .int .i64 d.cost]) (.int .i64 1)).run Tryz.prog w = .ok (.int .i64 d.y1) w := fun _ => by kernel_rfl
  have i2 : ∀ w, (Instr.index 90 (.agg #[.int .i64 d.x1, .int .i64 d.y1, .int .i64 d.x2, .int .i64 d.y2, .int .i64 d.cost]) (.int .i64 2)).run Tryz.prog w = .ok (.int .i64 d.x2) w := fun _ => by kernel_rfl
  have i3 : ∀ w, (Instr.index 90 (.agg #[.int .i64 d.x1, .int .i64 d.y1, .int .i64 d.x2, .int .i64 d.y2, .int .i64 d.cost]) (.int .i64 3)).run Tryz.prog w = .ok (.int .i64 d.y2) w := fun _ => by kernel_rfl
  have i4 : ∀ w, (Instr.index 90 (.agg #[.int .i64 d.x1, .int .i64 d.y1, .int .i64 d.x2, .int .i64 d.y2, .int .i64 d.cost]) (.int .i64 4)).run Tryz.prog w = .ok (.int .i64 d.cost) w := fun _ => by kernel_rfl
  go_enter Tryz.func47, Tryz.ntmps47
  go_wp2
  go_loop [24] (fun ix => ∃ j : Nat, j ≤ 5 ∧ ix = .int .i64 j ∧ ∀ i, i < j → vlB (numD d i) = true) (fun ix => 5 - (intOf ix).toNat)
  case atStart => exact ⟨0, by omega, rfl, fun i hi => by omega⟩
  case round =>
    obtain ⟨j, hj, rfl, hv⟩ := hrel
    have HV := hide hv
    clear hv
    by_cases hlt : j < 5
    · have hlti : (j : Int) < 5 := by omega
      obtain ⟨x, hx⟩ : ∃ x, numD d j = x := ⟨_, rfl⟩
      by_cases b1 : vlB x = true
      · have b1' := (vlB_iff x).1 b1
        have u1 : decide (x < -1000000) = false := decide_eq_false (by omega)
        have u2 : decide (1000000 < x) = false := decide_eq_false (by omega)
        have HV2 : Hid (∀ i, i < j + 1 → vlB (numD d i) = true) := fun i hi => by
          by_cases e : i = j
          · rw [e, hx]; exact b1
          · exact HV.out i (by omega)
        clear b1 b1' HV
        have hj5 : j = 0 ∨ j = 1 ∨ j = 2 ∨ j = 3 ∨ j = 4 := by omega
        rcases hj5 with rfl | rfl | rfl | rfl | rfl
        all_goals
          simp only [numD] at hx
          rw [← hx] at u1 u2
          clear hx hlt hj
          go_wp2
          go_round
          case rel => first | exact ⟨1, by decide, rfl, HV2.out⟩ | exact ⟨2, by decide, rfl, HV2.out⟩ | exact ⟨3, by decide, rfl, HV2.out⟩ | exact ⟨4, by decide, rfl, HV2.out⟩ | exact ⟨5, by decide, rfl, HV2.out⟩
          case measure => simp [intOf]
      · have HN : Hid (¬ DcOk d) := fun g => by
          have hj5 : j = 0 ∨ j = 1 ∨ j = 2 ∨ j = 3 ∨ j = 4 := by omega
          rcases hj5 with rfl | rfl | rfl | rfl | rfl
          · exact b1 (by rw [← hx]; exact g.x1)
          · exact b1 (by rw [← hx]; exact g.y1)
          · exact b1 (by rw [← hx]; exact g.x2)
          · exact b1 (by rw [← hx]; exact g.y2)
          · exact b1 (by rw [← hx]; exact g.cs)
        have b2 : x < -1000000 ∨ (¬ x < -1000000 ∧ 1000000 < x) := by
          have hn : ¬ (-1000000 ≤ x ∧ x ≤ 1000000) := fun g => b1 ((vlB_iff x).2 g)
          omega
        have hj5 : j = 0 ∨ j = 1 ∨ j = 2 ∨ j = 3 ∨ j = 4 := by omega
        clear b1 HV
        rcases b2 with b2 | ⟨b3, b2⟩
        · have u1 : decide (x < -1000000) = true := decide_eq_true b2
          clear b2
          rcases hj5 with rfl | rfl | rfl | rfl | rfl
          all_goals
            simp only [numD] at hx
            rw [← hx] at u1
            clear hx hlt hj
            go_wp2
            go_ret
            exact ⟨Ans.no HN.out, HB1.out⟩
        · have u1 : decide (x < -1000000) = false := decide_eq_false b3
          have u2 : decide (1000000 < x) = true := decide_eq_true b2
          clear b2 b3
          rcases hj5 with rfl | rfl | rfl | rfl | rfl
          all_goals
            simp only [numD] at hx
            rw [← hx] at u1 u2
            clear hx hlt hj
            go_wp2
            go_ret
            exact ⟨Ans.no HN.out, HB1.out⟩
    · obtain rfl : j = 5 := by omega
      have hge : ¬ ((5 : Nat) : Int) < 5 := by omega
      have HVS : Hid (vlB d.x1 = true ∧ vlB d.y1 = true ∧ vlB d.x2 = true ∧ vlB d.y2 = true ∧ vlB d.cost = true) := ⟨HV.out 0 (by omega), HV.out 1 (by omega), HV.out 2 (by omega), HV.out 3 (by omega), HV.out 4 (by omega)⟩
      clear HV hlt hj
      obtain ⟨ba, hba⟩ : ∃ b, arK d.kind = b := ⟨_, rfl⟩
      have HBA := hide hba
      rw [hba] at HHA
      obtain ⟨gn, hgn⟩ : ∃ g, gtN d.kind = g := ⟨_, rfl⟩
      have HGE := hide hgn
      rw [hgn] at HGN
      obtain ⟨bt, hbt⟩ : ∃ b, nmK d.kind = b := ⟨_, rfl⟩
      have HBT := hide hbt
      rw [hbt] at HIT
      clear hba hgn hbt
      cases ba with
      | true =>
        have HC1 : Hid (arK d.kind = false → d.x1 = d.x2 ∧ d.y1 = d.y2) := fun g => by rw [HBA.out] at g; cases g
        by_cases p3 : d.dir < 0
        · have u3 : decide (d.dir < 0) = true := decide_eq_true p3
          have HN : Hid (¬ DcOk d) := fun g => by
            have := g.d0
            omega
          clear p3
          go_wp2_with (first | (go_at_call 67; refine (HHA.out _).mono ?_; rintro e w2 ⟨rfl, rfl⟩) | (go_at_call 27; refine (HIT.out _).mono ?_; rintro e w2 ⟨rfl, rfl⟩))
          go_quiet (fail)
          go_wp2
          go_ret
          exact ⟨Ans.no HN.out, below_drewN HB1.out _⟩
        have u3 : decide (d.dir < 0) = false := decide_eq_false p3
        by_cases p4 : gn < d.dir
        · have u4 : decide (gn < d.dir) = true := decide_eq_true p4
          have HN : Hid (¬ DcOk d) := fun g => by
            have h1 := g.d1
            have h2 := g.dw
            have h3 := HGE.out
            unfold gtN at h3
            by_cases q : wyK d.kind = true
            · rw [if_pos q] at h3; omega
            · rw [if_neg q] at h3; have := h2 (by cases h : wyK d.kind <;> simp_all); omega
          clear p3 p4
          go_wp2_with (first | (go_at_call 67; refine (HHA.out _).mono ?_; rintro e w2 ⟨rfl, rfl⟩) | (go_at_call 27; refine (HIT.out _).mono ?_; rintro e w2 ⟨rfl, rfl⟩))
          go_quiet ((go_at_call 68; exact Calls.quiet_of_same (HGN.out _)))
          go_wp2
          go_ret
          exact ⟨Ans.no HN.out, below_drewN HB1.out _⟩
        have u4 : decide (gn < d.dir) = false := decide_eq_false p4
        have HC2 : Hid (0 ≤ d.dir ∧ d.dir ≤ gn) := ⟨by omega, by omega⟩
        clear p3 p4
        go_wp2_with (first | (go_at_call 67; refine (HHA.out _).mono ?_; rintro e w2 ⟨rfl, rfl⟩) | (go_at_call 27; refine (HIT.out _).mono ?_; rintro e w2 ⟨rfl, rfl⟩))
        go_quiet ((go_at_call 68; exact Calls.quiet_of_same (HGN.out _)))
        by_cases p5 : d.kind = 13
        · have u5 : (d.kind != 13) = false := by rw [bne_eq_false_iff_eq]; exact p5
          have HC3 : Hid (d.kind ≠ 13 → d.cost = 0) := fun g => absurd p5 g
          clear p5
          have HMK : Hid ((nmK d.kind = true → d.name.size ≤ 60 ∧ (chk d.name).1 = 0) → (nmK d.kind = false → d.name.size = 0) → DcOk d) := fun g1 g2 => dcok_mk HK.out HVS.out HC1.out HC2.out HGE.out HC3.out g1 g2
          cases bt with
          | true =>
            go_wp2_with (first | (go_at_call 67; refine (HHA.out _).mono ?_; rintro e w2 ⟨rfl, rfl⟩) | (go_at_call 27; refine (HIT.out _).mono ?_; rintro e w2 ⟨rfl, rfl⟩))
            refine (HSH.out _ (HB1.out.trans (below_drewN (Below.refl _ _) nq |>.mono HB1.out.size))).mono ?_
            rintro e w9 ⟨rfl, hb9⟩
            have HB9 := hide ((HB1.out.trans (below_drewN (Below.refl _ _) nq |>.mono HB1.out.size)).trans (hb9.mono (HB1.out.trans (below_drewN (Below.refl _ _) nq |>.mono HB1.out.size)).size))
            clear hb9
            go_wp2
            go_ret
            refine ⟨⟨_, rfl, fun g => ?_, fun g => ?_⟩, HB9.out⟩
            · unfold shortT at g
              rw [Bool.and_eq_true, decide_eq_true_iff, decide_eq_true_iff] at g
              exact HMK.out (fun _ => g) (fun q => by rw [HBT.out] at q; cases q)
            · unfold shortT
              rw [Bool.and_eq_true, decide_eq_true_iff, decide_eq_true_iff]
              exact ⟨g.n0 HBT.out, g.n1 HBT.out⟩
          | false =>
            go_wp2_with (first | (go_at_call 67; refine (HHA.out _).mono ?_; rintro e w2 ⟨rfl, rfl⟩) | (go_at_call 27; refine (HIT.out _).mono ?_; rintro e w2 ⟨rfl, rfl⟩))
            go_ret
            refine ⟨⟨_, rfl, fun g => ?_, fun g => ?_⟩, below_drewN HB1.out _⟩
            · exact HMK.out (fun q => by rw [HBT.out] at q; cases q) (fun _ => by rw [beq_iff_eq] at g; omega)
            · rw [beq_iff_eq]
              have := g.n2 HBT.out
              omega
        · have u5 : (d.kind != 13) = true := by rw [bne_iff_ne]; exact p5
          by_cases p6 : d.cost = 0
          · have u6 : (d.cost != 0) = false := by rw [bne_eq_false_iff_eq]; exact p6
            have HC3 : Hid (d.kind ≠ 13 → d.cost = 0) := fun _ => p6
            clear p5 p6
            have HMK : Hid ((nmK d.kind = true → d.name.size ≤ 60 ∧ (chk d.name).1 = 0) → (nmK d.kind = false → d.name.size = 0) → DcOk d) := fun g1 g2 => dcok_mk HK.out HVS.out HC1.out HC2.out HGE.out HC3.out g1 g2
            cases bt with
            | true =>
              go_wp2_with (first | (go_at_call 67; refine (HHA.out _).mono ?_; rintro e w2 ⟨rfl, rfl⟩) | (go_at_call 27; refine (HIT.out _).mono ?_; rintro e w2 ⟨rfl, rfl⟩))
              refine (HSH.out _ (HB1.out.trans (below_drewN (Below.refl _ _) nq |>.mono HB1.out.size))).mono ?_
              rintro e w9 ⟨rfl, hb9⟩
              have HB9 := hide ((HB1.out.trans (below_drewN (Below.refl _ _) nq |>.mono HB1.out.size)).trans (hb9.mono (HB1.out.trans (below_drewN (Below.refl _ _) nq |>.mono HB1.out.size)).size))
              clear hb9
              go_wp2
              go_ret
              refine ⟨⟨_, rfl, fun g => ?_, fun g => ?_⟩, HB9.out⟩
              · unfold shortT at g
                rw [Bool.and_eq_true, decide_eq_true_iff, decide_eq_true_iff] at g
                exact HMK.out (fun _ => g) (fun q => by rw [HBT.out] at q; cases q)
              · unfold shortT
                rw [Bool.and_eq_true, decide_eq_true_iff, decide_eq_true_iff]
                exact ⟨g.n0 HBT.out, g.n1 HBT.out⟩
            | false =>
              go_wp2_with (first | (go_at_call 67; refine (HHA.out _).mono ?_; rintro e w2 ⟨rfl, rfl⟩) | (go_at_call 27; refine (HIT.out _).mono ?_; rintro e w2 ⟨rfl, rfl⟩))
              go_ret
              refine ⟨⟨_, rfl, fun g => ?_, fun g => ?_⟩, below_drewN HB1.out _⟩
              · exact HMK.out (fun q => by rw [HBT.out] at q; cases q) (fun _ => by rw [beq_iff_eq] at g; omega)
              · rw [beq_iff_eq]
                have := g.n2 HBT.out
                omega
          · have u6 : (d.cost != 0) = true := by rw [bne_iff_ne]; exact p6
            have HN : Hid (¬ DcOk d) := fun g => by
              exact p6 (g.cz p5)
            clear p5 p6
            go_wp2_with (first | (go_at_call 67; refine (HHA.out _).mono ?_; rintro e w2 ⟨rfl, rfl⟩) | (go_at_call 27; refine (HIT.out _).mono ?_; rintro e w2 ⟨rfl, rfl⟩))
            go_ret
            exact ⟨Ans.no HN.out, below_drewN HB1.out _⟩
      | false =>
        by_cases p1 : d.x2 = d.x1
        · have u1 : (d.x2 != d.x1) = false := by rw [bne_eq_false_iff_eq]; exact p1
          by_cases p2 : d.y2 = d.y1
          · have u2 : (d.y2 != d.y1) = false := by rw [bne_eq_false_iff_eq]; exact p2
            have HC1 : Hid (arK d.kind = false → d.x1 = d.x2 ∧ d.y1 = d.y2) := fun _ => ⟨p1.symm, p2.symm⟩
            clear p1 p2
            by_cases p3 : d.dir < 0
            · have u3 : decide (d.dir < 0) = true := decide_eq_true p3
              have HN : Hid (¬ DcOk d) := fun g => by
                have := g.d0
                omega
              clear p3
              go_wp2_with (first | (go_at_call 67; refine (HHA.out _).mono ?_; rintro e w2 ⟨rfl, rfl⟩) | (go_at_call 27; refine (HIT.out _).mono ?_; rintro e w2 ⟨rfl, rfl⟩))
              go_quiet (fail)
              go_wp2
              go_ret
              exact ⟨Ans.no HN.out, below_drewN HB1.out _⟩
            have u3 : decide (d.dir < 0) = false := decide_eq_false p3
            by_cases p4 : gn < d.dir
            · have u4 : decide (gn < d.dir) = true := decide_eq_true p4
              have HN : Hid (¬ DcOk d) := fun g => by
                have h1 := g.d1
                have h2 := g.dw
                have h3 := HGE.out
                unfold gtN at h3
                by_cases q : wyK d.kind = true
                · rw [if_pos q] at h3; omega
                · rw [if_neg q] at h3; have := h2 (by cases h : wyK d.kind <;> simp_all); omega
              clear p3 p4
              go_wp2_with (first | (go_at_call 67; refine (HHA.out _).mono ?_; rintro e w2 ⟨rfl, rfl⟩) | (go_at_call 27; refine (HIT.out _).mono ?_; rintro e w2 ⟨rfl, rfl⟩))
              go_quiet ((go_at_call 68; exact Calls.quiet_of_same (HGN.out _)))
              go_wp2
              go_ret
              exact ⟨Ans.no HN.out, below_drewN HB1.out _⟩
            have u4 : decide (gn < d.dir) = false := decide_eq_false p4
            have HC2 : Hid (0 ≤ d.dir ∧ d.dir ≤ gn) := ⟨by omega, by omega⟩
            clear p3 p4
            go_wp2_with (first | (go_at_call 67; refine (HHA.out _).mono ?_; rintro e w2 ⟨rfl, rfl⟩) | (go_at_call 27; refine (HIT.out _).mono ?_; rintro e w2 ⟨rfl, rfl⟩))
            go_quiet ((go_at_call 68; exact Calls.quiet_of_same (HGN.out _)))
            by_cases p5 : d.kind = 13
            · have u5 : (d.kind != 13) = false := by rw [bne_eq_false_iff_eq]; exact p5
              have HC3 : Hid (d.kind ≠ 13 → d.cost = 0) := fun g => absurd p5 g
              clear p5
              have HMK : Hid ((nmK d.kind = true → d.name.size ≤ 60 ∧ (chk d.name).1 = 0) → (nmK d.kind = false → d.name.size = 0) → DcOk d) := fun g1 g2 => dcok_mk HK.out HVS.out HC1.out HC2.out HGE.out HC3.out g1 g2
              cases bt with
              | true =>
                go_wp2_with (first | (go_at_call 67; refine (HHA.out _).mono ?_; rintro e w2 ⟨rfl, rfl⟩) | (go_at_call 27; refine (HIT.out _).mono ?_; rintro e w2 ⟨rfl, rfl⟩))
                refine (HSH.out _ (HB1.out.trans (below_drewN (Below.refl _ _) nq |>.mono HB1.out.size))).mono ?_
                rintro e w9 ⟨rfl, hb9⟩
                have HB9 := hide ((HB1.out.trans (below_drewN (Below.refl _ _) nq |>.mono HB1.out.size)).trans (hb9.mono (HB1.out.trans (below_drewN (Below.refl _ _) nq |>.mono HB1.out.size)).size))
                clear hb9
                go_wp2
                go_ret
                refine ⟨⟨_, rfl, fun g => ?_, fun g => ?_⟩, HB9.out⟩
                · unfold shortT at g
                  rw [Bool.and_eq_true, decide_eq_true_iff, decide_eq_true_iff] at g
                  exact HMK.out (fun _ => g) (fun q => by rw [HBT.out] at q; cases q)
                · unfold shortT
                  rw [Bool.and_eq_true, decide_eq_true_iff, decide_eq_true_iff]
                  exact ⟨g.n0 HBT.out, g.n1 HBT.out⟩
              | false =>
                go_wp2_with (first | (go_at_call 67; refine (HHA.out _).mono ?_; rintro e w2 ⟨rfl, rfl⟩) | (go_at_call 27; refine (HIT.out _).mono ?_; rintro e w2 ⟨rfl, rfl⟩))
                go_ret
                refine ⟨⟨_, rfl, fun g => ?_, fun g => ?_⟩, below_drewN HB1.out _⟩
                · exact HMK.out (fun q => by rw [HBT.out] at q; cases q) (fun _ => by rw [beq_iff_eq] at g; omega)
                · rw [beq_iff_eq]
                  have := g.n2 HBT.out
                  omega
            · have u5 : (d.kind != 13) = true := by rw [bne_iff_ne]; exact p5
              by_cases p6 : d.cost = 0
              · have u6 : (d.cost != 0) = false := by rw [bne_eq_false_iff_eq]; exact p6
                have HC3 : Hid (d.kind ≠ 13 → d.cost = 0) := fun _ => p6
                clear p5 p6
                have HMK : Hid ((nmK d.kind = true → d.name.size ≤ 60 ∧ (chk d.name).1 = 0) → (nmK d.kind = false → d.name.size = 0) → DcOk d) := fun g1 g2 => dcok_mk HK.out HVS.out HC1.out HC2.out HGE.out HC3.out g1 g2
                cases bt with
                | true =>
                  go_wp2_with (first | (go_at_call 67; refine (HHA.out _).mono ?_; rintro e w2 ⟨rfl, rfl⟩) | (go_at_call 27; refine (HIT.out _).mono ?_; rintro e w2 ⟨rfl, rfl⟩))
                  refine (HSH.out _ (HB1.out.trans (below_drewN (Below.refl _ _) nq |>.mono HB1.out.size))).mono ?_
                  rintro e w9 ⟨rfl, hb9⟩
                  have HB9 := hide ((HB1.out.trans (below_drewN (Below.refl _ _) nq |>.mono HB1.out.size)).trans (hb9.mono (HB1.out.trans (below_drewN (Below.refl _ _) nq |>.mono HB1.out.size)).size))
                  clear hb9
                  go_wp2
                  go_ret
                  refine ⟨⟨_, rfl, fun g => ?_, fun g => ?_⟩, HB9.out⟩
                  · unfold shortT at g
                    rw [Bool.and_eq_true, decide_eq_true_iff, decide_eq_true_iff] at g
                    exact HMK.out (fun _ => g) (fun q => by rw [HBT.out] at q; cases q)
                  · unfold shortT
                    rw [Bool.and_eq_true, decide_eq_true_iff, decide_eq_true_iff]
                    exact ⟨g.n0 HBT.out, g.n1 HBT.out⟩
                | false =>
                  go_wp2_with (first | (go_at_call 67; refine (HHA.out _).mono ?_; rintro e w2 ⟨rfl, rfl⟩) | (go_at_call 27; refine (HIT.out _).mono ?_; rintro e w2 ⟨rfl, rfl⟩))
                  go_ret
                  refine ⟨⟨_, rfl, fun g => ?_, fun g => ?_⟩, below_drewN HB1.out _⟩
                  · exact HMK.out (fun q => by rw [HBT.out] at q; cases q) (fun _ => by rw [beq_iff_eq] at g; omega)
                  · rw [beq_iff_eq]
                    have := g.n2 HBT.out
                    omega
              · have u6 : (d.cost != 0) = true := by rw [bne_iff_ne]; exact p6
                have HN : Hid (¬ DcOk d) := fun g => by
                  exact p6 (g.cz p5)
                clear p5 p6
                go_wp2_with (first | (go_at_call 67; refine (HHA.out _).mono ?_; rintro e w2 ⟨rfl, rfl⟩) | (go_at_call 27; refine (HIT.out _).mono ?_; rintro e w2 ⟨rfl, rfl⟩))
                go_ret
                exact ⟨Ans.no HN.out, below_drewN HB1.out _⟩
          · have u2 : (d.y2 != d.y1) = true := by rw [bne_iff_ne]; exact p2
            have HN : Hid (¬ DcOk d) := fun g => by
              exact p2 (g.ay HBA.out).symm
            clear p1 p2
            go_wp2_with (first | (go_at_call 67; refine (HHA.out _).mono ?_; rintro e w2 ⟨rfl, rfl⟩) | (go_at_call 27; refine (HIT.out _).mono ?_; rintro e w2 ⟨rfl, rfl⟩))
            go_ret
            exact ⟨Ans.no HN.out, HB1.out⟩
        · have u1 : (d.x2 != d.x1) = true := by rw [bne_iff_ne]; exact p1
          have HN : Hid (¬ DcOk d) := fun g => by
            exact p1 (g.ax HBA.out).symm
          clear p1
          go_wp2_with (first | (go_at_call 67; refine (HHA.out _).mono ?_; rintro e w2 ⟨rfl, rfl⟩) | (go_at_call 27; refine (HIT.out _).mono ?_; rintro e w2 ⟨rfl, rfl⟩))
          go_ret
          exact ⟨Ans.no HN.out, HB1.out⟩

set_option maxHeartbeats 2000000 in
set_option maxRecDepth 1000000 in
theorem validDecls_any (L : List Dc) (v : Value) (w : World) (hT : Lib.Utf8Tabs 2 3 w) (hl : L.length ≤ 1048576) (hB : ∀ j, j < L.length → DcB (L.getD j .zero)) (h : DcS w v L) :
    Calls Tryz.prog 18 #[v] w fun e w' => Ans (dcsOk L) e ∧ Below w.heap.size w w' := by
  obtain ⟨a0, b0, o0, c0, rfl, ha0, hc0⟩ := h
  have HD : Hid (∀ V, Below w.heap.size w V → ∀ j, j < L.length → ∃ v7, DcC V b0 (o0 + j * 9) (L.getD j .zero) v7 ∧ DcV V (L.getD j .zero) v7) := fun V hV j hj => by
    obtain ⟨v7, h1, h2⟩ := hc0 j hj
    exact ⟨v7, h1.below hV, h2.below hV⟩
  have HA0 : Hid (0 < L.length → a0 = some ⟨b0, o0, none⟩) := ha0
  have HDB := hide hB
  have HT := hide hT
  clear hc0 ha0 hB hT
  by_cases hlong : 9000 < L.length
  · have tl : (9000 : Int) < (L.length : Int) := by omega
    have HN : Hid (¬ dcsOk L) := fun h => by have := h.1; omega
    go_enter Tryz.func18, Tryz.ntmps18
    go_wp2
    go_ret
    exact ⟨Ans.no HN.out, Below.refl _ _⟩
  have tl : ¬ (9000 : Int) < (L.length : Int) := by omega
  have hl9 : L.length ≤ 9000 := by omega
  clear hlong hl
  go_enter Tryz.func18, Tryz.ntmps18
  go_wp2
  go_loopw [10] (fun ix wr => ∃ k : Nat, k ≤ L.length ∧ ix = .int .i64 k ∧ (∀ j, j < k → DcOk (L.getD j .zero)) ∧ Below w.heap.size w wr) (fun ix _ => L.length - (intOf ix).toNat)
  case atStart => exact ⟨0, Nat.zero_le _, rfl, fun j hj => by omega, Below.refl _ _⟩
  case round =>
    obtain ⟨k, hk, rfl, hok, hb⟩ := hrel
    rename World => V
    have HOK := hide hok
    have HB := hide hb
    by_cases hlt : k < L.length
    · have hlti : (k : Int) < (L.length : Int) := by omega
      obtain rfl := HA0.out (by omega)
      obtain ⟨v7, hdc, hdv⟩ := HD.out V hb k hlt
      have HDK := hide (fun W (hW : Below V.heap.size V W) => validDecl_any (L.getD k .zero) v7 W (Utf8Tabs_below HT.out (HB.out.trans (hW.mono HB.out.size))) (HDB.out k hlt) (hdv.below hW))
      obtain ⟨a7, c7, rfl⟩ := hdv.name.slice
      have HST : Hid (∀ b : Bool, (b = true ↔ DcOk (L.getD k .zero)) → (b = false → ¬ dcsOk L) ∧ (b = true → ∀ j, j < k + 1 → DcOk (L.getD j .zero))) := fun b hbi => by
        refine ⟨fun e h => ?_, fun e j hj => ?_⟩
        · rw [e] at hbi
          have := hbi.2 (h.2 k hlt)
          cases this
        · by_cases q : j = k
          · rw [q]; exact hbi.1 e
          · exact HOK.out j (by omega)
      obtain ⟨d, hd⟩ : ∃ d, L.getD k .zero = d := ⟨_, rfl⟩
      rw [hd] at hdc HDK HST
      obtain ⟨z0, z1, z2, z3, z4, z5, z6, z7, z8⟩ := hdc
      unfold dcagg at HDK
      have hA := (Below.refl _ V).alloc (Nat.le_refl _) (.cells #[.int .i64 d.kind, .int .i64 d.x1, .int .i64 d.y1, .int .i64 d.x2, .int .i64 d.y2, .int .i64 d.dir, .int .i64 d.cost, .slice a7 d.name.size c7, .int .i64 d.node] 42)
      have HA := hide hA
      clear hok hb hdv hd hA
      go_wp2_with fail
      refine (HDK.out _ HA.out).mono ?_
      rintro e V2 ⟨⟨b, rfl, hbi⟩, hb2⟩
      have HB2 : Hid (Below w.heap.size w V2) := HB.out.trans ((HA.out.trans (hb2.mono HA.out.size)).mono HB.out.size)
      have HSB := hide (HST.out b hbi)
      clear hbi hb2 z0 z1 z2 z3 z4 z5 z6 z7 z8 HST HDK HA
      cases b with
      | false =>
        have HN := hide (HSB.out.1 rfl)
        go_wp2
        go_ret
        exact ⟨Ans.no HN.out, HB2.out⟩
      | true =>
        have HOK2 := hide (HSB.out.2 rfl)
        go_wp2
        go_roundw
        case rel => exact ⟨k + 1, by omega, by go_num, HOK2.out, HB2.out⟩
        case measure => simp [intOf]; omega
    · obtain rfl : k = L.length := by omega
      have hge : ¬ (L.length : Int) < (L.length : Int) := by omega
      have HDK : Hid (dcsOk L) := ⟨hl9, fun j hj => HOK.out j hj⟩
      clear hok hb hlt
      go_wp2
      go_ret
      exact ⟨Ans.yes HDK.out, HB.out⟩
end Go.Proofs.YtijdlbanfdhfnaaGreatDoor

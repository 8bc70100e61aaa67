/-
  The walk of spec.Reach.
-/
import Derived.Test.YtonhehndoifipabJReachSRE
import Derived.Test.YtonhehndoifipabJReachSED
import Derived.Test.YtonhehndoifipabJReachSG
import Derived.BigQuiet
import Derived.Deep.QuietTactic
import Derived.Deep.RegionHeld3
namespace Go.Proofs.Ytonhehndoifipab
open Go.RowKit

/-- What may be asked of Reach. -/
structure RcOk (g : Gr) (F : List Int) : Prop where
  gr : GrOk g
  len : (F.length : Int) ≤ g.n
  all : ∀ j, j < F.length → 0 ≤ F.getD j 0 ∧ F.getD j 0 < g.n
open Classical in
/-- What Reach answers. -/
noncomputable def rcF (g : Gr) (F : List Int) : List Bool := if RcOk g F then rchL g.n.toNat (eds g) F else []
open Classical in
noncomputable def rcC (g : Gr) (F : List Int) : Int := if RcOk g F then 0 else 1
theorem rcF_no {g : Gr} {F : List Int} (h : ¬ RcOk g F) : rcF g F = [] := by unfold rcF; rw [if_neg h]
theorem rcC_no {g : Gr} {F : List Int} (h : ¬ RcOk g F) : rcC g F = 1 := by unfold rcC; rw [if_neg h]
theorem rcF_yes {g : Gr} {F : List Int} (h : RcOk g F) : rcF g F = rchL g.n.toNat (eds g) F := by unfold rcF; rw [if_pos h]
theorem rcC_yes {g : Gr} {F : List Int} (h : RcOk g F) : rcC g F = 0 := by unfold rcC; rw [if_pos h]
theorem rcF_le (g : Gr) (F : List Int) : (rcF g F).length ≤ 1600 := by
  unfold rcF
  split
  · rename_i h
    rw [rchL_length]
    have := h.gr.n1
    omega
  · simp
theorem srcUp_le (g : Gr) (e : Nat) : ∀ n, srcUp g e n ≤ n
  | 0 => Nat.le_refl _
  | n + 1 => by
    unfold srcUp
    split
    · exact Nat.le_refl _
    · have := srcUp_le g e n; omega
theorem eds_in {g : Gr} (h : GrOk g) {e : Ed} (he : e ∈ eds g) : (0 ≤ e.f ∧ e.f < g.n) ∧ 0 ≤ e.t ∧ e.t < g.n := by
  unfold eds edsTo at he
  obtain ⟨i, hi, rfl⟩ := List.mem_map.1 he
  have h1 := h.edges i (List.mem_range.1 hi)
  have h2 := srcUp_le g i (g.n.toNat - 1)
  have h3 := h.n0
  refine ⟨?_, h1.to0, h1.to1⟩
  show 0 ≤ ((srcUp g i (g.n.toNat - 1) : Nat) : Int) ∧ ((srcUp g i (g.n.toNat - 1) : Nat) : Int) < g.n
  omega
theorem rc_in {g : Gr} {F : List Int} (h : RcOk g F) : In g.n.toNat (eds g) F := by
  have h0 := h.gr.n0
  refine ⟨fun e he => ?_, fun e he => ?_, fun c hc => ?_⟩
  · have := (eds_in h.gr he).1; omega
  · have := (eds_in h.gr he).2; omega
  · obtain ⟨j, hj, rfl⟩ := List.getElem_of_mem hc
    have := h.all j hj
    rw [List.getD_eq_getElem?_getD, List.getElem?_eq_getElem hj] at this
    have h2 : 0 ≤ F[j] ∧ F[j] < g.n := this
    omega

set_option maxHeartbeats 4000000 in
set_option maxRecDepth 1000000 in
theorem specReach_any (g : Gr) (v1 v2 v3 v4 : Value) (F : List Int) (u : Value) (w : World) (hb : GrB g) (hF : F.length ≤ 1048576) (h : GrV w g v1 v2 v3 v4) (hu : IS w u F) :
    Calls Try.prog 5 #[gragg g v1 v2 v3 v4, u] w fun e w' => ∃ v, e = .returned (.tuple #[v, .int .i64 (rcC g F)]) ∧ VS w' v (rcF g F) ∧ Below w.heap.size w w' := by
  have HVG := hide (fun w2 (h2 : Below w.heap.size w w2) => specGraph_any g v1 v2 v3 v4 w2 hb (h.below h2))
  have HED := hide (fun w2 (h2 : Below w.heap.size w w2) (hok : GrOk g) => l5edges_any g v1 v2 v3 v4 w2 hok (h.below h2))
  have HU := hide (fun w2 (h2 : Below w.heap.size w w2) => hu.below h2)
  obtain ⟨a1, c1, rfl⟩ := h.start.slice
  obtain ⟨a2, c2, rfl⟩ := h.to.slice
  obtain ⟨a3, c3, rfl⟩ := h.dir.slice
  obtain ⟨a4, c4, rfl⟩ := h.cost.slice
  obtain ⟨au, bu, ou, cu, rfl, hau, hcu⟩ := hu
  have HCU : Hid (∀ w2, Below w.heap.size w w2 → ∀ j, j < F.length → w2.cell? ⟨bu, ou + j, none⟩ = some (.int .i64 (F.getD j 0))) := fun w2 h2 j hj => cell_kept (hcu j hj) h2
  obtain ⟨W0, hW0⟩ : ∃ W, w.alloc (.cells #[.int .i64 g.n, .slice a1 g.start.length c1, .slice a2 g.to.length c2, .slice a3 g.dir.length c3, .slice a4 g.cost.length c4] 29) = W := ⟨_, rfl⟩
  have hB0 : Below w.heap.size w W0 := by rw [← hW0]; exact (Below.refl _ _).alloc (Nat.le_refl _) _
  have hA0 : Blk W0 w.heap.size 29 #[.int .i64 g.n, .slice a1 g.start.length c1, .slice a2 g.to.length c2, .slice a3 g.dir.length c3, .slice a4 g.cost.length c4] := by rw [← hW0]; exact Blk.new _ _ _
  have HB0 := hide hB0
  have HA0 := hide hA0
  have HW := hide hW0
  unfold gragg at HVG HED ⊢
  clear hB0 hA0 hW0 hb h hcu
  go_enter Try.func5, Try.ntmps5
  go_wp2_with fail
  rw [HW.out]
  refine (HVG.out _ HB0.out).mono ?_
  rintro e w1 ⟨⟨r1, rfl, hr1⟩, hb1⟩
  have HA1 := hide (HA0.out.below hb1)
  have HB1 : Hid (Below w.heap.size w w1) := HB0.out.trans (hb1.mono HB0.out.size)
  have HR1 := hide hr1
  clear hb1 hr1 HA0 HB0 HW HVG
  cases r1 with
  | false =>
    have HNO : Hid (¬ RcOk g F) := fun h => by have := HR1.out.2 h.gr; cases this
    go_wp2
    go_ret2
    rw [rcF_no HNO.out, rcC_no HNO.out]
    exact ⟨_, rfl, ⟨none, 0, 0, 0, rfl, (fun h => absurd h (by decide)), fun j hj => absurd hj (Nat.not_lt_zero _)⟩, HB1.out⟩
  | true =>
  have HOK := hide (HR1.out.1 rfl)
  have z0 := HA1.out.cell 0
  simp only [List.getElem?_toArray, List.getElem?_cons_zero] at z0
  clear HR1
  by_cases q1 : g.n < (F.length : Int)
  · have t1 : decide (g.n < (F.length : Int)) = true := decide_eq_true q1
    have HNO : Hid (¬ RcOk g F) := fun h => by have := h.len; omega
    go_wp2
    go_ret2
    rw [rcF_no HNO.out, rcC_no HNO.out]
    exact ⟨_, rfl, ⟨none, 0, 0, 0, rfl, (fun h => absurd h (by decide)), fun j hj => absurd hj (Nat.not_lt_zero _)⟩, HB1.out⟩
  have t1 : decide (g.n < (F.length : Int)) = false := decide_eq_false q1
  have HLE : Hid ((F.length : Int) ≤ g.n) := by show _ ≤ _; omega
  have hFb : F.length ≤ 1600 := by have := HOK.out.n1; omega
  go_wp2
  clear z0 t1 q1
  go_loopw [6] (fun ix wr => ∃ k p : Nat, k ≤ F.length ∧ ix = .int .i64 k ∧ (∀ j, j < k → 0 ≤ F.getD j 0 ∧ F.getD j 0 < g.n) ∧ wr = w1.drewN p) (fun ix _ => F.length - (intOf ix).toNat)
  case atStart => exact ⟨0, 0, Nat.zero_le _, rfl, fun j hj => absurd hj (Nat.not_lt_zero _), rfl⟩
  case round =>
    obtain ⟨k, p, hk, rfl, hal, rfl⟩ := hrel
    have HAL := hide hal
    have HBD := hide (below_drewN HB1.out p)
    have hbk := HA1.out.below (below_drewN (Below.refl _ _) p)
    have z0 := HA1.out.cell 0
    have y0 := hbk.cell 0
    have y1 := hbk.cell 1
    have y2 := hbk.cell 2
    have y3 := hbk.cell 3
    have y4 := hbk.cell 4
    simp only [List.getElem?_toArray, List.getElem?_cons_succ, List.getElem?_cons_zero] at z0 y0 y1 y2 y3 y4
    clear hal hbk
    by_cases hlt : k < F.length
    · have hlti : (k : Int) < (F.length : Int) := by omega
      obtain rfl := hau (by omega)
      have f2 := HCU.out _ HB1.out k hlt
      obtain ⟨x, hx⟩ : ∃ x, F.getD k 0 = x := ⟨_, rfl⟩
      rw [hx] at f2
      have HX := hide hx
      clear hx y0 y1 y2 y3 y4
      by_cases q2 : x < 0
      · have t2 : decide (x < 0) = true := decide_eq_true q2
        have HNO : Hid (¬ RcOk g F) := fun h => by have := (h.all k hlt).1; rw [HX.out] at this; omega
        go_wp2_with fail
        go_quiet (fail)
        go_wp2
        go_ret2
        rw [rcF_no HNO.out, rcC_no HNO.out]
        exact ⟨_, rfl, ⟨none, 0, 0, 0, rfl, (fun h => absurd h (by decide)), fun j hj => absurd hj (Nat.not_lt_zero _)⟩, below_drewN HBD.out _⟩
      have t2 : decide (x < 0) = false := decide_eq_false q2
      by_cases q3 : g.n ≤ x
      · have t3 : decide (g.n ≤ x) = true := decide_eq_true q3
        have HNO : Hid (¬ RcOk g F) := fun h => by have := (h.all k hlt).2; rw [HX.out] at this; omega
        go_wp2_with fail
        go_quiet (fail)
        go_wp2
        go_ret2
        rw [rcF_no HNO.out, rcC_no HNO.out]
        exact ⟨_, rfl, ⟨none, 0, 0, 0, rfl, (fun h => absurd h (by decide)), fun j hj => absurd hj (Nat.not_lt_zero _)⟩, below_drewN HBD.out _⟩
      have t3 : decide (g.n ≤ x) = false := decide_eq_false q3
      have HAL1 : Hid (∀ j, j < k + 1 → 0 ≤ F.getD j 0 ∧ F.getD j 0 < g.n) := fun j hj => by
        by_cases e : j = k
        · rw [e, HX.out]; omega
        · exact HAL.out j (by omega)
      go_wp2_with fail
      go_quiet (fail)
      go_wp2
      go_roundw
      case rel => exact ⟨k + 1, _, by omega, by go_num, HAL1.out, rfl⟩
      case measure => simp [intOf]; omega
    · have hge : ¬ (k : Int) < (F.length : Int) := by omega
      have HYES : Hid (RcOk g F) := ⟨HOK.out, HLE.out, fun j hj => HAL.out j (by omega)⟩
      obtain ⟨n, hn⟩ : ∃ n : Nat, g.n = n := ⟨g.n.toNat, by have := HOK.out.n0; omega⟩
      have HNN := hide hn
      have HCL : Hid (∀ W, Below w1.heap.size w1 W → W.cell? ⟨w.heap.size, 0, none⟩ = some (.int .i64 g.n) ∧ W.cell? ⟨w.heap.size, 1, none⟩ = some (.slice a1 g.start.length c1) ∧ W.cell? ⟨w.heap.size, 2, none⟩ = some (.slice a2 g.to.length c2) ∧ W.cell? ⟨w.heap.size, 3, none⟩ = some (.slice a3 g.dir.length c3) ∧ W.cell? ⟨w.heap.size, 4, none⟩ = some (.slice a4 g.cost.length c4)) := fun W hW => by
        have h2 := HA1.out.below hW
        exact ⟨h2.cell 0, h2.cell 1, h2.cell 2, h2.cell 3, h2.cell 4⟩
      have HL5 : Hid (∀ v1 w2, EdS w2 v1 (eds g) → IS w2 (.slice au F.length cu) F → Calls Try.prog 18 #[v1, .int .i64 g.n, .slice au F.length cu] w2 fun e w' => ∃ v, e = .returned v ∧ VS w' v (rchL n (eds g) F) ∧ Below w2.heap.size w2 w') := fun v1 w2 h1 h2 => by
        have hin := rc_in HYES.out
        rw [hn, Int.toNat_natCast] at hin
        rw [hn]
        exact l5reach_any n (eds g) F v1 _ w2 (by have := HOK.out.n1; omega) (by
          unfold eds
          rw [edsTo_length]
          have h3 := HOK.out.most
          have h4 := HOK.out.tos
          omega) (by omega) hin h1 h2
      clear z0 hn y0 y1 y2 y3 y4
      go_wp2_with fail
      refine wp_region_held_drew (S := fun w' => Hid (Below w1.heap.size w1 w')) (by kernel_rfl) (below_drewN (Below.refl _ _) p).drew (fun hHeld => ?_)
      refine wpAnyH_take (i := 0) (oi := { dst := some 37, op := Op.load 29 (Operand.tmp 2), type := 29, pos := "l5_graph.go:125", after := #[], guard := none }) (v := .agg #[.int .i64 g.n, .slice a1 g.start.length c1, .slice a2 g.to.length c2, .slice a3 g.dir.length c3, .slice a4 g.cost.length c4]) rfl (by kernel_rfl) (by kernel_rfl) (by kernel_rfl) (fun _ _ _ h => h) (Or.inl ⟨by rfl, ?_⟩) hHeld ?_
      · intro W hSW
        obtain ⟨q0, q1, q2, q3, q4⟩ := HCL.out W hSW.out
        clear hHeld hSW
        go_simp
      try simp only [Act.put, List.setIfInBounds_toArray, List.set_cons_zero, List.set_cons_succ]
      refine wpAnyH_take (i := 2) (oi := { dst := some 39, op := Op.fieldAddr 29 (Operand.tmp 2) 0, type := 0, pos := "l5_graph.go:125", after := #[], guard := none }) (v := .pointer (some ⟨w.heap.size, 0, none⟩)) rfl (by kernel_rfl) (by kernel_rfl) (by kernel_rfl) (fun _ _ _ h => h) (Or.inl ⟨by rfl, ?_⟩) hHeld ?_
      · intro W hSW
        clear hHeld hSW
        go_simp
      try simp only [Act.put, List.setIfInBounds_toArray, List.set_cons_zero, List.set_cons_succ]
      refine wpAnyH_take (i := 3) (oi := { dst := some 40, op := Op.load 3 (Operand.tmp 39), type := 3, pos := "l5_graph.go:125", after := #[{ on := 2, ground := Ground.data }], guard := none }) (v := .int .i64 g.n) rfl (by kernel_rfl) (by kernel_rfl) (by kernel_rfl) (fun _ _ _ h => h) (Or.inl ⟨by rfl, ?_⟩) hHeld ?_
      · intro W hSW
        obtain ⟨q0, q1, q2, q3, q4⟩ := HCL.out W hSW.out
        clear hHeld hSW
        go_simp
      try simp only [Act.put, List.setIfInBounds_toArray, List.set_cons_zero, List.set_cons_succ]
      refine wpAnyH_take (i := 4) (oi := { dst := some 41, op := Op.move (Operand.tmp 1), type := 22, pos := "l5_graph.go:125", after := #[], guard := none }) (v := .slice au F.length cu) rfl (by kernel_rfl) (by kernel_rfl) (by kernel_rfl) (fun _ _ _ h => h) (Or.inl ⟨by rfl, ?_⟩) hHeld ?_
      · intro W hSW
        clear hHeld hSW
        go_simp
      try simp only [Act.put, List.setIfInBounds_toArray, List.set_cons_zero, List.set_cons_succ]
      refine wpAnyH_ready (rs := [1]) (by kernel_rfl) (by simp) ?_
      refine AllReadyH.cons (o := { dst := some 38, op := Op.call { callee := Callee.value (Operand.func 19), args := #[Operand.tmp 37], argTypes := #[29] }, type := 41, pos := "l5_graph.go:125", after := #[{ on := 0, ground := Ground.data }], guard := none }) rfl (fun K hK => ?_) AllReadyH.nil
      go_simp
      go_at_call 19
      refine (HED.out _ (HB1.out.trans (hHeld.out.mono HB1.out.size)) HOK.out).mono ?_
      rintro e w5 ⟨ve, rfl, hed, hb5⟩
      obtain ⟨ae, ce, rfl⟩ := hed.slice
      have HE5 := hide hed
      have HB5 : Hid (Below w1.heap.size w1 w5) := hHeld.out.trans (hb5.mono hHeld.out.size)
      clear hed hb5
      go_wp2_with fail
      refine hK.out _ _ ?_ (fun hHeld => ?_)
      · exact HB5.out
      clear hK K
      try simp only [Act.put, List.setIfInBounds_toArray, List.set_cons_zero, List.set_cons_succ]
      refine wpAnyH_ready (rs := [5]) (by kernel_rfl) (by simp) ?_
      refine AllReadyH.cons (o := { dst := some 42, op := Op.call { callee := Callee.value (Operand.func 18), args := #[Operand.tmp 38, Operand.tmp 40, Operand.tmp 41], argTypes := #[41, 3, 22] }, type := 26, pos := "l5_graph.go:125", after := #[{ on := 1, ground := Ground.data }, { on := 3, ground := Ground.data }, { on := 4, ground := Ground.data }, { on := 1, ground := Ground.chain }], guard := none }) rfl (fun K hK => ?_) AllReadyH.nil
      go_simp
      go_at_call 18
      refine (HL5.out _ _ HE5.out (HU.out _ (HB1.out.trans (HB5.out.mono HB1.out.size)))).mono ?_
      rintro e w6 ⟨vr, rfl, hvr, hb6⟩
      obtain ⟨ar, cr, rfl⟩ := hvr.slice
      have HV6 := hide hvr
      have HB6 : Hid (Below w1.heap.size w1 w6) := HB5.out.trans (hb6.mono HB5.out.size)
      clear hvr hb6
      go_wp2_with fail
      refine hK.out _ _ ?_ (fun hHeld => ?_)
      · exact HB6.out
      clear hK K
      try simp only [Act.put, List.setIfInBounds_toArray, List.set_cons_zero, List.set_cons_succ]
      refine wpAnyH_take (i := 6) (oi := { dst := some 4, op := Op.assign (Operand.tmp 42), type := 26, pos := "l5_graph.go:125", after := #[{ on := 5, ground := Ground.data }, { on := 5, ground := Ground.chain }, { on := 0, ground := Ground.phase }, { on := 1, ground := Ground.phase }, { on := 2, ground := Ground.phase }, { on := 3, ground := Ground.phase }, { on := 4, ground := Ground.phase }, { on := 5, ground := Ground.phase }], guard := none }) (v := .slice ar (rchL n (eds g) F).length cr) rfl (by kernel_rfl) (by kernel_rfl) (by kernel_rfl) (fun _ _ _ h => h) (Or.inl ⟨by rfl, ?_⟩) hHeld ?_
      · intro W hSW
        clear hHeld hSW
        go_simp
      try simp only [Act.put, List.setIfInBounds_toArray, List.set_cons_zero, List.set_cons_succ]
      refine wpAnyH_take (i := 7) (oi := { dst := some 5, op := Op.assign (Operand.const (Value.int IntKind.i64 0)), type := 3, pos := "l5_graph.go:125", after := #[{ on := 6, ground := Ground.chain }, { on := 0, ground := Ground.phase }, { on := 1, ground := Ground.phase }, { on := 2, ground := Ground.phase }, { on := 3, ground := Ground.phase }, { on := 4, ground := Ground.phase }, { on := 5, ground := Ground.phase }, { on := 6, ground := Ground.phase }], guard := none }) (v := .int .i64 0) rfl (by kernel_rfl) (by kernel_rfl) (by kernel_rfl) (fun _ _ _ h => h) (Or.inl ⟨by rfl, ?_⟩) hHeld ?_
      · intro W hSW
        clear hHeld hSW
        go_simp
      try simp only [Act.put, List.setIfInBounds_toArray, List.set_cons_zero, List.set_cons_succ]
      refine wpAnyH_done (by kernel_rfl) ?_ _
      go_wp2
      go_ret2
      rw [rcF_yes HYES.out, rcC_yes HYES.out, HNN.out, Int.toNat_natCast]
      exact ⟨_, rfl, HV6.out, HB1.out.trans (HB6.out.mono HB1.out.size)⟩
end Go.Proofs.Ytonhehndoifipab

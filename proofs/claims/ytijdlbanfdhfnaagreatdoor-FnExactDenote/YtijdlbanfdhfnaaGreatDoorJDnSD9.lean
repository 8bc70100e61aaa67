/-
  The walk of l4apply at targets, and at whatever kind.
-/
import Derived.Test.YtijdlbanfdhfnaaGreatDoorJDnSD8
import Derived.Deep.RegionWith
namespace Go.Proofs.YtijdlbanfdhfnaaGreatDoor
open Go.RowKit

open Classical in
/-- What l4target answers. -/
noncomputable def tgC (f : Flo) (d : Dc) : Int := if d.name.size = 0 ∨ tkn2 f.tgs (tgOf f d) then 8 else if 30 ≤ f.tgs.length then 7 else 0
theorem l4target_any (F bw bc bd cw cc cd : Nat) (G : Nat → Nat) (f : Flo) (vt vf : Value) (ns : List (Tg × Value)) (d : Dc) (v7 : Value) (i : Nat) (w : World) (hf : FloOk f) (h7 : BS w v7 d.name) (hnb : d.name.size ≤ 100000) (hm : FlM w F bw bc bd cw cc cd G f vt vf ns) (hnk : d.kind = 14 ∨ d.kind = 15) :
    Calls Tryz.prog 43 #[.pointer (some ⟨F, 0, none⟩), dcagg d v7, .int .i64 (tgOf f d).cell, .int .i64 (i : Nat)] w fun e w' => e = .returned (.int .i64 (tgC f d)) ∧ (tgC f d = 0 → ∃ vt' vf' ns', FlM w' F bw bc bd cw cc cd G { f with tgs := f.tgs ++ [tgOf f d], frs := f.frs ++ [i] } vt' vf' ns') ∧ Below F w w' := by
  have hlt := hm.blk.lt
  by_cases q0 : d.name.size = 0
  · have hE : tgC f d = 8 := by unfold tgC; rw [if_pos (.inl q0)]
    rw [hE]
    refine (l4target_0 F d v7 (tgOf f d).cell i w h7 q0).mono ?_
    rintro e w' ⟨rfl, hb⟩
    exact ⟨rfl, fun h => absurd h (by decide), hb.mono (by omega)⟩
  by_cases q1 : tkn2 f.tgs (tgOf f d)
  · have hE : tgC f d = 8 := by unfold tgC; rw [if_pos (.inr q1)]
    rw [hE]
    refine (l4target_8 F bw bc bd cw cc cd G f vt vf ns d v7 i w hf h7 hm q0 q1).mono ?_
    rintro e w' ⟨rfl, hb⟩
    exact ⟨rfl, fun h => absurd h (by decide), hb.mono (by omega)⟩
  by_cases q2 : 30 ≤ f.tgs.length
  · have hE : tgC f d = 7 := by unfold tgC; rw [if_neg (by rintro (h | h); exact q0 h; exact q1 h), if_pos q2]
    rw [hE]
    refine (l4target_7 F bw bc bd cw cc cd G f vt vf ns d v7 i w hf h7 hm q0 q1 q2).mono ?_
    rintro e w' ⟨rfl, hb⟩
    exact ⟨rfl, fun h => absurd h (by decide), hb.mono (by omega)⟩
  · have hE : tgC f d = 0 := by unfold tgC; rw [if_neg (by rintro (h | h); exact q0 h; exact q1 h), if_neg q2]
    rw [hE]
    refine (l4target_ok F bw bc bd cw cc cd G f vt vf ns d v7 i w hf h7 hm q0 hnb q1 hnk (by omega) (by have := hf.fl; have := hf.tl; omega)).mono ?_
    rintro e w' ⟨rfl, h1, h2⟩
    exact ⟨rfl, fun _ => h1, h2⟩

set_option maxHeartbeats 4000000 in
set_option maxRecDepth 1000000 in
theorem l4apply_14 (F bw bc bd cw cc cd : Nat) (G : Nat → Nat) (f : Flo) (vt vf : Value) (ns : List (Tg × Value)) (d : Dc) (v7 : Value) (i : Nat) (w : World) (hk : d.kind = 14) (hf : FloOk f) (h7 : BS w v7 d.name) (hnb : d.name.size ≤ 100000) (hm : FlM w F bw bc bd cw cc cd G f vt vf ns) :
    Calls Tryz.prog 15 #[.pointer (some ⟨F, 0, none⟩), dcagg d v7, .int .i64 (i : Nat)] w fun e w' => e = .returned (.int .i64 (apC f d)) ∧ (apC f d = 0 → ∃ vt' vf' ns', FlM w' F bw bc bd cw cc cd G (apF f d i) vt' vf' ns') ∧ Below F w w' := by
  have f0 := hm.blk.cell 0
  have f1 := hm.blk.cell 1
  simp only [List.getElem?_toArray, List.getElem?_cons_succ, List.getElem?_cons_zero] at f0 f1
  have HFL : Hid (F < w.heap.size) := hm.blk.lt
  obtain ⟨a7, c7, hv7⟩ := h7.slice
  subst hv7
  have HCE := hide (fun w2 (h2 : Below w.heap.size w w2) => l4cells_any F f.w f.h d (.slice a7 d.name.size c7) w2 hf.w1 hf.h1 ⟨_, _, _, rfl⟩ (cell_kept f0 h2) (cell_kept f1 h2))
  have HTG := hide (fun w2 (h2 : Below w.heap.size w w2) => l4target_any F bw bc bd cw cc cd G f vt vf ns d (.slice a7 d.name.size c7) i w2 hf (h7.below h2) hnb (hm.below h2) (.inl hk))
  have HA8 : Hid (¬ inF f.w f.h d → apC f d = 8) := fun h => by
    unfold apC
    rw [if_neg (by omega), if_pos (.inl h)]
  have HA0 : Hid (inF f.w f.h d → apC f d = tgC f d) := fun h1 => by
    unfold apC tgC
    rw [if_neg (by omega), if_neg (fun q => q.elim (fun g => g h1) fun g => by omega), if_pos (by rw [hk]; decide)]
  have HF0 : Hid (apF f d i = { f with tgs := f.tgs ++ [tgOf f d], frs := f.frs ++ [i] }) := by show _ = _; unfold apF; rw [if_pos (by rw [hk]; decide)]
  have hcl : loI d.y1 d.y2 * f.w + loI d.x1 d.x2 = (tgOf f d).cell := rfl
  unfold dcagg at HCE HTG ⊢
  rw [hk] at HCE HTG ⊢
  clear hk hf hm f0 f1 h7
  obtain ⟨W1, hW1⟩ : ∃ W, w.alloc ( .cells #[.int .i64 14, .int .i64 d.x1, .int .i64 d.y1, .int .i64 d.x2, .int .i64 d.y2, .int .i64 d.dir, .int .i64 d.cost, .slice a7 d.name.size c7, .int .i64 d.node] 42) = W := ⟨_, rfl⟩
  have hB1 : Below w.heap.size w W1 := by rw [← hW1]; exact (Below.refl _ _).alloc (Nat.le_refl _) _
  have HB1 := hide hB1
  have HBK : Hid (Blk W1 w.heap.size 42 #[.int .i64 14, .int .i64 d.x1, .int .i64 d.y1, .int .i64 d.x2, .int .i64 d.y2, .int .i64 d.dir, .int .i64 d.cost, .slice a7 d.name.size c7, .int .i64 d.node]) := by rw [← hW1]; exact Blk.new _ _ _
  have HZ : Hid (∀ j v, (#[.int .i64 14, .int .i64 d.x1, .int .i64 d.y1, .int .i64 d.x2, .int .i64 d.y2, .int .i64 d.dir, .int .i64 d.cost, .slice a7 d.name.size c7, .int .i64 d.node] : Array Value)[j]? = some v → W1.cell? ⟨w.heap.size, j, none⟩ = some v) := fun j v hv => by rw [HBK.out.cell j, hv]
  have z0 := HZ.out 0 _ rfl
  have z1 := HZ.out 1 _ rfl
  have z2 := HZ.out 2 _ rfl
  have z3 := HZ.out 3 _ rfl
  have z4 := HZ.out 4 _ rfl
  have z5 := HZ.out 5 _ rfl
  have z6 := HZ.out 6 _ rfl
  have z7 := HZ.out 7 _ rfl
  have z8 := HZ.out 8 _ rfl
  have HW := hide hW1
  clear hW1 hB1
  go_enter Tryz.func15, Tryz.ntmps15
  go_wp2_with fail
  rw [HW.out]
  refine (HCE.out _ HB1.out).mono ?_
  rintro e w2 ⟨vc, b, rfl, hbi, hcs, hb2⟩
  have HBI := hide hbi
  have HIS := hide hcs
  have HB2 : Hid (Below w.heap.size w w2) := HB1.out.trans (hb2.mono HB1.out.size)
  have HBK2 := hide (HBK.out.below hb2)
  have HBF2 : Hid (Below F w w2) := HB2.out.mono (by have := HFL.out; omega)
  clear z0 z1 z2 z3 z4 z5 z6 z7 z8 hbi hcs hb2 HZ HW HBK HCE
  have HZ : Hid (∀ j v, (#[.int .i64 14, .int .i64 d.x1, .int .i64 d.y1, .int .i64 d.x2, .int .i64 d.y2, .int .i64 d.dir, .int .i64 d.cost, .slice a7 d.name.size c7, .int .i64 d.node] : Array Value)[j]? = some v → w2.cell? ⟨w.heap.size, j, none⟩ = some v) := fun j v hv => by rw [HBK2.out.cell j, hv]
  have z0 := HZ.out 0 _ rfl
  have z1 := HZ.out 1 _ rfl
  have z2 := HZ.out 2 _ rfl
  have z3 := HZ.out 3 _ rfl
  have z4 := HZ.out 4 _ rfl
  have z5 := HZ.out 5 _ rfl
  have z6 := HZ.out 6 _ rfl
  have z7 := HZ.out 7 _ rfl
  have z8 := HZ.out 8 _ rfl
  cases b with
  | false =>
    have HE : Hid (apC f d = 8) := HA8.out (fun h => by have := HBI.out.2 h; cases this)
    go_wp2
    go_ret
    rw [HE.out]
    exact ⟨rfl, fun h => absurd h (by decide), HBF2.out⟩
  | true =>
    have HIN := hide (HBI.out.1 rfl)
    have hpos := arL_pos (w := f.w) (d := d)
    obtain ⟨gc, cp, rfl, hgc, hrw⟩ := ow_rw (HIS.out HIN.out) hpos
    have q9 := hrw.cell hpos
    rw [arL_head, hcl] at q9
    have HA1 := hide (HA0.out HIN.out)
    obtain ⟨nL, hnL⟩ : ∃ n, (arL f.w d).length = n := ⟨_, rfl⟩
    rw [hnL] at hpos ⊢
    obtain ⟨tcl, htcl⟩ : ∃ c, (tgOf f d).cell = c := ⟨_, rfl⟩
    rw [htcl] at HTG q9
    clear hrw hgc HIS HBI HA8 HA0 hnL hcl htcl hnb
    go_wp2_with fail
    go_region_with (go_at_call 43; refine (HTG.out _ (HB2.out.trans ((Below.refl _ _).drew.mono HB2.out.size))).mono ?_; rintro e w3 ⟨rfl, h1, h2⟩; have HP1 := hide h1; have HP2 := hide h2; clear h1 h2)
    all_goals
      go_wp2
      go_ret
      rw [HA1.out, HF0.out]
      exact ⟨rfl, HP1.out, HBF2.out.drew.trans HP2.out⟩
set_option maxHeartbeats 4000000 in
set_option maxRecDepth 1000000 in
theorem l4apply_15 (F bw bc bd cw cc cd : Nat) (G : Nat → Nat) (f : Flo) (vt vf : Value) (ns : List (Tg × Value)) (d : Dc) (v7 : Value) (i : Nat) (w : World) (hk : d.kind = 15) (hf : FloOk f) (h7 : BS w v7 d.name) (hnb : d.name.size ≤ 100000) (hm : FlM w F bw bc bd cw cc cd G f vt vf ns) :
    Calls Tryz.prog 15 #[.pointer (some ⟨F, 0, none⟩), dcagg d v7, .int .i64 (i : Nat)] w fun e w' => e = .returned (.int .i64 (apC f d)) ∧ (apC f d = 0 → ∃ vt' vf' ns', FlM w' F bw bc bd cw cc cd G (apF f d i) vt' vf' ns') ∧ Below F w w' := by
  have f0 := hm.blk.cell 0
  have f1 := hm.blk.cell 1
  simp only [List.getElem?_toArray, List.getElem?_cons_succ, List.getElem?_cons_zero] at f0 f1
  have HFL : Hid (F < w.heap.size) := hm.blk.lt
  obtain ⟨a7, c7, hv7⟩ := h7.slice
  subst hv7
  have HCE := hide (fun w2 (h2 : Below w.heap.size w w2) => l4cells_any F f.w f.h d (.slice a7 d.name.size c7) w2 hf.w1 hf.h1 ⟨_, _, _, rfl⟩ (cell_kept f0 h2) (cell_kept f1 h2))
  have HTG := hide (fun w2 (h2 : Below w.heap.size w w2) => l4target_any F bw bc bd cw cc cd G f vt vf ns d (.slice a7 d.name.size c7) i w2 hf (h7.below h2) hnb (hm.below h2) (.inr hk))
  have HA8 : Hid (¬ inF f.w f.h d → apC f d = 8) := fun h => by
    unfold apC
    rw [if_neg (by omega), if_pos (.inl h)]
  have HA0 : Hid (inF f.w f.h d → apC f d = tgC f d) := fun h1 => by
    unfold apC tgC
    rw [if_neg (by omega), if_neg (fun q => q.elim (fun g => g h1) fun g => by omega), if_pos (by rw [hk]; decide)]
  have HF0 : Hid (apF f d i = { f with tgs := f.tgs ++ [tgOf f d], frs := f.frs ++ [i] }) := by show _ = _; unfold apF; rw [if_pos (by rw [hk]; decide)]
  have hcl : loI d.y1 d.y2 * f.w + loI d.x1 d.x2 = (tgOf f d).cell := rfl
  unfold dcagg at HCE HTG ⊢
  rw [hk] at HCE HTG ⊢
  clear hk hf hm f0 f1 h7
  obtain ⟨W1, hW1⟩ : ∃ W, w.alloc ( .cells #[.int .i64 15, .int .i64 d.x1, .int .i64 d.y1, .int .i64 d.x2, .int .i64 d.y2, .int .i64 d.dir, .int .i64 d.cost, .slice a7 d.name.size c7, .int .i64 d.node] 42) = W := ⟨_, rfl⟩
  have hB1 : Below w.heap.size w W1 := by rw [← hW1]; exact (Below.refl _ _).alloc (Nat.le_refl _) _
  have HB1 := hide hB1
  have HBK : Hid (Blk W1 w.heap.size 42 #[.int .i64 15, .int .i64 d.x1, .int .i64 d.y1, .int .i64 d.x2, .int .i64 d.y2, .int .i64 d.dir, .int .i64 d.cost, .slice a7 d.name.size c7, .int .i64 d.node]) := by rw [← hW1]; exact Blk.new _ _ _
  have HZ : Hid (∀ j v, (#[.int .i64 15, .int .i64 d.x1, .int .i64 d.y1, .int .i64 d.x2, .int .i64 d.y2, .int .i64 d.dir, .int .i64 d.cost, .slice a7 d.name.size c7, .int .i64 d.node] : Array Value)[j]? = some v → W1.cell? ⟨w.heap.size, j, none⟩ = some v) := fun j v hv => by rw [HBK.out.cell j, hv]
  have z0 := HZ.out 0 _ rfl
  have z1 := HZ.out 1 _ rfl
  have z2 := HZ.out 2 _ rfl
  have z3 := HZ.out 3 _ rfl
  have z4 := HZ.out 4 _ rfl
  have z5 := HZ.out 5 _ rfl
  have z6 := HZ.out 6 _ rfl
  have z7 := HZ.out 7 _ rfl
  have z8 := HZ.out 8 _ rfl
  have HW := hide hW1
  clear hW1 hB1
  go_enter Tryz.func15, Tryz.ntmps15
  go_wp2_with fail
  rw [HW.out]
  refine (HCE.out _ HB1.out).mono ?_
  rintro e w2 ⟨vc, b, rfl, hbi, hcs, hb2⟩
  have HBI := hide hbi
  have HIS := hide hcs
  have HB2 : Hid (Below w.heap.size w w2) := HB1.out.trans (hb2.mono HB1.out.size)
  have HBK2 := hide (HBK.out.below hb2)
  have HBF2 : Hid (Below F w w2) := HB2.out.mono (by have := HFL.out; omega)
  clear z0 z1 z2 z3 z4 z5 z6 z7 z8 hbi hcs hb2 HZ HW HBK HCE
  have HZ : Hid (∀ j v, (#[.int .i64 15, .int .i64 d.x1, .int .i64 d.y1, .int .i64 d.x2, .int .i64 d.y2, .int .i64 d.dir, .int .i64 d.cost, .slice a7 d.name.size c7, .int .i64 d.node] : Array Value)[j]? = some v → w2.cell? ⟨w.heap.size, j, none⟩ = some v) := fun j v hv => by rw [HBK2.out.cell j, hv]
  have z0 := HZ.out 0 _ rfl
  have z1 := HZ.out 1 _ rfl
  have z2 := HZ.out 2 _ rfl
  have z3 := HZ.out 3 _ rfl
  have z4 := HZ.out 4 _ rfl
  have z5 := HZ.out 5 _ rfl
  have z6 := HZ.out 6 _ rfl
  have z7 := HZ.out 7 _ rfl
  have z8 := HZ.out 8 _ rfl
  cases b with
  | false =>
    have HE : Hid (apC f d = 8) := HA8.out (fun h => by have := HBI.out.2 h; cases this)
    go_wp2
    go_ret
    rw [HE.out]
    exact ⟨rfl, fun h => absurd h (by decide), HBF2.out⟩
  | true =>
    have HIN := hide (HBI.out.1 rfl)
    have hpos := arL_pos (w := f.w) (d := d)
    obtain ⟨gc, cp, rfl, hgc, hrw⟩ := ow_rw (HIS.out HIN.out) hpos
    have q9 := hrw.cell hpos
    rw [arL_head, hcl] at q9
    have HA1 := hide (HA0.out HIN.out)
    obtain ⟨nL, hnL⟩ : ∃ n, (arL f.w d).length = n := ⟨_, rfl⟩
    rw [hnL] at hpos ⊢
    obtain ⟨tcl, htcl⟩ : ∃ c, (tgOf f d).cell = c := ⟨_, rfl⟩
    rw [htcl] at HTG q9
    clear hrw hgc HIS HBI HA8 HA0 hnL hcl htcl hnb
    go_wp2_with fail
    go_region_with (go_at_call 43; refine (HTG.out _ (HB2.out.trans ((Below.refl _ _).drew.mono HB2.out.size))).mono ?_; rintro e w3 ⟨rfl, h1, h2⟩; have HP1 := hide h1; have HP2 := hide h2; clear h1 h2)
    all_goals
      go_wp2
      go_ret
      rw [HA1.out, HF0.out]
      exact ⟨rfl, HP1.out, HBF2.out.drew.trans HP2.out⟩
theorem l4apply_any (F bw bc bd cw cc cd : Nat) (G : Nat → Nat) (f : Flo) (vt vf : Value) (ns : List (Tg × Value)) (d : Dc) (v7 : Value) (i : Nat) (w : World) (hd : DcOk d) (hf : FloOk f) (h7 : BS w v7 d.name) (hm : FlM w F bw bc bd cw cc cd G f vt vf ns) :
    Calls Tryz.prog 15 #[.pointer (some ⟨F, 0, none⟩), dcagg d v7, .int .i64 (i : Nat)] w fun e w' => e = .returned (.int .i64 (apC f d)) ∧ (apC f d = 0 → ∃ vt' vf' ns', FlM w' F bw bc bd cw cc cd G (apF f d i) vt' vf' ns') ∧ Below F w w' := by
  have hlt := hm.blk.lt
  have h7' : ∃ a n c, v7 = .slice a n c := by obtain ⟨a, c, h⟩ := h7.slice; exact ⟨a, _, c, h⟩
  have key : ∀ {k : Int}, d.kind = k → nmK k = false → ∀ {e : Ending} {w' : World}, (e = .returned (.int .i64 (apC f d)) ∧ (apC f d = 0 → FlM w' F bw bc bd cw cc cd G (layN d f (arL f.w d)) vt vf ns) ∧ Below F w w') → e = .returned (.int .i64 (apC f d)) ∧ (apC f d = 0 → ∃ vt' vf' ns', FlM w' F bw bc bd cw cc cd G (apF f d i) vt' vf' ns') ∧ Below F w w' := by
    intro k hk hn e w' ⟨h1, h2, h3⟩
    refine ⟨h1, fun h => ⟨vt, vf, ns, ?_⟩, h3⟩
    unfold apF
    rw [if_neg (by rw [hk, hn]; decide)]
    exact h2 h
  have k0 := hd.k0
  have k1 := hd.k1
  by_cases q7 : d.kind = 7
  · refine (l4apply_7 F f d v7 i w q7 h7').mono ?_
    rintro e w' ⟨h1, h2⟩
    refine ⟨h1, fun h => ?_, h2.mono (by omega)⟩
    unfold apC at h
    rw [if_pos q7] at h
    omega
  by_cases q8 : d.kind = 8
  · exact (l4apply_8 F bw bc bd cw cc cd G f vt vf ns d v7 i w q8 hf h7' hm).mono fun e w' h => key q8 rfl h
  by_cases q9 : d.kind = 9
  · exact (l4apply_9 F bw bc bd cw cc cd G f vt vf ns d v7 i w q9 hf h7' hm).mono fun e w' h => key q9 rfl h
  by_cases q10 : d.kind = 10
  · exact (l4apply_10 F bw bc bd cw cc cd G f vt vf ns d v7 i w q10 hf h7' hm).mono fun e w' h => key q10 rfl h
  by_cases q11 : d.kind = 11
  · exact (l4apply_11 F bw bc bd cw cc cd G f vt vf ns d v7 i w q11 hf h7' hm).mono fun e w' h => key q11 rfl h
  by_cases q12 : d.kind = 12
  · exact (l4apply_12 F bw bc bd cw cc cd G f vt vf ns d v7 i w q12 hf h7' hm).mono fun e w' h => key q12 rfl h
  by_cases q13 : d.kind = 13
  · exact (l4apply_13 F bw bc bd cw cc cd G f vt vf ns d v7 i w q13 hf h7' hm).mono fun e w' h => key q13 rfl h
  by_cases q14 : d.kind = 14
  · exact l4apply_14 F bw bc bd cw cc cd G f vt vf ns d v7 i w q14 hf h7 (by have := hd.n0 (by rw [q14]; rfl); omega) hm
  · have q15 : d.kind = 15 := by omega
    exact l4apply_15 F bw bc bd cw cc cd G f vt vf ns d v7 i w q15 hf h7 (by have := hd.n0 (by rw [q15]; rfl); omega) hm
end Go.Proofs.YtijdlbanfdhfnaaGreatDoor

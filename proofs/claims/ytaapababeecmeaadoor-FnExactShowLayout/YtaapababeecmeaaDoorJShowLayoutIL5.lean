/-
  The walk of impl.ValidLayout.
-/
import Derived.Test.YtaapababeecmeaaDoorJShowLayoutIL4
import Derived.Test.YtaapababeecmeaaDoorJShowLayoutIL4
import Derived.Test.YtaapababeecmeaaDoorJShowLayoutPX
namespace Go.Proofs.YtaapababeecmeaaDoor
open Go.RowKit

/-- A cell's exits may stand. -/
theorem exits_ok (d : Ly) (c : Nat) (he : W64 (d.exits.getD c 0)) (h0 : 0 ≤ d.cost.getD c 0) (h9 : d.cost.getD c 0 ≤ 9) :
    (bits .andNot .i64 (d.exits.getD c 0) (pex d c) != 0) = false ↔ ClOk d c := by
  obtain ⟨e, hE⟩ : ∃ e, d.exits.getD c 0 = e := ⟨_, rfl⟩
  rw [hE] at he ⊢
  have hpx : pex d c = if d.cost.getD c 0 = 0 then pv false false false false else pv (okw d c 0) (okw d c 1) (okw d c 2) (okw d c 3) := by
    unfold pex
    rw [accw_pv]
    rfl
  have hpl : 0 ≤ pex d c ∧ pex d c ≤ 15 := by
    rw [hpx]
    split <;> exact pv_le _ _ _ _
  by_cases h : 0 ≤ e ∧ e ≤ 15
  · obtain ⟨n, rfl⟩ : ∃ n : Nat, e = n := ⟨e.toNat, by omega⟩
    have hn : n < 16 := by omega
    by_cases hw : d.cost.getD c 0 = 0
    · rw [hpx, if_pos hw, andNot_small n hn]
      have hz : ((!bitAt n 0 || false) && (!bitAt n 1 || false) && (!bitAt n 2 || false) && (!bitAt n 3 || false)) = decide (n = 0) := by
        have : ∀ n : Fin 16, ((!bitAt n.1 0 || false) && (!bitAt n.1 1 || false) && (!bitAt n.1 2 || false) && (!bitAt n.1 3 || false)) = decide (n.1 = 0) := by decide +kernel
        exact this ⟨n, hn⟩
      rw [hz]
      constructor
      · intro hh
        have hn0 : n = 0 := by simpa using hh
        subst hn0
        refine ⟨h0, h9, by rw [hE]; omega, by rw [hE]; omega, fun _ => hE, fun k hk hb => ?_⟩
        rw [hE] at hb
        have : ∀ k : Fin 4, bitAt ((0 : Nat) : Int) k.1 = false := by decide +kernel
        rw [this ⟨k, hk⟩] at hb
        cases hb
      · intro hh
        have := hh.wall hw
        rw [hE] at this
        have hn0 : n = 0 := by omega
        subst hn0
        rfl
    · rw [hpx, if_neg hw, andNot_small n hn]
      have hk : ∀ k, okw d c k = true ↔ (0 ≤ toC d.w d.h c k ∧ d.cost.getD (toC d.w d.h c k).toNat 0 ≠ 0) := fun k => by
        unfold okw
        rw [Bool.and_eq_true, decide_eq_true_iff, bne_iff_ne]
      constructor
      · intro hh
        rw [Bool.not_eq_false', Bool.and_eq_true, Bool.and_eq_true, Bool.and_eq_true] at hh
        obtain ⟨⟨⟨g0, g1⟩, g2⟩, g3⟩ := hh
        refine ⟨h0, h9, by rw [hE]; omega, by rw [hE]; omega, fun e => absurd e hw, fun k hk4 hb => (hk k).1 ?_⟩
        rw [hE] at hb
        have hk4' : k = 0 ∨ k = 1 ∨ k = 2 ∨ k = 3 := by omega
        rcases hk4' with rfl | rfl | rfl | rfl
        · simpa [hb] using g0
        · simpa [hb] using g1
        · simpa [hb] using g2
        · simpa [hb] using g3
      · intro hh
        have hw4 : ∀ k, k < 4 → (!bitAt n k || okw d c k) = true := fun k hk4 => by
          cases hb : bitAt (n : Int) k with
          | false => rfl
          | true => exact (hk k).2 (hh.way k hk4 (by rw [hE]; exact hb))
        rw [hw4 0 (by omega), hw4 1 (by omega), hw4 2 (by omega), hw4 3 (by omega)]
        rfl
  · rw [andNot_big e he _ hpl.1 hpl.2 h]
    refine ⟨fun hh => (by cases hh), fun hh => absurd ?_ h⟩
    have h1 := hh.e0
    have h2 := hh.e1
    rw [hE] at h1 h2
    exact ⟨h1, h2⟩

set_option maxHeartbeats 4000000 in
set_option maxRecDepth 1000000 in
theorem implLayout_any (d : Ly) (v2 v3 v4 : Value) (w : World) (hb : LyB d) (hd : LyL d) (hmv : MvOk w) (hT : Lib.Utf8Tabs 4 5 w) (h : LyV w d v2 v3 v4) :
    Calls Tryd.prog 9 #[lyagg d v2 v3 v4] w fun e w' => Ans (LyOk d) e ∧ Below w.heap.size w w' := by
  have hs2 := hb.cost
  have hs3 := hb.exits
  have HCV := hide h.cost
  have HTV := hide h.targets
  obtain ⟨a2, b2, o2, c2, rfl, ha2, hc2⟩ := h.cost
  obtain ⟨a3, b3, o3, c3, rfl, ha3, hc3⟩ := h.exits
  obtain ⟨a4, b4, o4, c4, rfl, ha4, hc4⟩ := h.targets
  have HC2 : Hid (∀ w2, Below w.heap.size w w2 → ∀ j, j < d.cost.length → w2.cell? ⟨b2, o2 + j, none⟩ = some (.int .i64 (d.cost.getD j 0))) := fun w2 hb2 j hj => cell_kept (hc2 j hj) hb2
  have HC3 : Hid (∀ w2, Below w.heap.size w w2 → ∀ j, j < d.exits.length → w2.cell? ⟨b3, o3 + j, none⟩ = some (.int .i64 (d.exits.getD j 0))) := fun w2 hb2 j hj => cell_kept (hc3 j hj) hb2
  have hl4 := hb.targets.len
  have HVT := hide (fun cells w2 (hb2 : Below w.heap.size w w2) => validTargets_any _ d.targets cells w2 (Utf8Tabs_below hT hb2) hb.targets (fun i hi => (hd.targets.each i hi).cell) (h.targets.below hb2))
  have HEW := hide hd.exits.wf
  have HPE := hide (fun (c : Nat) w2 (hb2 : Below w.heap.size w w2) h1 h2 h3 h4 h5 => possible_any d _ (.slice a3 d.exits.length c3) (.slice a4 d.targets.length c4) c w2 (hmv.below hb2) (h.cost.below hb2) h1 h2 h3 h4 h5)
  have HEO := hide (fun c hc h0 h9 => exits_ok d c (hd.exits.wf c hc) h0 h9)
  have HAW := hide (fun w2 B hB (hb2 : Below w.heap.size w w2) hl hcs => anyWall_any d _ (.slice a3 d.exits.length c3) (.slice a4 d.targets.length c4) (.slice a4 d.targets.length c4) d.targets B w2 hB (h.cost.below hb2) hl hcs (h.targets.below hb2))
  unfold lyagg at HPE ⊢
  clear hc2 hc3 hc4 h hb hd hmv hT
  obtain ⟨X, Y, C, E, T⟩ := d
  simp only at hs2 hs3 HCV HTV ha2 ha3 ha4 HC2 HC3 hl4 HVT HEW HPE HEO HAW ⊢
  obtain ⟨W0, hW0⟩ : ∃ W, w.alloc (.cells #[.int .i64 X, .int .i64 Y, .slice a2 C.length c2, .slice a3 E.length c3, .slice a4 T.length c4] 30) = W := ⟨_, rfl⟩
  have hB0 : Below w.heap.size w W0 := by rw [← hW0]; exact (Below.refl _ _).alloc (Nat.le_refl _) _
  have hA0 : Blk W0 w.heap.size 30 #[.int .i64 X, .int .i64 Y, .slice a2 C.length c2, .slice a3 E.length c3, .slice a4 T.length c4] := by rw [← hW0]; exact Blk.new _ _ _
  have z0 := hA0.cell 0
  have z1 := hA0.cell 1
  have z2 := hA0.cell 2
  have z3 := hA0.cell 3
  have z4 := hA0.cell 4
  simp only [List.getElem?_toArray, List.getElem?_cons_succ, List.getElem?_cons_zero] at z0 z1 z2 z3 z4
  have HB := hide hB0
  have HA := hide hA0
  clear hB0 hA0
  obtain ⟨s1, hs1⟩ : ∃ s, sdB X = s := ⟨_, rfl⟩
  cases s1 with
  | false =>
    have HR : Hid (¬ LyOk ⟨X, Y, C, E, T⟩) := fun h => sdB_f hs1 ⟨h.w0, h.w1⟩
    go_enter Tryd.func9, Tryd.ntmps9
    go_wp2_with (go_at_call 29; refine (isSide_sd _ _).mono ?_; rintro e w1 ⟨rfl, hw1⟩; subst hw1)
    go_ret
    exact ⟨Ans.no HR.out, HB.out⟩
  | true =>
  obtain ⟨s2, hs2'⟩ : ∃ s, sdB Y = s := ⟨_, rfl⟩
  cases s2 with
  | false =>
    have HR : Hid (¬ LyOk ⟨X, Y, C, E, T⟩) := fun h => sdB_f hs2' ⟨h.h0, h.h1⟩
    go_enter Tryd.func9, Tryd.ntmps9
    go_wp2_with (go_at_call 29; refine (isSide_sd _ _).mono ?_; rintro e w1 ⟨rfl, hw1⟩; subst hw1)
    go_ret
    exact ⟨Ans.no HR.out, HB.out⟩
  | true =>
  obtain ⟨hX0, hX1⟩ := sdB_t hs1
  obtain ⟨hY0, hY1⟩ := sdB_t hs2'
  have hn0 : 0 < X * Y := Int.mul_pos (by omega) (by omega)
  have hn1 : X * Y ≤ 1600 := by
    have : X * Y ≤ 40 * 40 := Int.mul_le_mul (by omega) (by omega) (by omega) (by omega)
    omega
  have HXY : Hid (1 ≤ X ∧ X ≤ 40 ∧ 1 ≤ Y ∧ Y ≤ 40) := by show _ ∧ _; omega
  obtain ⟨n, hn⟩ : ∃ n : Nat, X * Y = n := ⟨(X * Y).toNat, by omega⟩
  have HN := hide hn
  have hnb : (n : Int) ≤ 1600 := by omega
  have hnp : 0 < n := by omega
  clear hn0 hn1 hX0 hX1 hY0 hY1
  by_cases q5 : ¬ C.length = n
  · have t5 : ((C.length : Int) != (n : Int)) = true := by rw [bne_iff_ne]; omega
    have HR : Hid (¬ LyOk ⟨X, Y, C, E, T⟩) := fun h => by have h1 : (C.length : Int) = X * Y := h.cl; rw [HN.out] at h1; omega
    clear q5
    go_enter Tryd.func9, Tryd.ntmps9
    go_wp2_with (go_at_call 29; refine (isSide_sd _ _).mono ?_; rintro e w1 ⟨rfl, hw1⟩; subst hw1)
    go_ret
    exact ⟨Ans.no HR.out, HB.out⟩
  have q5' : C.length = n := by omega
  clear q5
  subst q5'
  obtain rfl := ha2 (by omega)
  have HA3 := hide ha3
  have HA4 := hide ha4
  clear ha3 ha4 ha2
  have t5 : ((C.length : Int) != (C.length : Int)) = false := by rw [bne_eq_false_iff_eq]
  by_cases q6 : ¬ E.length = C.length
  · have t6 : ((E.length : Int) != (C.length : Int)) = true := by rw [bne_iff_ne]; omega
    have HR : Hid (¬ LyOk ⟨X, Y, C, E, T⟩) := fun h => by have h1 : (E.length : Int) = X * Y := h.el; rw [HN.out] at h1; omega
    clear q6
    go_enter Tryd.func9, Tryd.ntmps9
    go_wp2_with (go_at_call 29; refine (isSide_sd _ _).mono ?_; rintro e w1 ⟨rfl, hw1⟩; subst hw1)
    go_ret
    exact ⟨Ans.no HR.out, HB.out⟩
  have t6 : ((E.length : Int) != (C.length : Int)) = false := by rw [bne_eq_false_iff_eq]; omega
  have HEC : Hid (E.length = C.length) := by show _ = _; omega
  clear q6
  obtain rfl := HA3.out (by rw [HEC.out]; exact hnp)
  clear HA3
  go_enter Tryd.func9, Tryd.ntmps9
  go_wp2_with (go_at_call 29; refine (isSide_sd _ _).mono ?_; rintro e w1 ⟨rfl, hw1⟩; subst hw1)
  clear t5 t6 hs1 hs2' hW0
  go_loopw [42] (fun ix wr => ∃ k : Nat, k ≤ C.length ∧ ix = .int .i64 k ∧ (∀ i, i < k → 0 ≤ C.getD i 0 ∧ C.getD i 0 ≤ 9) ∧ wr = w1) (fun ix _ => C.length - (intOf ix).toNat)
  case atStart => exact ⟨0, Nat.zero_le _, rfl, fun _ h => absurd h (Nat.not_lt_zero _), rfl⟩
  case round =>
    obtain ⟨k, hk, rfl, hco, rfl⟩ := hrel
    have HCO := hide hco
    clear hco
    by_cases hlt : k < C.length
    · have hlti : (k : Int) < (C.length : Int) := by omega
      have hck := HC2.out _ HB.out k hlt
      obtain ⟨g, hg⟩ : ∃ g, C.getD k 0 = g := ⟨_, rfl⟩
      rw [hg] at hck
      have HG := hide hg
      clear hg
      by_cases q1 : g < 0
      · have e1 : decide (g < 0) = true := decide_eq_true q1
        have HR : Hid (¬ LyOk ⟨X, Y, C, E, T⟩) := fun h => by have h1 := (h.cells k hlt).c0; have h2 : 0 ≤ C.getD k 0 := h1; rw [HG.out] at h2; omega
        go_wp2
        go_ret
        exact ⟨Ans.no HR.out, HB.out⟩
      have e1 : decide (g < 0) = false := decide_eq_false q1
      by_cases q2 : 9 < g
      · have e2 : decide (9 < g) = true := decide_eq_true q2
        have HR : Hid (¬ LyOk ⟨X, Y, C, E, T⟩) := fun h => by have h1 := (h.cells k hlt).c1; have h2 : C.getD k 0 ≤ 9 := h1; rw [HG.out] at h2; omega
        go_wp2
        go_ret
        exact ⟨Ans.no HR.out, HB.out⟩
      have e2 : decide (9 < g) = false := decide_eq_false q2
      have HCO1 : Hid (∀ i, i < k + 1 → 0 ≤ C.getD i 0 ∧ C.getD i 0 ≤ 9) := fun i hi => by
        by_cases e : i = k
        · subst e; rw [HG.out]; omega
        · exact HCO.out i (by omega)
      go_wp2
      go_roundw
      case rel => exact ⟨k + 1, by omega, by go_num, HCO1.out, trivial⟩
      case measure => simp [intOf]; omega
    · have hge : ¬ (k : Int) < (C.length : Int) := by omega
      have HCA : Hid (∀ i, i < C.length → 0 ≤ C.getD i 0 ∧ C.getD i 0 ≤ 9) := fun i hi => HCO.out i (by omega)
      clear HCO
      go_wp2
      clear z0 z1 z2 z3 z4 hge hlt hk
      rename World => w1
      go_loopw [56] (fun ix wr => ∃ k : Nat, k ≤ E.length ∧ ix = .int .i64 k ∧ (∀ i, i < k → ClOk ⟨X, Y, C, E, T⟩ i) ∧ Blk wr w.heap.size 30 #[.int .i64 X, .int .i64 Y, .slice (some ⟨b2, o2, none⟩) C.length c2, .slice (some ⟨b3, o3, none⟩) E.length c3, .slice a4 T.length c4] ∧ Below w.heap.size w wr) (fun ix _ => E.length - (intOf ix).toNat)
      case atStart => exact ⟨0, Nat.zero_le _, rfl, fun _ h => absurd h (Nat.not_lt_zero _), HA.out, HB.out⟩
      case round =>
        clear HA HB
        obtain ⟨k, hk, rfl, hco, hbk, hbl⟩ := hrel
        have HCO := hide hco
        have HBK := hide hbk
        have HB := hide hbl
        have z0 := hbk.cell 0
        have z1 := hbk.cell 1
        have z2 := hbk.cell 2
        have z3 := hbk.cell 3
        have z4 := hbk.cell 4
        simp only [List.getElem?_toArray, List.getElem?_cons_succ, List.getElem?_cons_zero] at z0 z1 z2 z3 z4
        clear hco hbk
        by_cases hlt : k < E.length
        · have hlti : (k : Int) < (E.length : Int) := by omega
          have hek := HC3.out _ hbl k hlt
          have hkc : k < C.length := by rw [← HEC.out]; exact hlt
          have HPX := hide (HPE.out k _ hbl HXY.out.1 HXY.out.2.1 HXY.out.2.2.2 HN.out.symm hkc)
          have HEK := hide (HEO.out k hlt (HCA.out k hkc).1 (HCA.out k hkc).2)
          obtain ⟨P, hP⟩ : ∃ P, pex ⟨X, Y, C, E, T⟩ k = P := ⟨_, rfl⟩
          obtain ⟨e0, he0⟩ : ∃ e, E.getD k 0 = e := ⟨_, rfl⟩
          rw [hP] at HPX HEK
          rw [he0] at hek HEK
          obtain ⟨b, hb⟩ : ∃ b, (bits .andNot .i64 e0 P != 0) = b := ⟨_, rfl⟩
          rw [hb] at HEK
          clear hP he0 hbl
          cases b with
          | true =>
            have HR : Hid (¬ LyOk ⟨X, Y, C, E, T⟩) := fun h => by
              have := HEK.out.2 (h.cells k hkc); cases this
            go_wp2_with fail
            refine HPX.out.mono ?_
            rintro e w5 ⟨rfl, hb5⟩
            have HB5 : Hid (Below w.heap.size w w5) := HB.out.trans (hb5.mono HB.out.size)
            clear hb5
            go_wp2
            go_ret
            exact ⟨Ans.no HR.out, HB5.out⟩
          | false =>
            have HCO1 : Hid (∀ i, i < k + 1 → ClOk ⟨X, Y, C, E, T⟩ i) := fun i hi => by
              by_cases e : i = k
              · subst e; exact HEK.out.1 rfl
              · exact HCO.out i (by omega)
            go_wp2_with fail
            refine HPX.out.mono ?_
            rintro e w5 ⟨rfl, hb5⟩
            have HB5 : Hid (Below w.heap.size w w5) := HB.out.trans (hb5.mono HB.out.size)
            have HBK5 := hide (HBK.out.below hb5)
            clear hb5
            go_wp2
            go_roundw
            case rel => exact ⟨k + 1, by omega, by go_num, HCO1.out, HBK5.out, HB5.out⟩
            case measure => simp [intOf]; omega
        · have hge : ¬ (k : Int) < (E.length : Int) := by omega
          have HCC : Hid (∀ i, i < C.length → ClOk ⟨X, Y, C, E, T⟩ i) := fun i hi => HCO.out i (by have := HEC.out; omega)
          have HV := hide (HVT.out C.length _ hbl)
          clear hbl HCO
          go_wp2_with fail
          refine HV.out.mono ?_
          rintro e w5 ⟨⟨b1, rfl, hi1⟩, hb5⟩
          have HB5 : Hid (Below w.heap.size w w5) := HB.out.trans (hb5.mono HB.out.size)
          have hbk5 := HBK.out.below hb5
          have HBK5 := hide hbk5
          have y4 := hbk5.cell 4
          simp only [List.getElem?_toArray, List.getElem?_cons_succ, List.getElem?_cons_zero] at y4
          clear hb5 hbk5 z0 z1 z2 z3 z4
          cases b1 with
          | false =>
            have HR : Hid (¬ LyOk ⟨X, Y, C, E, T⟩) := fun h => by
              have h1 : TgsOk (X * Y) T := h.tg
              rw [HN.out] at h1
              have := hi1.2 h1
              cases this
            clear hi1
            go_wp2
            go_ret
            exact ⟨Ans.no HR.out, HB5.out⟩
          | true =>
            have HTK := hide (hi1.1 rfl)
            have HW := hide (HAW.out w5 _ HBK5.out HB5.out HTK.out.len (fun i hi => ⟨(HTK.out.each i hi).c0, (HTK.out.each i hi).c1⟩))
            clear hi1
            go_wp2_with fail
            refine HW.out.mono ?_
            rintro e w6 ⟨⟨b2', rfl, hi2⟩, hb6⟩
            have HB6 : Hid (Below w.heap.size w w6) := HB5.out.trans (hb6.mono HB5.out.size)
            have HI2 := hide hi2
            clear hi2 hb6
            cases b2' with
            | true =>
              have HR : Hid (¬ LyOk ⟨X, Y, C, E, T⟩) := fun h => by
                obtain ⟨i, hi, he⟩ := HI2.out.1 rfl
                exact h.tc i hi he
              go_wp2
              go_ret
              exact ⟨Ans.no HR.out, HB6.out⟩
            | false =>
              have HOK : Hid (LyOk ⟨X, Y, C, E, T⟩) := by
                obtain ⟨p0, p1, p2, p3⟩ := HXY.out
                refine ⟨p0, p1, p2, p3, HN.out.symm, ?_, ?_, HCC.out, fun i hi he => ?_⟩
                · show (E.length : Int) = X * Y; rw [HN.out, HEC.out]
                · show TgsOk (X * Y) T; rw [HN.out]; exact HTK.out
                · have := HI2.out.2 ⟨i, hi, he⟩; cases this
              go_wp2
              go_ret
              exact ⟨Ans.yes HOK.out, HB6.out⟩
end Go.Proofs.YtaapababeecmeaaDoor

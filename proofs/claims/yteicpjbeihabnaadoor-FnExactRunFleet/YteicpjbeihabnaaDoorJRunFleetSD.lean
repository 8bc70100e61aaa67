/-
  A side that may stand.
  The walk of impl.ValidTables.
-/
import Derived.Test.YteicpjbeihabnaaDoorJRunFleetIL0
import Derived.Test.YteicpjbeihabnaaDoorJRunFleetITC
import Derived.Test.YteicpjbeihabnaaDoorJRunFleetIL3
namespace Go.Proofs.YteicpjbeihabnaaDoor
open Go.RowKit

/-- A side that may stand. -/
def sdB (n : Int) : Bool := decide (1 ≤ n) && decide (n ≤ 40)
theorem sdB_t {n : Int} (h : sdB n = true) : 1 ≤ n ∧ n ≤ 40 := by
  unfold sdB at h
  rw [Bool.and_eq_true] at h
  exact ⟨of_decide_eq_true h.1, of_decide_eq_true h.2⟩
theorem sdB_f {n : Int} (h : sdB n = false) : ¬ (1 ≤ n ∧ n ≤ 40) := fun ⟨h1, h2⟩ => by
  unfold sdB at h
  rw [decide_eq_true h1, decide_eq_true h2] at h
  cases h
theorem isSide_sd (n : Int) (w : World) : Calls Tryd.prog 68 #[.int .i64 n] w fun e w' => e = .returned (.bool (sdB n)) ∧ w' = w := isSide_any n w
end Go.Proofs.YteicpjbeihabnaaDoor

namespace Go.Proofs.YteicpjbeihabnaaDoor
open Go.RowKit

set_option maxHeartbeats 4000000 in
set_option maxRecDepth 1000000 in
theorem implTables_any (d : Tb) (v2 v3 v4 : Value) (w : World) (hb : TbB d) (hd : TbL d) (hmv : MvOk w) (hT : Lib.Utf8Tabs 2 3 w) (h : TbV w d v2 v3 v4) :
    Calls Tryd.prog 43 #[tbagg d v2 v3 v4] w fun e w' => Ans (TbOk d) e ∧ Below w.heap.size w w' := by
  have HTG := hide (fun cells V (hV : Below w.heap.size w V) => validTargets_any _ d.targets cells V (Utf8Tabs_below hT hV) hb.targets (fun i hi => (hd.targets.each i hi).cell) (h.targets.below hV))
  have HRW := hide (fun (i : Nat) V (hV : Below w.heap.size w V) hx0 hx1 hy0 hy1 hi hid hih => validTable_any d v2 v3 v4 i V hb (h.below hV) hx0 hx1 hy0 hy1 hi hid hih (hmv.below hV))
  have hl2 := hb.targets.len
  have hl3 := hb.dist.len
  have hl4 := hb.hop.len
  obtain ⟨a2, c2, rfl⟩ := h.targets.slice
  obtain ⟨a3, c3, rfl⟩ := h.dist.slice
  obtain ⟨a4, c4, rfl⟩ := h.hop.slice
  clear h hb hd hmv hT
  unfold tbagg at HRW ⊢
  obtain ⟨X, Y, T, Ds, Hs⟩ := d
  simp only at hl2 hl3 hl4 HTG HRW ⊢
  obtain ⟨W0, hW0⟩ : ∃ W, w.alloc (.cells #[.int .i64 X, .int .i64 Y, .slice a2 T.length c2, .slice a3 Ds.length c3, .slice a4 Hs.length c4] 31) = W := ⟨_, rfl⟩
  have hB0 : Below w.heap.size w W0 := by rw [← hW0]; exact (Below.refl _ _).alloc (Nat.le_refl _) _
  have hA0 : Blk W0 w.heap.size 31 #[.int .i64 X, .int .i64 Y, .slice a2 T.length c2, .slice a3 Ds.length c3, .slice a4 Hs.length c4] := by rw [← hW0]; exact Blk.new _ _ _
  have z0 := hA0.cell 0
  have z1 := hA0.cell 1
  have z2 := hA0.cell 2
  have z3 := hA0.cell 3
  have z4 := hA0.cell 4
  simp only [List.getElem?_toArray, List.getElem?_cons_succ, List.getElem?_cons_zero] at z0 z1 z2 z3 z4
  have HW := hide hW0
  have HB := hide hB0
  clear hW0 hB0 hA0
  obtain ⟨s1, hs1⟩ : ∃ s, sdB X = s := ⟨_, rfl⟩
  cases s1 with
  | false =>
    have HR : Hid (¬ TbOk ⟨X, Y, T, Ds, Hs⟩) := fun h => sdB_f hs1 ⟨h.w0, h.w1⟩
    have hW := HW.out
    go_enter Tryd.func43, Tryd.ntmps43
    go_wp2_with (go_at_call 68; refine (isSide_sd _ _).mono ?_; rintro e w1 ⟨rfl, hw1⟩; subst hw1)
    go_ret
    exact ⟨Ans.no HR.out, HB.out⟩
  | true =>
  obtain ⟨s2, hs2⟩ : ∃ s, sdB Y = s := ⟨_, rfl⟩
  cases s2 with
  | false =>
    have HR : Hid (¬ TbOk ⟨X, Y, T, Ds, Hs⟩) := fun h => sdB_f hs2 ⟨h.h0, h.h1⟩
    have hW := HW.out
    go_enter Tryd.func43, Tryd.ntmps43
    go_wp2_with (go_at_call 68; refine (isSide_sd _ _).mono ?_; rintro e w1 ⟨rfl, hw1⟩; subst hw1)
    go_ret
    exact ⟨Ans.no HR.out, HB.out⟩
  | true =>
  obtain ⟨q1, q2⟩ : ¬ X < 1 ∧ ¬ 40 < X := by have := sdB_t hs1; omega
  obtain ⟨q3, q4⟩ : ¬ Y < 1 ∧ ¬ 40 < Y := by have := sdB_t hs2; omega
  have hn0 : 0 < X * Y := Int.mul_pos (by omega) (by omega)
  have hn1 : X * Y ≤ 1600 := by
    have : X * Y ≤ 40 * 40 := Int.mul_le_mul (by omega) (by omega) (by omega) (by omega)
    omega
  have HXY : Hid (1 ≤ X ∧ X ≤ 40 ∧ 1 ≤ Y ∧ Y ≤ 40) := by show _ ∧ _; omega
  obtain ⟨n, hn⟩ : ∃ n : Nat, X * Y = n := ⟨(X * Y).toNat, by omega⟩
  have HN := hide hn
  have hnb : (n : Int) ≤ 1600 := by omega
  have hnp : 0 < n := by omega
  have HTC := hide (HTG.out (n : Int) W0 HB.out)
  have HRC := hide (fun (i : Nat) V (hV : Below w.heap.size w V) hi hid hih => HRW.out i V hV HXY.out.1 HXY.out.2.1 HXY.out.2.2.1 HXY.out.2.2.2 hi hid hih)
  have hW := HW.out
  clear q1 q2 q3 q4 hn0 hn1 HTG HRW
  go_enter Tryd.func43, Tryd.ntmps43
  go_wp2_with (go_at_call 68; refine (isSide_sd _ _).mono ?_; rintro e w1 ⟨rfl, hw1⟩; subst hw1)
  refine HTC.out.mono ?_
  rintro e w1 ⟨⟨tb, rfl, hti⟩, hb1⟩
  have HTI := hide hti
  have HB1 : Hid (Below w.heap.size w w1) := HB.out.trans (hb1.mono HB.out.size)
  have y0 := cell_kept z0 hb1
  have y1 := cell_kept z1 hb1
  have y2 := cell_kept z2 hb1
  have y3 := cell_kept z3 hb1
  have y4 := cell_kept z4 hb1
  clear hti hb1 z0 z1 z2 z3 z4 hW HTC
  cases tb with
  | false =>
    have HR : Hid (¬ TbOk ⟨X, Y, T, Ds, Hs⟩) := fun h => by
      have h1 : TgsOk (X * Y) T := h.tg
      rw [HN.out] at h1
      have := HTI.out.2 h1; cases this
    go_wp2
    go_ret
    exact ⟨Ans.no HR.out, HB1.out⟩
  | true =>
    have HTK := hide (HTI.out.1 rfl)
    by_cases q5 : ¬ (Ds.length : Int) = (T.length : Int)
    · have t5 : ((Ds.length : Int) != (T.length : Int)) = true := by rw [bne_iff_ne]; exact q5
      have HR : Hid (¬ TbOk ⟨X, Y, T, Ds, Hs⟩) := fun h => by have h1 : Ds.length = T.length := h.dl; omega
      clear q5
      go_wp2
      go_ret
      exact ⟨Ans.no HR.out, HB1.out⟩
    have t5 : ((Ds.length : Int) != (T.length : Int)) = false := by rw [bne_eq_false_iff_eq]; omega
    have HQ5 : Hid (Ds.length = T.length) := by show _ = _; omega
    clear q5
    by_cases q6 : ¬ (Hs.length : Int) = (T.length : Int)
    · have t6 : ((Hs.length : Int) != (T.length : Int)) = true := by rw [bne_iff_ne]; exact q6
      have HR : Hid (¬ TbOk ⟨X, Y, T, Ds, Hs⟩) := fun h => by have h1 : Hs.length = T.length := h.hl; omega
      clear q6
      go_wp2
      go_ret
      exact ⟨Ans.no HR.out, HB1.out⟩
    have t6 : ((Hs.length : Int) != (T.length : Int)) = false := by rw [bne_eq_false_iff_eq]; omega
    have HQ6 : Hid (Hs.length = T.length) := by show _ = _; omega
    clear q6
    go_wp2
    clear t5 t6 hn
    go_loopw [44] (fun ix wr => ∃ k : Nat, k ≤ T.length ∧ ix = .int .i64 k ∧ (∀ i, i < k → RowOk X Y (T.getD i .zero).cell (Ds.getD i []) (Hs.getD i [])) ∧ Below w1.heap.size w1 wr) (fun ix _ => T.length - (intOf ix).toNat)
    case atStart => exact ⟨0, Nat.zero_le _, rfl, fun _ h => absurd h (Nat.not_lt_zero _), Below.refl _ _⟩
    case round =>
      obtain ⟨k, hk, rfl, hst, hbw⟩ := hrel
      rename World => V
      have HST := hide hst
      have x0 := cell_kept y0 hbw
      have x1 := cell_kept y1 hbw
      have x2 := cell_kept y2 hbw
      have x3 := cell_kept y3 hbw
      have x4 := cell_kept y4 hbw
      have HBV := hide hbw
      have HBE : Hid (Below w.heap.size w V) := HB1.out.trans (hbw.mono HB1.out.size)
      clear hst hbw y0 y1 y2 y3 y4
      by_cases hlt : k < T.length
      · have hlti : (k : Int) < (T.length : Int) := by omega
        have HKT := hide hlt
        have HCA := hide (HRC.out k V HBE.out hlt (by have := HQ5.out; omega) (by have := HQ6.out; omega))
        have HNX : Hid (RowOk X Y (T.getD k .zero).cell (Ds.getD k []) (Hs.getD k []) → ∀ i, i < k + 1 → RowOk X Y (T.getD i .zero).cell (Ds.getD i []) (Hs.getD i [])) := fun h i hi => by
          by_cases e : i = k
          · rw [e]; exact h
          · exact HST.out i (by omega)
        have HNO : Hid (¬ RowOk X Y (T.getD k .zero).cell (Ds.getD k []) (Hs.getD k []) → ¬ TbOk ⟨X, Y, T, Ds, Hs⟩) := fun h h2 => h (h2.rows k HKT.out)
        clear HST
        go_wp2_with fail
        refine HCA.out.mono ?_
        rintro e w5 ⟨⟨b1, rfl, hi1⟩, hb5⟩
        have HB5 : Hid (Below w1.heap.size w1 w5) := HBV.out.trans (hb5.mono HBV.out.size)
        have HE5 : Hid (Below w.heap.size w w5) := HB1.out.trans (HB5.out.mono HB1.out.size)
        have HI1 := hide hi1
        clear hb5 hi1
        cases b1 with
        | false =>
          have HR := hide (HNO.out (fun h => by have := HI1.out.2 h; cases this))
          go_wp2
          go_ret
          exact ⟨Ans.no HR.out, HE5.out⟩
        | true =>
          have HOK := hide (HNX.out (HI1.out.1 rfl))
          go_wp2
          go_roundw
          case rel => exact ⟨k + 1, by omega, by go_num, HOK.out, HB5.out⟩
          case measure => simp [intOf]; omega
      · have hge : ¬ (k : Int) < (T.length : Int) := by omega
        have HOK : Hid (TbOk ⟨X, Y, T, Ds, Hs⟩) := by
          obtain ⟨p0, p1, p2, p3⟩ := HXY.out
          refine ⟨p0, p1, p2, p3, ?_, HQ5.out, HQ6.out, fun i hi => HST.out i (by have : i < T.length := hi; omega)⟩
          show TgsOk (X * Y) T; rw [HN.out]; exact HTK.out
        go_wp2
        go_ret
        exact ⟨Ans.yes HOK.out, HBE.out⟩
end Go.Proofs.YteicpjbeihabnaaDoor

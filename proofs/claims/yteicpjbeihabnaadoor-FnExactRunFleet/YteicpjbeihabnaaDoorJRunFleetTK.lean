/-
  Plainly: valid tables.
  The walk of spec.ValidTables.
  Plainly: the next cell of a walk.
-/
import Derived.Test.YteicpjbeihabnaaDoorJRunFleetSL4
import Derived.Test.YteicpjbeihabnaaDoorJRunFleetSLT
import Derived.Test.YteicpjbeihabnaaDoorJRunFleetSTB
namespace Go.Proofs.YteicpjbeihabnaaDoor
open Go.RowKit

/-- Tables are valid. -/
structure TbOk (d : Tb) : Prop where
  w0 : 1 ≤ d.w
  w1 : d.w ≤ 40
  h0 : 1 ≤ d.h
  h1 : d.h ≤ 40
  tg : TgsOk (d.w * d.h) d.targets
  dl : d.dist.length = d.targets.length
  hl : d.hop.length = d.targets.length
  rows : ∀ i, i < d.targets.length → RowOk d.w d.h (d.targets.getD i .zero).cell (d.dist.getD i []) (d.hop.getD i [])
end Go.Proofs.YteicpjbeihabnaaDoor

namespace Go.Proofs.YteicpjbeihabnaaDoor
open Go.RowKit

set_option maxHeartbeats 4000000 in
set_option maxRecDepth 1000000 in
theorem specTables_any (d : Tb) (v2 v3 v4 : Value) (w : World) (hb : TbB d) (h : TbV w d v2 v3 v4) :
    Calls Tryd.prog 40 #[tbagg d v2 v3 v4] w fun e w' => Ans (TbOk d) e ∧ Below w.heap.size w w' := by
  have HTG := hide (fun cells V (hV : Below w.heap.size w V) => l4targets_any _ d.targets cells V hb.targets (h.targets.below hV))
  have HRW := hide (fun (i : Nat) V (hV : Below w.heap.size w V) hx0 hx1 hy0 hy1 hi hid hih => l6row_any d v2 v3 v4 i V hb (h.below hV) hx0 hx1 hy0 hy1 hi hid hih)
  have hl2 := hb.targets.len
  have hl3 := hb.dist.len
  have hl4 := hb.hop.len
  obtain ⟨a2, c2, rfl⟩ := h.targets.slice
  obtain ⟨a3, c3, rfl⟩ := h.dist.slice
  obtain ⟨a4, c4, rfl⟩ := h.hop.slice
  clear h hb
  unfold tbagg at HRW ⊢
  obtain ⟨X, Y, T, Ds, Hs⟩ := d
  simp only at hl2 hl3 hl4 HTG HRW ⊢
  obtain ⟨W0, hW0⟩ : ∃ W, w.alloc (.cells #[.int .i64 X, .int .i64 Y, .slice a2 T.length c2, .slice a3 Ds.length c3, .slice a4 Hs.length c4] 31) = W := ⟨_, rfl⟩
  have hB0 : Below w.heap.size w W0 := by rw [← hW0]; exact (Below.refl _ _).alloc (Nat.le_refl _) _
  have hA0 : Blk W0 w.heap.size 31 #[.int .i64 X, .int .i64 Y, .slice a2 T.length c2, .slice a3 Ds.length c3, .slice a4 Hs.length c4] := by rw [← hW0]; exact Blk.new _ _ _
  have z0 := hA0.cell 0
  have z1 := hA0.cell 1
  have z2 := hA0.cell 2
  have z3 := hA0.cell 3
  have z4 := hA0.cell 4
  simp only [List.getElem?_toArray, List.getElem?_cons_succ, List.getElem?_cons_zero] at z0 z1 z2 z3 z4
  have HW := hide hW0
  have HB := hide hB0
  clear hW0 hB0 hA0
  by_cases q1 : X < 1
  · have t1 : decide (X < 1) = true := decide_eq_true q1
    have HR : Hid (¬ TbOk ⟨X, Y, T, Ds, Hs⟩) := fun h => by have h1 : 1 ≤ X := h.w0; omega
    have hW := HW.out
    go_enter Tryd.func40, Tryd.ntmps40
    go_wp2
    go_ret
    exact ⟨Ans.no HR.out, HB.out⟩
  have t1 : decide (X < 1) = false := decide_eq_false q1
  by_cases q2 : 40 < X
  · have t2 : decide (40 < X) = true := decide_eq_true q2
    have HR : Hid (¬ TbOk ⟨X, Y, T, Ds, Hs⟩) := fun h => by have h1 : X ≤ 40 := h.w1; omega
    have hW := HW.out
    go_enter Tryd.func40, Tryd.ntmps40
    go_wp2
    go_ret
    exact ⟨Ans.no HR.out, HB.out⟩
  have t2 : decide (40 < X) = false := decide_eq_false q2
  by_cases q3 : Y < 1
  · have t3 : decide (Y < 1) = true := decide_eq_true q3
    have HR : Hid (¬ TbOk ⟨X, Y, T, Ds, Hs⟩) := fun h => by have h1 : 1 ≤ Y := h.h0; omega
    have hW := HW.out
    go_enter Tryd.func40, Tryd.ntmps40
    go_wp2
    go_ret
    exact ⟨Ans.no HR.out, HB.out⟩
  have t3 : decide (Y < 1) = false := decide_eq_false q3
  by_cases q4 : 40 < Y
  · have t4 : decide (40 < Y) = true := decide_eq_true q4
    have HR : Hid (¬ TbOk ⟨X, Y, T, Ds, Hs⟩) := fun h => by have h1 : Y ≤ 40 := h.h1; omega
    have hW := HW.out
    go_enter Tryd.func40, Tryd.ntmps40
    go_wp2
    go_ret
    exact ⟨Ans.no HR.out, HB.out⟩
  have t4 : decide (40 < Y) = false := decide_eq_false q4
  have hn0 : 0 < X * Y := Int.mul_pos (by omega) (by omega)
  have hn1 : X * Y ≤ 1600 := by
    have : X * Y ≤ 40 * 40 := Int.mul_le_mul (by omega) (by omega) (by omega) (by omega)
    omega
  have HXY : Hid (1 ≤ X ∧ X ≤ 40 ∧ 1 ≤ Y ∧ Y ≤ 40) := by show _ ∧ _; omega
  obtain ⟨n, hn⟩ : ∃ n : Nat, X * Y = n := ⟨(X * Y).toNat, by omega⟩
  have HN := hide hn
  have hnb : (n : Int) ≤ 1600 := by omega
  have hnp : 0 < n := by omega
  have HTC := hide (HTG.out (n : Int) W0 HB.out)
  have HRC := hide (fun (i : Nat) V (hV : Below w.heap.size w V) hi hid hih => HRW.out i V hV HXY.out.1 HXY.out.2.1 HXY.out.2.2.1 HXY.out.2.2.2 hi hid hih)
  have hW := HW.out
  clear q1 q2 q3 q4 hn0 hn1 HTG HRW
  go_enter Tryd.func40, Tryd.ntmps40
  go_wp2_with fail
  refine HTC.out.mono ?_
  rintro e w1 ⟨⟨tb, rfl, hti⟩, hb1⟩
  have HTI := hide hti
  have HB1 : Hid (Below w.heap.size w w1) := HB.out.trans (hb1.mono HB.out.size)
  have y0 := cell_kept z0 hb1
  have y1 := cell_kept z1 hb1
  have y2 := cell_kept z2 hb1
  have y3 := cell_kept z3 hb1
  have y4 := cell_kept z4 hb1
  clear hti hb1 z0 z1 z2 z3 z4 hW HTC
  cases tb with
  | false =>
    have HR : Hid (¬ TbOk ⟨X, Y, T, Ds, Hs⟩) := fun h => by
      have h1 : TgsOk (X * Y) T := h.tg
      rw [HN.out] at h1
      have := HTI.out.2 h1; cases this
    go_wp2
    go_ret
    exact ⟨Ans.no HR.out, HB1.out⟩
  | true =>
    have HTK := hide (HTI.out.1 rfl)
    by_cases q5 : ¬ (Ds.length : Int) = (T.length : Int)
    · have t5 : ((Ds.length : Int) != (T.length : Int)) = true := by rw [bne_iff_ne]; exact q5
      have HR : Hid (¬ TbOk ⟨X, Y, T, Ds, Hs⟩) := fun h => by have h1 : Ds.length = T.length := h.dl; omega
      clear q5
      go_wp2
      go_ret
      exact ⟨Ans.no HR.out, HB1.out⟩
    have t5 : ((Ds.length : Int) != (T.length : Int)) = false := by rw [bne_eq_false_iff_eq]; omega
    have HQ5 : Hid (Ds.length = T.length) := by show _ = _; omega
    clear q5
    by_cases q6 : ¬ (Hs.length : Int) = (T.length : Int)
    · have t6 : ((Hs.length : Int) != (T.length : Int)) = true := by rw [bne_iff_ne]; exact q6
      have HR : Hid (¬ TbOk ⟨X, Y, T, Ds, Hs⟩) := fun h => by have h1 : Hs.length = T.length := h.hl; omega
      clear q6
      go_wp2
      go_ret
      exact ⟨Ans.no HR.out, HB1.out⟩
    have t6 : ((Hs.length : Int) != (T.length : Int)) = false := by rw [bne_eq_false_iff_eq]; omega
    have HQ6 : Hid (Hs.length = T.length) := by show _ = _; omega
    clear q6
    go_wp2
    clear t5 t6 hn
    go_loopw [3] (fun ix wr => ∃ k : Nat, k ≤ T.length ∧ ix = .int .i64 k ∧ (∀ i, i < k → RowOk X Y (T.getD i .zero).cell (Ds.getD i []) (Hs.getD i [])) ∧ Below w1.heap.size w1 wr) (fun ix _ => T.length - (intOf ix).toNat)
    case atStart => exact ⟨0, Nat.zero_le _, rfl, fun _ h => absurd h (Nat.not_lt_zero _), Below.refl _ _⟩
    case round =>
      obtain ⟨k, hk, rfl, hst, hbw⟩ := hrel
      rename World => V
      have HST := hide hst
      have x0 := cell_kept y0 hbw
      have x1 := cell_kept y1 hbw
      have x2 := cell_kept y2 hbw
      have x3 := cell_kept y3 hbw
      have x4 := cell_kept y4 hbw
      have HBV := hide hbw
      have HBE : Hid (Below w.heap.size w V) := HB1.out.trans (hbw.mono HB1.out.size)
      clear hst hbw y0 y1 y2 y3 y4
      by_cases hlt : k < T.length
      · have hlti : (k : Int) < (T.length : Int) := by omega
        have HKT := hide hlt
        have HCA := hide (HRC.out k V HBE.out hlt (by have := HQ5.out; omega) (by have := HQ6.out; omega))
        have HNX : Hid (RowOk X Y (T.getD k .zero).cell (Ds.getD k []) (Hs.getD k []) → ∀ i, i < k + 1 → RowOk X Y (T.getD i .zero).cell (Ds.getD i []) (Hs.getD i [])) := fun h i hi => by
          by_cases e : i = k
          · rw [e]; exact h
          · exact HST.out i (by omega)
        have HNO : Hid (¬ RowOk X Y (T.getD k .zero).cell (Ds.getD k []) (Hs.getD k []) → ¬ TbOk ⟨X, Y, T, Ds, Hs⟩) := fun h h2 => h (h2.rows k HKT.out)
        clear HST
        go_wp2_with fail
        refine HCA.out.mono ?_
        rintro e w5 ⟨⟨b1, rfl, hi1⟩, hb5⟩
        have HB5 : Hid (Below w1.heap.size w1 w5) := HBV.out.trans (hb5.mono HBV.out.size)
        have HE5 : Hid (Below w.heap.size w w5) := HB1.out.trans (HB5.out.mono HB1.out.size)
        have HI1 := hide hi1
        clear hb5 hi1
        cases b1 with
        | false =>
          have HR := hide (HNO.out (fun h => by have := HI1.out.2 h; cases this))
          go_wp2
          go_ret
          exact ⟨Ans.no HR.out, HE5.out⟩
        | true =>
          have HOK := hide (HNX.out (HI1.out.1 rfl))
          go_wp2
          go_roundw
          case rel => exact ⟨k + 1, by omega, by go_num, HOK.out, HB5.out⟩
          case measure => simp [intOf]; omega
      · have hge : ¬ (k : Int) < (T.length : Int) := by omega
        have HOK : Hid (TbOk ⟨X, Y, T, Ds, Hs⟩) := by
          obtain ⟨p0, p1, p2, p3⟩ := HXY.out
          refine ⟨p0, p1, p2, p3, ?_, HQ5.out, HQ6.out, fun i hi => HST.out i (by have : i < T.length := hi; omega)⟩
          show TgsOk (X * Y) T; rw [HN.out]; exact HTK.out
        go_wp2
        go_ret
        exact ⟨Ans.yes HOK.out, HBE.out⟩
end Go.Proofs.YteicpjbeihabnaaDoor

namespace Go.Proofs.YteicpjbeihabnaaDoor
open Go.RowKit

/-- A target and a cell. -/
def AskIn (d : Tb) (tg ce : Int) : Prop := 0 ≤ tg ∧ tg < d.targets.length ∧ 0 ≤ ce ∧ ce < d.w * d.h
/-- What may be asked. -/
def NxIn (d : Tb) (tg ce : Int) : Prop := TbOk d ∧ 0 ≤ tg ∧ tg < d.targets.length ∧ 0 ≤ ce ∧ ce < d.w * d.h
/-- The next cell, and its code. -/
def nxA (d : Tb) (i c : Nat) : Int :=
  if (c : Int) = (d.targets.getD i .zero).cell then c
  else if (d.dist.getD i []).getD c 0 < 0 then c
  else toC d.w d.h c ((d.hop.getD i []).getD c 0).toNat
def nxB (d : Tb) (i c : Nat) : Int :=
  if (c : Int) = (d.targets.getD i .zero).cell then 11
  else if (d.dist.getD i []).getD c 0 < 0 then 10
  else 0
/-- What Next answers. -/
structure NxAns (d : Tb) (tg ce a b : Int) : Prop where
  bad : ¬ NxIn d tg ce → a = 0 ∧ b = 1
  good : NxIn d tg ce → a = nxA d tg.toNat ce.toNat ∧ b = nxB d tg.toNat ce.toNat
theorem NxAns.one {d : Tb} {tg ce a b a' b' : Int} (h : NxAns d tg ce a b) (h' : NxAns d tg ce a' b') : a = a' ∧ b = b' := by
  by_cases q : NxIn d tg ce
  · have h1 := h.good q
    have h2 := h'.good q
    exact ⟨h1.1.trans h2.1.symm, h1.2.trans h2.2.symm⟩
  · have h1 := h.bad q
    have h2 := h'.bad q
    exact ⟨h1.1.trans h2.1.symm, h1.2.trans h2.2.symm⟩
/-- A call that answers so. -/
def NxRes (d : Tb) (tg ce : Int) (e : Ending) : Prop := ∃ a b : Int, e = .returned (.tuple #[.int .i64 a, .int .i64 b]) ∧ NxAns d tg ce a b
theorem NxRes.no {d : Tb} {tg ce : Int} (h : ¬ NxIn d tg ce) : NxRes d tg ce (.returned (.tuple #[.int .i64 0, .int .i64 1])) :=
  ⟨0, 1, rfl, fun _ => ⟨rfl, rfl⟩, fun q => absurd q h⟩
theorem NxRes.yes {d : Tb} {i c : Nat} (h : NxIn d i c) : NxRes d i c (.returned (.tuple #[.int .i64 (nxA d i c), .int .i64 (nxB d i c)])) :=
  ⟨_, _, rfl, fun q => absurd h q, fun _ => ⟨rfl, rfl⟩⟩
/-- In valid tables a cell with a way has its step. -/
theorem TbOk.step {d : Tb} (h : TbOk d) {i c : Nat} (hi : i < d.targets.length) (hc : (c : Int) < d.w * d.h) (h1 : ¬ (c : Int) = (d.targets.getD i .zero).cell) (h2 : ¬ (d.dist.getD i []).getD c 0 < 0) :
    0 ≤ (d.hop.getD i []).getD c 0 ∧ (d.hop.getD i []).getD c 0 ≤ 3 ∧ 0 ≤ toC d.w d.h c ((d.hop.getD i []).getD c 0).toNat ∧
    0 ≤ (d.dist.getD i []).getD (toC d.w d.h c ((d.hop.getD i []).getD c 0).toNat).toNat 0 ∧ (d.dist.getD i []).getD (toC d.w d.h c ((d.hop.getD i []).getD c 0).toNat).toNat 0 < (d.dist.getD i []).getD c 0 := by
  have h3 := (h.rows i hi).each c hc
  unfold StepOk at h3
  rw [if_neg h1, if_neg (by omega)] at h3
  exact ⟨h3.2.2.1, h3.2.2.2.1, h3.2.2.2.2.1, h3.2.2.2.2.2.1, h3.2.2.2.2.2.2⟩
end Go.Proofs.YteicpjbeihabnaaDoor

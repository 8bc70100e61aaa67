/-
  The walks of l8asks, l8next, spec.Next.
-/
import Derived.Test.YteicpjbeihabnaaDoorJRunFleetTK
import Derived.Test.YteicpjbeihabnaaDoorJRunFleetTK
import Derived.BigQuiet
import Derived.Deep.QuietTactic
namespace Go.Proofs.YteicpjbeihabnaaDoor
open Go.RowKit

set_option maxHeartbeats 1000000 in
set_option maxRecDepth 1000000 in
theorem l8asks_any (d : Tb) (v2 v3 v4 : Value) (tg ce : Int) (w : World) (hl : d.targets.length ≤ 1048576) (hx0 : 1 ≤ d.w) (hx1 : d.w ≤ 40) (hy0 : 1 ≤ d.h) (hy1 : d.h ≤ 40) (h2 : ∃ a c, v2 = .slice a d.targets.length c) :
    Calls Tryd.prog 49 #[tbagg d v2 v3 v4, .int .i64 tg, .int .i64 ce] w fun e w' => Ans (AskIn d tg ce) e ∧ Below w.heap.size w w' := by
  obtain ⟨a2, c2, rfl⟩ := h2
  unfold tbagg
  obtain ⟨X, Y, T, Ds, Hs⟩ := d
  simp only at hl hx0 hx1 hy0 hy1 ⊢
  obtain ⟨W0, hW0⟩ : ∃ W, w.alloc (.cells #[.int .i64 X, .int .i64 Y, .slice a2 T.length c2, v3, v4] 31) = W := ⟨_, rfl⟩
  have hB0 : Below w.heap.size w W0 := by rw [← hW0]; exact (Below.refl _ _).alloc (Nat.le_refl _) _
  have hA0 : Blk W0 w.heap.size 31 #[.int .i64 X, .int .i64 Y, .slice a2 T.length c2, v3, v4] := by rw [← hW0]; exact Blk.new _ _ _
  have z0 := hA0.cell 0
  have z1 := hA0.cell 1
  have z2 := hA0.cell 2
  simp only [List.getElem?_toArray, List.getElem?_cons_succ, List.getElem?_cons_zero] at z0 z1 z2
  have HB := hide hB0
  clear hB0 hA0
  have hn0 : 0 < X * Y := Int.mul_pos (by omega) (by omega)
  have hn1 : X * Y ≤ 1600 := by
    have : X * Y ≤ 40 * 40 := Int.mul_le_mul (by omega) (by omega) (by omega) (by omega)
    omega
  obtain ⟨n, hn⟩ : ∃ n : Nat, X * Y = n := ⟨(X * Y).toNat, by omega⟩
  have HN := hide hn
  have hnb : (n : Int) ≤ 1600 := by omega
  clear hx0 hx1 hy0 hy1 hn0 hn1
  by_cases q1 : 0 ≤ tg
  case' neg =>
    have t1 : decide (0 ≤ tg) = false := decide_eq_false q1
    have HR : Hid (¬ AskIn ⟨X, Y, T, Ds, Hs⟩ tg ce) := fun h => q1 h.1
  case' pos =>
    have t1 : decide (0 ≤ tg) = true := decide_eq_true q1
    by_cases q2 : tg < (T.length : Int)
    case' neg =>
      have t2 : decide (tg < (T.length : Int)) = false := decide_eq_false q2
      have HR : Hid (¬ AskIn ⟨X, Y, T, Ds, Hs⟩ tg ce) := fun h => q2 h.2.1
    case' pos =>
      have t2 : decide (tg < (T.length : Int)) = true := decide_eq_true q2
      by_cases q3 : 0 ≤ ce
      case' neg =>
        have t3 : decide (0 ≤ ce) = false := decide_eq_false q3
        have HR : Hid (¬ AskIn ⟨X, Y, T, Ds, Hs⟩ tg ce) := fun h => q3 h.2.2.1
      case' pos =>
        have t3 : decide (0 ≤ ce) = true := decide_eq_true q3
        by_cases q4 : ce < (n : Int)
        case' neg =>
          have t4 : decide (ce < (n : Int)) = false := decide_eq_false q4
          have HR : Hid (¬ AskIn ⟨X, Y, T, Ds, Hs⟩ tg ce) := fun h => q4 (by rw [← HN.out]; exact h.2.2.2)
        case' pos =>
          have t4 : decide (ce < (n : Int)) = true := decide_eq_true q4
          have HR : Hid (AskIn ⟨X, Y, T, Ds, Hs⟩ tg ce) := ⟨q1, q2, q3, by show ce < X * Y; rw [HN.out]; exact q4⟩
  all_goals
    go_enter Tryd.func49, Tryd.ntmps49
    go_wp2
    go_ret
  all_goals first | exact ⟨Ans.no HR.out, HB.out⟩ | exact ⟨Ans.yes HR.out, HB.out⟩
set_option maxHeartbeats 4000000 in
set_option maxRecDepth 1000000 in
theorem l8next_any (d : Tb) (v2 v3 v4 : Value) (i c : Nat) (w : World) (hb : TbB d) (h : TbV w d v2 v3 v4) (hok : TbOk d) (hi : i < d.targets.length) (hc : (c : Int) < d.w * d.h) :
    Calls Tryd.prog 50 #[tbagg d v2 v3 v4, .int .i64 i, .int .i64 c] w fun e w' => e = .returned (.tuple #[.int .i64 (nxA d i c), .int .i64 (nxB d i c)]) ∧ Below w.heap.size w w' := by
  have hx0 := hok.w0
  have hx1 := hok.w1
  have hy0 := hok.h0
  have hy1 := hok.h1
  have hid : i < d.dist.length := by rw [hok.dl]; exact hi
  have hih : i < d.hop.length := by rw [hok.hl]; exact hi
  have hdl := (hok.rows i hi).dl
  have hpl := (hok.rows i hi).pl
  have HST := hide (hok.step hi hc)
  have hl2 := hb.targets.len
  have hl3 := hb.dist.len
  have hl4 := hb.hop.len
  have HA : Hid (nxA d i c = if (c : Int) = (d.targets.getD i .zero).cell then (c : Int) else if (d.dist.getD i []).getD c 0 < 0 then (c : Int) else toC d.w d.h c ((d.hop.getD i []).getD c 0).toNat) := rfl
  have HBC : Hid (nxB d i c = if (c : Int) = (d.targets.getD i .zero).cell then 11 else if (d.dist.getD i []).getD c 0 < 0 then 10 else 0) := rfl
  obtain ⟨a2, b2, o2, c2, rfl, ha2, hc2⟩ := h.targets
  obtain ⟨a3, b3, o3, c3, rfl, ha3, hc3⟩ := h.dist
  obtain ⟨a4, b4, o4, c4, rfl, ha4, hc4⟩ := h.hop
  obtain rfl := ha2 (by omega)
  obtain rfl := ha3 (by omega)
  obtain rfl := ha4 (by omega)
  obtain ⟨_, ht0, _⟩ := hc2 i hi
  have ht := ht0.cell
  obtain ⟨u3, hu3, hI3⟩ := hc3 i hid
  obtain ⟨u4, hu4, hI4⟩ := hc4 i hih
  obtain ⟨t, hT⟩ : ∃ t, (d.targets.getD i .zero).cell = t := ⟨_, rfl⟩
  obtain ⟨D, hD⟩ : ∃ D, d.dist.getD i [] = D := ⟨_, rfl⟩
  obtain ⟨P, hP⟩ : ∃ P, d.hop.getD i [] = P := ⟨_, rfl⟩
  rw [hT] at ht HA HBC HST
  rw [hD] at hI3 hdl HA HBC HST
  rw [hP] at hI4 hpl HA HST
  clear hT hD hP hc2 hc3 hc4 h hb ht0 ha2 ha3 ha4 hok
  obtain ⟨aD, bD, oD, cD, rfl, hAD, hCD⟩ := hI3
  obtain ⟨aP, bP, oP, cP, rfl, hAP, hCP⟩ := hI4
  obtain ⟨rA, hrA⟩ : ∃ r, nxA d i c = r := ⟨_, rfl⟩
  obtain ⟨rB, hrB⟩ : ∃ r, nxB d i c = r := ⟨_, rfl⟩
  rw [hrA] at HA ⊢
  rw [hrB] at HBC ⊢
  clear hrA hrB
  unfold tbagg
  obtain ⟨X, Y, T, Ds, Hs⟩ := d
  simp only at hx0 hx1 hy0 hy1 hi hid hih hdl hpl hc hl2 hl3 hl4 HA HST ⊢
  obtain ⟨W0, hW0⟩ : ∃ W, w.alloc (.cells #[.int .i64 X, .int .i64 Y, .slice (some ⟨b2, o2, none⟩) T.length c2, .slice (some ⟨b3, o3, none⟩) Ds.length c3, .slice (some ⟨b4, o4, none⟩) Hs.length c4] 31) = W := ⟨_, rfl⟩
  have hB0 : Below w.heap.size w W0 := by rw [← hW0]; exact (Below.refl _ _).alloc (Nat.le_refl _) _
  have hA0 : Blk W0 w.heap.size 31 #[.int .i64 X, .int .i64 Y, .slice (some ⟨b2, o2, none⟩) T.length c2, .slice (some ⟨b3, o3, none⟩) Ds.length c3, .slice (some ⟨b4, o4, none⟩) Hs.length c4] := by rw [← hW0]; exact Blk.new _ _ _
  have z0 := hA0.cell 0
  have z1 := hA0.cell 1
  have z2 := hA0.cell 2
  have z3 := hA0.cell 3
  have z4 := hA0.cell 4
  simp only [List.getElem?_toArray, List.getElem?_cons_succ, List.getElem?_cons_zero] at z0 z1 z2 z3 z4
  have y2 := cell_kept ht hB0
  have y3 := cell_kept hu3 hB0
  have y4 := cell_kept hu4 hB0
  have HTO := hide (fun (k : Nat) (hk : k < 4) w => l4to_any X Y c k w hx0 hx1 hy0 hy1 (by omega) hc hk)
  obtain ⟨n, hn⟩ : ∃ n : Nat, X * Y = n := ⟨(X * Y).toNat, by omega⟩
  have hnb : (n : Int) ≤ 1600 := by
    have : X * Y ≤ 40 * 40 := Int.mul_le_mul (by omega) (by omega) (by omega) (by omega)
    omega
  rw [hn] at hdl hpl hc
  have hkD : (c : Int) < (D.length : Int) := by omega
  have hkP : (c : Int) < (P.length : Int) := by omega
  obtain rfl := hAD (by omega)
  obtain rfl := hAP (by omega)
  have f3 := cell_kept (hCD c (by omega)) hB0
  have f4 := cell_kept (hCP c (by omega)) hB0
  have hii : (i : Int) < (T.length : Int) := by omega
  have hidi : (i : Int) < (Ds.length : Int) := by omega
  have hihi : (i : Int) < (Hs.length : Int) := by omega
  obtain ⟨x, hx⟩ : ∃ x, D.getD c 0 = x := ⟨_, rfl⟩
  obtain ⟨y, hy⟩ : ∃ y, P.getD c 0 = y := ⟨_, rfl⟩
  rw [hx] at f3 HA HBC HST
  rw [hy] at f4 HA HST
  have HB : Hid (∀ p, Below w.heap.size w (W0.drewN p)) := fun p => below_drewN hB0 p
  have hW := hW0
  clear hx hy hB0 hA0 hW0 ht hu3 hu4 hCD hCP hn hx0 hx1 hy0 hy1 hi hid hih hdl hpl hAD hAP
  by_cases r0 : (c : Int) = t
  · have s0 : ((c : Int) == t) = true := by rw [beq_iff_eq]; exact r0
    have HA1 : Hid (rA = (c : Int)) := by show _ = _; rw [HA.out, if_pos r0]
    have HB1 : Hid (rB = 11) := by show _ = _; rw [HBC.out, if_pos r0]
    clear r0
    go_enter Tryd.func50, Tryd.ntmps50
    go_wp2
    go_ret2
    exact ⟨by rw [HA1.out, HB1.out]; rfl, HB.out 0⟩
  have s0 : ((c : Int) == t) = false := by rw [beq_eq_false_iff_ne]; exact r0
  by_cases r1 : x < 0
  · have s1 : decide (x < 0) = true := decide_eq_true r1
    have HA1 : Hid (rA = (c : Int)) := by show _ = _; rw [HA.out, if_neg r0, if_pos r1]
    have HB1 : Hid (rB = 10) := by show _ = _; rw [HBC.out, if_neg r0, if_pos r1]
    clear r0 r1
    go_enter Tryd.func50, Tryd.ntmps50
    go_wp2
    go_ret2
    exact ⟨by rw [HA1.out, HB1.out]; rfl, HB.out 0⟩
  have s1 : decide (x < 0) = false := decide_eq_false r1
  obtain ⟨p0, p1, p2, _, _⟩ := HST.out r0 r1
  obtain ⟨m, rfl⟩ : ∃ m : Nat, y = m := ⟨y.toNat, by omega⟩
  have HA1 : Hid (rA = toC X Y c m) := by show _ = _; rw [HA.out, if_neg r0, if_neg r1, Int.toNat_natCast]
  have HB1 : Hid (rB = 0) := by show _ = _; rw [HBC.out, if_neg r0, if_neg r1]
  have HT4 := hide (HTO.out m (by omega))
  clear r0 r1 p2 HA HBC HST
  go_enter Tryd.func50, Tryd.ntmps50
  go_wp2_with fail
  go_quiet ((go_at_call 72; exact Calls.quiet_of_same (HT4.out _)))
  go_wp2
  go_ret2
  exact ⟨by rw [HA1.out, HB1.out]; rfl, HB.out _⟩
set_option maxHeartbeats 4000000 in
set_option maxRecDepth 1000000 in
theorem specNext_any (d : Tb) (v2 v3 v4 : Value) (tg ce : Int) (w : World) (hb : TbB d) (h : TbV w d v2 v3 v4) :
    Calls Tryd.prog 16 #[tbagg d v2 v3 v4, .int .i64 tg, .int .i64 ce] w fun e w' => NxRes d tg ce e ∧ Below w.heap.size w w' := by
  have HVT := hide (fun V (hV : Below w.heap.size w V) => specTables_any d v2 v3 v4 V hb (h.below hV))
  have HAS := hide (fun V (hok : TbOk d) => l8asks_any d v2 v3 v4 tg ce V hb.targets.len hok.w0 hok.w1 hok.h0 hok.h1 h.targets.slice)
  have HNX := hide (fun V (i c : Nat) (hV : Below w.heap.size w V) hok hi hc => l8next_any d v2 v3 v4 i c V hb (h.below hV) hok hi hc)
  obtain ⟨a2, c2, rfl⟩ := h.targets.slice
  obtain ⟨a3, c3, rfl⟩ := h.dist.slice
  obtain ⟨a4, c4, rfl⟩ := h.hop.slice
  clear h hb
  unfold tbagg at HVT HAS HNX ⊢
  obtain ⟨X, Y, T, Ds, Hs⟩ := d
  simp only at HVT HAS HNX ⊢
  obtain ⟨W0, hW0⟩ : ∃ W, w.alloc (.cells #[.int .i64 X, .int .i64 Y, .slice a2 T.length c2, .slice a3 Ds.length c3, .slice a4 Hs.length c4] 31) = W := ⟨_, rfl⟩
  have hB0 : Below w.heap.size w W0 := by rw [← hW0]; exact (Below.refl _ _).alloc (Nat.le_refl _) _
  have hA0 : Blk W0 w.heap.size 31 #[.int .i64 X, .int .i64 Y, .slice a2 T.length c2, .slice a3 Ds.length c3, .slice a4 Hs.length c4] := by rw [← hW0]; exact Blk.new _ _ _
  have z0 := hA0.cell 0
  have z1 := hA0.cell 1
  have z2 := hA0.cell 2
  have z3 := hA0.cell 3
  have z4 := hA0.cell 4
  simp only [List.getElem?_toArray, List.getElem?_cons_succ, List.getElem?_cons_zero] at z0 z1 z2 z3 z4
  have HB := hide hB0
  have HTC := hide (HVT.out W0 hB0)
  have hW := hW0
  clear hW0 hB0 hA0 HVT
  go_enter Tryd.func16, Tryd.ntmps16
  go_wp2_with fail
  refine HTC.out.mono ?_
  rintro e w1 ⟨⟨tb, rfl, hti⟩, hb1⟩
  have HTI := hide hti
  have HB1 : Hid (Below w.heap.size w w1) := HB.out.trans (hb1.mono HB.out.size)
  have y0 := cell_kept z0 hb1
  have y1 := cell_kept z1 hb1
  have y2 := cell_kept z2 hb1
  have y3 := cell_kept z3 hb1
  have y4 := cell_kept z4 hb1
  clear hti hb1 z0 z1 z2 z3 z4 hW HTC
  cases tb with
  | false =>
    have HR : Hid (¬ NxIn ⟨X, Y, T, Ds, Hs⟩ tg ce) := fun h => by have := HTI.out.2 h.1; cases this
    go_wp2
    go_ret2
    exact ⟨NxRes.no HR.out, HB1.out⟩
  | true =>
  have HOK := hide (HTI.out.1 rfl)
  have HA1 := hide (HAS.out w1 HOK.out)
  go_wp2_with fail
  refine HA1.out.mono ?_
  rintro e w2 ⟨⟨ab, rfl, hai⟩, hb2⟩
  have HAI := hide hai
  have HB2 : Hid (Below w.heap.size w w2) := HB1.out.trans (hb2.mono HB1.out.size)
  have x0 := cell_kept y0 hb2
  have x1 := cell_kept y1 hb2
  have x2 := cell_kept y2 hb2
  have x3 := cell_kept y3 hb2
  have x4 := cell_kept y4 hb2
  clear hai hb2 y0 y1 y2 y3 y4 HA1
  cases ab with
  | false =>
    have HR : Hid (¬ NxIn ⟨X, Y, T, Ds, Hs⟩ tg ce) := fun h => by have := HAI.out.2 h.2; cases this
    go_wp2
    go_ret2
    exact ⟨NxRes.no HR.out, HB2.out⟩
  | true =>
  obtain ⟨q1, q2, q3, q4⟩ := HAI.out.1 rfl
  simp only at q2 q4
  have HIN : Hid (NxIn ⟨X, Y, T, Ds, Hs⟩ tg ce) := ⟨HOK.out, q1, q2, q3, q4⟩
  obtain ⟨i, rfl⟩ : ∃ i : Nat, tg = i := ⟨tg.toNat, by omega⟩
  obtain ⟨c, rfl⟩ : ∃ c : Nat, ce = c := ⟨ce.toNat, by omega⟩
  have HN1 := hide (HNX.out w2 i c HB2.out HOK.out (show i < T.length by omega) q4)
  clear q1 q2 q3 q4
  go_wp2_with fail
  refine HN1.out.mono ?_
  rintro e w3 ⟨rfl, hb3⟩
  have HB3 : Hid (Below w.heap.size w w3) := HB2.out.trans (hb3.mono HB2.out.size)
  clear hb3
  go_wp2
  go_ret2
  exact ⟨NxRes.yes HIN.out, HB3.out⟩
end Go.Proofs.YteicpjbeihabnaaDoor

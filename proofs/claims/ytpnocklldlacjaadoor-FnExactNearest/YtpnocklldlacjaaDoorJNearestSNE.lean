/-
  The walk of spec.Nearest.
-/
import Derived.Test.YtpnocklldlacjaaDoorJNearestSTC
import Derived.Test.YtpnocklldlacjaaDoorJNearestTNR
namespace Go.Proofs.YtpnocklldlacjaaDoor
open Go.RowKit

set_option maxHeartbeats 4000000 in
set_option maxRecDepth 1000000 in
theorem specNear_any (d : Tb) (v2 v3 v4 : Value) (kd ce : Int) (w : World) (hb : TbB d) (h : TbV w d v2 v3 v4) :
    Calls Tryd.prog 12 #[tbagg d v2 v3 v4, .int .i64 kd, .int .i64 ce] w fun e w' => NrRes d kd ce e ∧ Below w.heap.size w w' := by
  have HVT := hide (fun V (hV : Below w.heap.size w V) => specTables_any d v2 v3 v4 V hb (h.below hV))
  have hl2 := hb.targets.len
  have hl3 := hb.dist.len
  have HRD := hide (fun (hok : TbOk d) (c : Nat) V hc hV => tb_row (c := c) (V := V) h hok hc hV)
  obtain ⟨a2, b2, o2, c2, rfl, ha2, hc2⟩ := h.targets
  obtain ⟨a4, c4, rfl⟩ := h.hop.slice
  have HRK : Hid (∀ V, Below w.heap.size w V → ∀ j, j < d.targets.length → V.cell? ⟨b2, o2 + j * 3 + 1, none⟩ = some (.int .i64 (d.targets.getD j .zero).kind)) := fun V hV j hj => by
    obtain ⟨_, h1, _⟩ := hc2 j hj
    exact cell_kept h1.kind hV
  have HRN : Hid (∀ V, Below w.heap.size w V → ∀ j, j < d.targets.length → ∃ u, V.cell? ⟨b2, o2 + j * 3, none⟩ = some u ∧ V.cell? ⟨b2, o2 + j * 3 + 2, none⟩ = some (.int .i64 (d.targets.getD j .zero).cell) ∧ ∃ a c, u = .slice a (d.targets.getD j .zero).name.size c) := fun V hV j hj => by
    obtain ⟨u, h1, h2⟩ := hc2 j hj
    exact ⟨u, cell_kept h1.name hV, cell_kept h1.cell hV, h2.name.slice⟩
  have HA2 := hide ha2
  obtain ⟨a3, c3, rfl⟩ := h.dist.slice
  clear h hb ha2 hc2
  unfold tbagg at HVT ⊢
  obtain ⟨X, Y, T, Ds, Hs⟩ := d
  simp only at hl2 hl3 HVT HRK HRN HA2 HRD ⊢
  obtain ⟨W0, hW0⟩ : ∃ W, w.alloc (.cells #[.int .i64 X, .int .i64 Y, .slice a2 T.length c2, .slice a3 Ds.length c3, .slice a4 Hs.length c4] 30) = W := ⟨_, rfl⟩
  have hB0 : Below w.heap.size w W0 := by rw [← hW0]; exact (Below.refl _ _).alloc (Nat.le_refl _) _
  have hA0 : Blk W0 w.heap.size 30 #[.int .i64 X, .int .i64 Y, .slice a2 T.length c2, .slice a3 Ds.length c3, .slice a4 Hs.length c4] := by rw [← hW0]; exact Blk.new _ _ _
  have z0 := hA0.cell 0
  have z1 := hA0.cell 1
  have z2 := hA0.cell 2
  have z3 := hA0.cell 3
  have z4 := hA0.cell 4
  simp only [List.getElem?_toArray, List.getElem?_cons_succ, List.getElem?_cons_zero] at z0 z1 z2 z3 z4
  have HW := hide hW0
  have HB := hide hB0
  have HTC := hide (HVT.out W0 hB0)
  clear hW0 hB0 hA0 HVT
  have hW := HW.out
  go_enter Tryd.func12, Tryd.ntmps12
  go_wp2_with fail
  refine HTC.out.mono ?_
  rintro e w1 ⟨⟨tb, rfl, hti⟩, hb1⟩
  have HTI := hide hti
  have HB1 : Hid (Below w.heap.size w w1) := HB.out.trans (hb1.mono HB.out.size)
  have y0 := cell_kept z0 hb1
  have y1 := cell_kept z1 hb1
  have y2 := cell_kept z2 hb1
  have y3 := cell_kept z3 hb1
  have y4 := cell_kept z4 hb1
  clear hti hb1 z0 z1 z2 z3 z4 hW HTC
  cases tb with
  | false =>
    have HR : Hid (¬ NrIn ⟨X, Y, T, Ds, Hs⟩ kd ce) := fun h => by have := HTI.out.2 h.1; cases this
    go_wp2
    go_ret2
    exact ⟨NrRes.no HR.out, HB1.out⟩
  | true =>
  have hok := HTI.out.1 rfl
  have HOK := hide hok
  have hx0 : 1 ≤ X := hok.w0
  have hx1 : X ≤ 40 := hok.w1
  have hy0 : 1 ≤ Y := hok.h0
  have hy1 : Y ≤ 40 := hok.h1
  have hn0 : 0 < X * Y := Int.mul_pos (by omega) (by omega)
  have hn1 : X * Y ≤ 1600 := by
    have : X * Y ≤ 40 * 40 := Int.mul_le_mul (by omega) (by omega) (by omega) (by omega)
    omega
  obtain ⟨n, hn⟩ : ∃ n : Nat, X * Y = n := ⟨(X * Y).toNat, by omega⟩
  have HN := hide hn
  have hnb : (n : Int) ≤ 1600 := by omega
  have hnp : 0 < n := by omega
  clear hok hx0 hx1 hy0 hy1 hn0 hn1 HTI
  by_cases q1 : kd < 0
  · have t1 : decide (kd < 0) = true := decide_eq_true q1
    have HR : Hid (¬ NrIn ⟨X, Y, T, Ds, Hs⟩ kd ce) := fun h => by obtain ⟨_, h1, h2, h3, h4⟩ := h; have h5 : ce < X * Y := h4; rw [HN.out] at h5; omega
    go_wp2
    go_ret2
    exact ⟨NrRes.no HR.out, HB1.out⟩
  have t1 : decide (kd < 0) = false := decide_eq_false q1
  by_cases q2 : 1 < kd
  · have t2 : decide (1 < kd) = true := decide_eq_true q2
    have HR : Hid (¬ NrIn ⟨X, Y, T, Ds, Hs⟩ kd ce) := fun h => by obtain ⟨_, h1, h2, h3, h4⟩ := h; have h5 : ce < X * Y := h4; rw [HN.out] at h5; omega
    go_wp2
    go_ret2
    exact ⟨NrRes.no HR.out, HB1.out⟩
  have t2 : decide (1 < kd) = false := decide_eq_false q2
  by_cases q3 : ce < 0
  · have t3 : decide (ce < 0) = true := decide_eq_true q3
    have HR : Hid (¬ NrIn ⟨X, Y, T, Ds, Hs⟩ kd ce) := fun h => by obtain ⟨_, h1, h2, h3, h4⟩ := h; have h5 : ce < X * Y := h4; rw [HN.out] at h5; omega
    go_wp2
    go_ret2
    exact ⟨NrRes.no HR.out, HB1.out⟩
  have t3 : decide (ce < 0) = false := decide_eq_false q3
  by_cases q4 : (n : Int) ≤ ce
  · have t4 : decide ((n : Int) ≤ ce) = true := decide_eq_true q4
    have HR : Hid (¬ NrIn ⟨X, Y, T, Ds, Hs⟩ kd ce) := fun h => by obtain ⟨_, h1, h2, h3, h4⟩ := h; have h5 : ce < X * Y := h4; rw [HN.out] at h5; omega
    go_wp2
    go_ret2
    exact ⟨NrRes.no HR.out, HB1.out⟩
  have t4 : decide ((n : Int) ≤ ce) = false := decide_eq_false q4
  have HIN : Hid (NrIn ⟨X, Y, T, Ds, Hs⟩ kd ce) := ⟨HOK.out, by omega, by omega, by omega, by show ce < X * Y; rw [HN.out]; omega⟩
  obtain ⟨c, rfl⟩ : ∃ c : Nat, ce = c := ⟨ce.toNat, by omega⟩
  have hcn : (c : Int) < (n : Int) := by omega
  have t5 : decide (n ≤ c) = false := decide_eq_false (by omega)
  have HRW := hide (fun V hV => HRD.out HOK.out c V (by show (c : Int) < X * Y; rw [HN.out]; omega) hV)
  have HQ5 : Hid (Ds.length = T.length) := HOK.out.dl
  clear HRD q1 q2 q3 q4
  go_wp2
  clear t1 t2 t3 t4 t5 hn
  go_loopw [8, 9] (fun bx ix wr => ∃ k : Nat, k ≤ T.length ∧ bx = .int .i64 (bestN ⟨X, Y, T, Ds, Hs⟩ kd c k) ∧ ix = .int .i64 k ∧ Below w1.heap.size w1 wr) (fun _ ix _ => T.length - (intOf ix).toNat)
  case atStart => exact ⟨0, Nat.zero_le _, rfl, rfl, Below.refl _ _⟩
  case round =>
    obtain ⟨k, hk, rfl, rfl, hbw⟩ := hrel
    rename World => V
    have x0 := cell_kept y0 hbw
    have x1 := cell_kept y1 hbw
    have x2 := cell_kept y2 hbw
    have x3 := cell_kept y3 hbw
    have x4 := cell_kept y4 hbw
    have HBV := hide hbw
    have HBE : Hid (Below w.heap.size w V) := HB1.out.trans (hbw.mono HB1.out.size)
    obtain ⟨hbl, hbh⟩ := bestN_lo ⟨X, Y, T, Ds, Hs⟩ kd c k
    obtain ⟨B, hB⟩ : ∃ B, bestN ⟨X, Y, T, Ds, Hs⟩ kd c k = B := ⟨_, rfl⟩
    rw [hB] at hbl hbh ⊢
    have HBB := hide hB
    clear hbw y0 y1 y2 y3 y4 hB
    by_cases hlt : k < T.length
    · have hlti : (k : Int) < (T.length : Int) := by omega
      have hkD : (k : Int) < (Ds.length : Int) := by have := HQ5.out; omega
      obtain rfl := HA2.out (by omega)
      have f1 := HRK.out V HBE.out k hlt
      obtain ⟨b3, o3, k3, bD, oD, cD, hv3, f2, f3⟩ := HRW.out V HBE.out k hlt
      obtain ⟨rfl, rfl⟩ : a3 = some ⟨b3, o3, none⟩ ∧ c3 = k3 := by
        injection hv3 with h1 h2 h3
        exact ⟨h1, h3⟩
      have hnt : (X * Y).toNat = n := by rw [HN.out]; rfl
      rw [hnt] at f2
      have HNX : Hid (bestN ⟨X, Y, T, Ds, Hs⟩ kd c (k + 1) = if (T.getD k .zero).kind = kd ∧ 0 ≤ dsT ⟨X, Y, T, Ds, Hs⟩ k c ∧ (B < 0 ∨ dsT ⟨X, Y, T, Ds, Hs⟩ k c < dsT ⟨X, Y, T, Ds, Hs⟩ B.toNat c) then (k : Int) else B) := by
        show _ = _
        rw [← HBB.out]
        rfl
      obtain ⟨g, hg⟩ : ∃ g, (T.getD k .zero).kind = g := ⟨_, rfl⟩
      obtain ⟨x, hx⟩ : ∃ x, dsT ⟨X, Y, T, Ds, Hs⟩ k c = x := ⟨_, rfl⟩
      rw [hg] at f1 HNX
      rw [hx] at f3 HNX
      clear hg hx hnt hv3
      by_cases r0 : g = kd
      · have s0 : (g == kd) = true := by rw [beq_iff_eq]; exact r0
        by_cases r1 : x < 0
        · have s1 : decide (0 ≤ x) = false := decide_eq_false (by omega)
          have HK : Hid (bestN ⟨X, Y, T, Ds, Hs⟩ kd c (k + 1) = B) := by show _ = _; rw [HNX.out, if_neg (fun h => by have := h.2.1; omega)]
          clear r0 r1
          go_wp2_with fail
          go_quiet (fail)
          go_wp2
          go_roundw
          case rel => exact ⟨k + 1, by omega, by rw [HK.out], by go_num, below_drewN HBV.out _⟩
          case measure => simp [intOf]; omega
        have s1 : 0 ≤ x := by omega
        by_cases r2 : B < 0
        · have s2 : B < 0 := r2
          have HK : Hid (bestN ⟨X, Y, T, Ds, Hs⟩ kd c (k + 1) = k) := by show _ = _; rw [HNX.out, if_pos ⟨r0, by omega, .inl r2⟩]
          clear r0 r1 r2
          go_wp2_with fail
          go_quiet (fail)
          go_wp2
          go_roundw
          case rel => exact ⟨k + 1, by omega, by rw [HK.out], by go_num, below_drewN HBV.out _⟩
          case measure => simp [intOf]; omega
        have s2 : decide (B < 0) = false := decide_eq_false r2
        obtain ⟨m, rfl⟩ : ∃ m : Nat, B = m := ⟨B.toNat, by omega⟩
        have hmT : m < T.length := by omega
        have hmD : (m : Int) < (Ds.length : Int) := by have := HQ5.out; omega
        obtain ⟨b4, o4, k4, bE, oE, cE, hv4, f4, f5⟩ := HRW.out V HBE.out m hmT
        obtain ⟨⟨rfl, rfl⟩, rfl⟩ : (b3 = b4 ∧ o3 = o4) ∧ c3 = k4 := by
          injection hv4 with h1 h2 h3
          injection h1 with h1
          injection h1 with h4 h5 h6
          exact ⟨⟨h4, h5⟩, h3⟩
        have hnt : (X * Y).toNat = n := by rw [HN.out]; rfl
        rw [hnt] at f4
        rw [Int.toNat_natCast] at HNX
        obtain ⟨y, hy⟩ : ∃ y, dsT ⟨X, Y, T, Ds, Hs⟩ m c = y := ⟨_, rfl⟩
        rw [hy] at f5 HNX
        clear hy hnt hv4
        by_cases r3 : x < y
        · have s3 : x < y := r3
          have HK : Hid (bestN ⟨X, Y, T, Ds, Hs⟩ kd c (k + 1) = k) := by show _ = _; rw [HNX.out, if_pos ⟨r0, by omega, .inr r3⟩]
          clear r0 r1 r2 r3
          go_wp2_with fail
          go_quiet (fail)
          go_wp2
          go_roundw
          case rel => exact ⟨k + 1, by omega, by rw [HK.out], by go_num, below_drewN HBV.out _⟩
          case measure => simp [intOf]; omega
        have s3 : decide (x < y) = false := decide_eq_false r3
        have HK : Hid (bestN ⟨X, Y, T, Ds, Hs⟩ kd c (k + 1) = m) := by show _ = _; rw [HNX.out, if_neg (fun h => by have := h.2.2; omega)]
        clear r0 r1 r2 r3
        go_wp2_with fail
        go_quiet (fail)
        go_wp2
        go_roundw
        case rel => exact ⟨k + 1, by omega, by rw [HK.out], by go_num, below_drewN HBV.out _⟩
        case measure => simp [intOf]; omega
      have s0 : (g == kd) = false := by rw [beq_eq_false_iff_ne]; exact r0
      have HK : Hid (bestN ⟨X, Y, T, Ds, Hs⟩ kd c (k + 1) = B) := by show _ = _; rw [HNX.out, if_neg (fun h => r0 h.1)]
      clear r0
      go_wp2_with fail
      go_quiet (fail)
      go_wp2
      go_roundw
      case rel => exact ⟨k + 1, by omega, by rw [HK.out], by go_num, below_drewN HBV.out _⟩
      case measure => simp [intOf]; omega
    · have hge : ¬ (k : Int) < (T.length : Int) := by omega
      obtain rfl : k = T.length := by omega
      by_cases r2 : B < 0
      · have s2 : decide (B < 0) = true := decide_eq_true r2
        have HE : Hid (bestN ⟨X, Y, T, Ds, Hs⟩ kd ((c : Nat) : Int).toNat T.length < 0) := by show _ < _; rw [Int.toNat_natCast, HBB.out]; exact r2
        clear r2
        go_wp2
        go_ret2
        exact ⟨NrRes.lost HIN.out HE.out, HBE.out⟩
      have s2 : decide (B < 0) = false := decide_eq_false r2
      have HE : Hid (bestN ⟨X, Y, T, Ds, Hs⟩ kd ((c : Nat) : Int).toNat T.length = B) := by show _ = _; rw [Int.toNat_natCast]; exact HBB.out
      have HZ : Hid (0 ≤ B) := by show _ ≤ _; omega
      clear r2
      go_wp2
      go_ret2
      exact ⟨NrRes.good HIN.out HE.out HZ.out, HBE.out⟩
end Go.Proofs.YtpnocklldlacjaaDoor

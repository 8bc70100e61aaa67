/-
  The walk of validTable.
-/
import Derived.Test.YteicpjbeihabnaaDoorJRunFleetITB
namespace Go.Proofs.YteicpjbeihabnaaDoor
open Go.RowKit

set_option maxHeartbeats 4000000 in
set_option maxRecDepth 1000000 in
theorem validTable_any (d : Tb) (v2 v3 v4 : Value) (i : Nat) (w : World) (hb : TbB d) (h : TbV w d v2 v3 v4) (hx0 : 1 ≤ d.w) (hx1 : d.w ≤ 40) (hy0 : 1 ≤ d.h) (hy1 : d.h ≤ 40) (hi : i < d.targets.length) (hid : i < d.dist.length) (hih : i < d.hop.length) (hmv : MvOk w) :
    Calls Tryd.prog 70 #[tbagg d v2 v3 v4, .int .i64 i] w fun e w' => Ans (RowOk d.w d.h (d.targets.getD i .zero).cell (d.dist.getD i []) (d.hop.getD i [])) e ∧ Below w.heap.size w w' := by
  have HVS := hide (fun (c : Nat) V (hV : Below w.heap.size w V) hdl hpl hc => validStep_any d v2 v3 v4 i c V hb (h.below hV) hx0 hx1 hy0 hy1 hi hid hih (hmv.below hV) hdl hpl hc)
  have hl2 := hb.targets.len
  have hl3 := hb.dist.len
  have hl4 := hb.hop.len
  have hle3 := hb.dist.each i hid
  have hle4 := hb.hop.each i hih
  obtain ⟨a2, b2, o2, c2, rfl, ha2, hc2⟩ := h.targets
  obtain ⟨a3, b3, o3, c3, rfl, ha3, hc3⟩ := h.dist
  obtain ⟨a4, b4, o4, c4, rfl, ha4, hc4⟩ := h.hop
  obtain rfl := ha2 (by omega)
  obtain rfl := ha3 (by omega)
  obtain rfl := ha4 (by omega)
  obtain ⟨_, ht0, _⟩ := hc2 i hi
  have ht := ht0.cell
  obtain ⟨u3, hu3, hI3⟩ := hc3 i hid
  obtain ⟨u4, hu4, hI4⟩ := hc4 i hih
  obtain ⟨t, hT⟩ : ∃ t, (d.targets.getD i .zero).cell = t := ⟨_, rfl⟩
  obtain ⟨D, hD⟩ : ∃ D, d.dist.getD i [] = D := ⟨_, rfl⟩
  obtain ⟨P, hP⟩ : ∃ P, d.hop.getD i [] = P := ⟨_, rfl⟩
  rw [hT] at ht
  rw [hD] at hI3 hle3
  rw [hP] at hI4 hle4
  rw [hT, hD, hP]
  simp only [hT, hD, hP] at HVS
  clear hT hD hP hc2 hc3 hc4 h hb ht0 ha2 ha3 ha4
  obtain ⟨aD, bD, oD, cD, rfl, hAD, hCD⟩ := hI3
  obtain ⟨aP, bP, oP, cP, rfl, hAP, hCP⟩ := hI4
  unfold tbagg at HVS ⊢
  obtain ⟨X, Y, T, Ds, Hs⟩ := d
  simp only at hx0 hx1 hy0 hy1 hi hid hih hl2 hl3 hl4 HVS ⊢
  obtain ⟨W0, hW0⟩ : ∃ W, w.alloc (.cells #[.int .i64 X, .int .i64 Y, .slice (some ⟨b2, o2, none⟩) T.length c2, .slice (some ⟨b3, o3, none⟩) Ds.length c3, .slice (some ⟨b4, o4, none⟩) Hs.length c4] 31) = W := ⟨_, rfl⟩
  have hB0 : Below w.heap.size w W0 := by rw [← hW0]; exact (Below.refl _ _).alloc (Nat.le_refl _) _
  have hA0 : Blk W0 w.heap.size 31 #[.int .i64 X, .int .i64 Y, .slice (some ⟨b2, o2, none⟩) T.length c2, .slice (some ⟨b3, o3, none⟩) Ds.length c3, .slice (some ⟨b4, o4, none⟩) Hs.length c4] := by rw [← hW0]; exact Blk.new _ _ _
  have z0 := hA0.cell 0
  have z1 := hA0.cell 1
  have z2 := hA0.cell 2
  have z3 := hA0.cell 3
  have z4 := hA0.cell 4
  simp only [List.getElem?_toArray, List.getElem?_cons_succ, List.getElem?_cons_zero] at z0 z1 z2 z3 z4
  have y2 := cell_kept ht hB0
  have y3 := cell_kept hu3 hB0
  have y4 := cell_kept hu4 hB0
  have HW := hide hW0
  have HB := hide hB0
  have HBD : Hid (∀ V, Below W0.heap.size W0 V → ∀ p, Below w.heap.size w (V.drewN p)) := fun V hV p => below_drewN (hB0.trans (hV.mono hB0.size)) p
  clear hW0 hB0 hA0 ht hu3 hu4 hCD hCP
  have hn0 : 0 < X * Y := Int.mul_pos (by omega) (by omega)
  have hn1 : X * Y ≤ 1600 := by
    have : X * Y ≤ 40 * 40 := Int.mul_le_mul (by omega) (by omega) (by omega) (by omega)
    omega
  obtain ⟨n, hn⟩ : ∃ n : Nat, X * Y = n := ⟨(X * Y).toNat, by omega⟩
  have HN := hide hn
  have hnb : (n : Int) ≤ 1600 := by omega
  have hnp : 0 < n := by omega
  have hii : (i : Int) < (T.length : Int) := by omega
  have hidi : (i : Int) < (Ds.length : Int) := by omega
  have hihi : (i : Int) < (Hs.length : Int) := by omega
  clear hn0 hn1 hx0 hx1 hy0 hy1 hi hid hih hmv
  by_cases q5 : ¬ (D.length : Int) = (n : Int)
  · have t5 : ((D.length : Int) != (n : Int)) = true := by rw [bne_iff_ne]; exact q5
    have HR : Hid (¬ RowOk X Y t D P) := fun h => q5 (by rw [← HN.out]; exact h.dl)
    have hW := HW.out
    clear q5
    go_enter Tryd.func70, Tryd.ntmps70
    go_wp2
    go_ret
    exact ⟨Ans.no HR.out, HB.out⟩
  have t5 : ((D.length : Int) != (n : Int)) = false := by rw [bne_eq_false_iff_eq]; omega
  have HQ5 : Hid (D.length = n) := by show _ = _; omega
  clear q5
  by_cases q6 : ¬ (P.length : Int) = (n : Int)
  · have t6 : ((P.length : Int) != (n : Int)) = true := by rw [bne_iff_ne]; exact q6
    have HR : Hid (¬ RowOk X Y t D P) := fun h => q6 (by rw [← HN.out]; exact h.pl)
    have hW := HW.out
    clear q6
    go_enter Tryd.func70, Tryd.ntmps70
    go_wp2
    go_ret
    exact ⟨Ans.no HR.out, HB.out⟩
  have t6 : ((P.length : Int) != (n : Int)) = false := by rw [bne_eq_false_iff_eq]; omega
  have HQ6 : Hid (P.length = n) := by show _ = _; omega
  have HVT := hide (fun (c : Nat) V (hV : Below w.heap.size w V) (hc : c < n) => HVS.out c V hV (by rw [HN.out, HQ5.out]) (by rw [HN.out, HQ6.out]) (by rw [HN.out]; omega))
  clear q6 HVS
  obtain rfl := hAD (by have := HQ5.out; omega)
  obtain rfl := hAP (by have := HQ6.out; omega)
  have hW := HW.out
  go_enter Tryd.func70, Tryd.ntmps70
  go_wp2
  clear t5 t6 hn hW hAD hAP y2 y3 y4
  go_loopw [31] (fun ix wr => ∃ k : Nat, k ≤ n ∧ ix = .int .i64 k ∧ (∀ c, c < k → StepOk X Y t D P c) ∧ Below W0.heap.size W0 wr) (fun ix _ => n - (intOf ix).toNat)
  case atStart => exact ⟨0, Nat.zero_le _, rfl, fun _ h => absurd h (Nat.not_lt_zero _), Below.refl _ _⟩
  case round =>
    obtain ⟨k, hk, rfl, hst, hbw⟩ := hrel
    rename World => V
    have HST := hide hst
    have x0 := cell_kept z0 hbw
    have x1 := cell_kept z1 hbw
    have x2 := cell_kept z2 hbw
    have x3 := cell_kept z3 hbw
    have x4 := cell_kept z4 hbw
    have HBV := hide hbw
    have HBE := hide (HBD.out V hbw 0)
    clear hst hbw z0 z1 z2 z3 z4
    by_cases hlt : k < n
    · have hlti : (k : Int) < (n : Int) := by omega
      have HKN : Hid ((k : Int) < X * Y) := by show _ < _; rw [HN.out]; exact hlti
      have HNX : Hid (StepOk X Y t D P k → ∀ c, c < k + 1 → StepOk X Y t D P c) := fun h c hc => by
        by_cases e : c = k
        · rw [e]; exact h
        · exact HST.out c (by omega)
      have HNO : Hid (¬ StepOk X Y t D P k → ¬ RowOk X Y t D P) := fun h h2 => h (h2.each k HKN.out)
      have HCA := hide (HVT.out k V HBE.out hlt)
      clear HST
      go_wp2_with fail
      refine HCA.out.mono ?_
      rintro e w5 ⟨⟨b1, rfl, hi1⟩, hb5⟩
      have HB5 : Hid (Below W0.heap.size W0 w5) := HBV.out.trans (hb5.mono HBV.out.size)
      have HE5 := hide (HBD.out w5 HB5.out 0)
      have HI1 := hide hi1
      clear hb5 hi1
      cases b1 with
      | false =>
        have HR := hide (HNO.out (fun h => by have := HI1.out.2 h; cases this))
        go_wp2
        go_ret
        exact ⟨Ans.no HR.out, HE5.out⟩
      | true =>
        have HOK := hide (HNX.out (HI1.out.1 rfl))
        go_wp2
        go_roundw
        case rel => exact ⟨k + 1, by omega, by go_num, HOK.out, HB5.out⟩
        case measure => simp [intOf]; omega
    · have hge : ¬ (k : Int) < (n : Int) := by omega
      have HOK : Hid (RowOk X Y t D P) := ⟨by rw [HN.out, HQ5.out], by rw [HN.out, HQ6.out], fun c hc => HST.out c (by rw [HN.out] at hc; omega)⟩
      go_wp2
      go_ret
      exact ⟨Ans.yes HOK.out, HBE.out⟩
end Go.Proofs.YteicpjbeihabnaaDoor

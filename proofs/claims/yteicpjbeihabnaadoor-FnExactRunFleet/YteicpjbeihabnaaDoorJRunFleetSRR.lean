/-
  The walk of spec.RunFleet.
-/
import Derived.Test.YteicpjbeihabnaaDoorJRunFleetSTF
import Derived.Test.YteicpjbeihabnaaDoorJRunFleetSTF
namespace Go.Proofs.YteicpjbeihabnaaDoor
open Go.RowKit

/-- How many ticks are left. -/
def msr (n O : Nat) (w : World) : Nat := match w.cell? ⟨O, 1, none⟩ with
  | some v => n - (intOf v).toNat
  | none => 0
theorem msr_at {n O m : Nat} {w : World} {a b : Value} {t : TypeId} (h : Blk w O t #[a, .int .i64 m, b]) : msr n O w = n - m := by
  have h1 := h.cell 1
  simp only [List.getElem?_toArray, List.getElem?_cons_succ, List.getElem?_cons_zero] at h1
  unfold msr
  rw [h1]
  simp [intOf]

set_option maxHeartbeats 4000000 in
set_option maxRecDepth 1000000 in
theorem specRn_one (tk : Int) (d : Tb) (v2 v3 v4 : Value) (L : List Ro) (u : Value) (w : World) (hb : TbB d) (hL : L.length ≤ 1048576) (h : TbV w d v2 v3 v4) (hu : RoS w u L) (hnn : Nn u) :
    Calls Tryd.prog 33 #[tbagg d v2 v3 v4, u, .int .i64 tk] w fun e w' => ∃ v, e = .returned (rnagg (rnC tk d L) (rnT tk d L) v) ∧ RoS w' v (rnF tk d L) ∧ Below w.heap.size w w' := by
  have HNF := hide (fun V (hV : Below w.heap.size w V) => specVF_any d v2 v3 v4 L u V hb hL (h.below hV) (hu.below hV))
  have HTK := hide (fun (P : List Ro) (p : Value) V (hV : Below w.heap.size w V) hp hn hok => l8tick_any d v2 v3 v4 P p V hb (h.below hV) hp hn hok)
  have HUS := hide hu
  have HNN := hide hnn
  obtain ⟨au, cu, rfl⟩ := hu.slice
  obtain ⟨a2, c2, rfl⟩ := h.targets.slice
  obtain ⟨a3, c3, rfl⟩ := h.dist.slice
  obtain ⟨a4, c4, rfl⟩ := h.hop.slice
  clear h hb hu hnn
  unfold tbagg at HNF HTK ⊢
  obtain ⟨X, Y, T, Ds, Hs⟩ := d
  simp only at HNF HTK ⊢
  obtain ⟨W0, hW0⟩ : ∃ W, (w.alloc (.cells #[.int .i64 X, .int .i64 Y, .slice a2 T.length c2, .slice a3 Ds.length c3, .slice a4 Hs.length c4] 31)).alloc (.cells #[.int .i64 0, .int .i64 0, .slice none 0 0] 57) = W := ⟨_, rfl⟩
  have hB0 : Below w.heap.size w W0 := by rw [← hW0]; exact ((Below.refl _ _).alloc (Nat.le_refl _) _).alloc (by simp) _
  have hA0 : Blk W0 w.heap.size 31 #[.int .i64 X, .int .i64 Y, .slice a2 T.length c2, .slice a3 Ds.length c3, .slice a4 Hs.length c4] := by rw [← hW0]; exact (Blk.new _ _ _).alloc _
  have hA1 : Blk W0 (w.heap.size + 1) 57 #[.int .i64 0, .int .i64 0, .slice none 0 0] := by
    rw [← hW0]
    have e : (w.alloc (.cells #[.int .i64 X, .int .i64 Y, .slice a2 T.length c2, .slice a3 Ds.length c3, .slice a4 Hs.length c4] 31)).heap.size = w.heap.size + 1 := by simp
    rw [← e]
    exact Blk.new _ _ _
  have HA1 := hide hA1
  have HA0 := hide hA0
  have z0 := hA0.cell 0
  have z1 := hA0.cell 1
  have z2 := hA0.cell 2
  have z3 := hA0.cell 3
  have z4 := hA0.cell 4
  simp only [List.getElem?_toArray, List.getElem?_cons_succ, List.getElem?_cons_zero] at z0 z1 z2 z3 z4
  have HB := hide hB0
  have HTC := hide (HNF.out W0 hB0)
  have hW := hW0
  clear hW0 hB0 HNF hA0 hA1
  go_enter Tryd.func33, Tryd.ntmps33
  go_wp2_with fail
  refine HTC.out.mono ?_
  rintro e w1 ⟨⟨ok, rfl, hoi⟩, hb1⟩
  have HB1 : Hid (Below w.heap.size w w1) := HB.out.trans (hb1.mono HB.out.size)
  have HT1 := hide (HA0.out.below hb1)
  have HR1 := hide (HA1.out.below hb1)
  have HOI := hide hoi
  have HR1s : Hid (w.heap.size + 1 < w1.heap.size) := HR1.out.lt
  clear hb1 z0 z1 z2 z3 z4 hW HTC hoi HA0 HA1
  have q0 := HR1.out.cell 0
  have q1 := HR1.out.cell 1
  have q2 := HR1.out.cell 2
  simp only [List.getElem?_toArray, List.getElem?_cons_succ, List.getElem?_cons_zero] at q0 q1 q2
  have f0 := HR1.out.frozen 0
  have f1 := HR1.out.frozen 1
  have f2 := HR1.out.frozen 2
  cases ok with
  | false =>
    have HR : Hid (¬ RnIn tk ⟨X, Y, T, Ds, Hs⟩ L) := fun h => by have := HOI.out.2 h.1; cases this
    go_wp2
    (try simp only [Exit.inBlock, Exit.then])
    refine bodyPost_ret (results_cell_row rfl _ _ (w.heap.size + 1) 57 #[.int .i64 1, .int .i64 0, .slice none 0 0] (0, 0) _ rfl (rep_set HR1.out _ _ _) Tryd.underlying57 rfl (by kernel_rfl)) rfl ?_
    refine ⟨.slice none 0 0, ?_, ?_, rep_below HB1.out (by omega) _ _ _⟩
    · unfold rnagg rnC rnT
      rw [rnX_no HR.out]
      rfl
    · unfold rnF
      rw [rnX_no HR.out]
      exact ros_nil _ _
  | true =>
  have HOK := hide (HOI.out.1 rfl)
  by_cases t1 : tk < 0
  · have d1 : decide (tk < 0) = true := decide_eq_true t1
    have HR : Hid (¬ RnIn tk ⟨X, Y, T, Ds, Hs⟩ L) := fun h => by have := h.2.1; omega
    clear t1
    go_wp2
    (try simp only [Exit.inBlock, Exit.then])
    refine bodyPost_ret (results_cell_row rfl _ _ (w.heap.size + 1) 57 #[.int .i64 1, .int .i64 0, .slice none 0 0] (0, 0) _ rfl (rep_set HR1.out _ _ _) Tryd.underlying57 rfl (by kernel_rfl)) rfl ?_
    refine ⟨.slice none 0 0, ?_, ?_, rep_below HB1.out (by omega) _ _ _⟩
    · unfold rnagg rnC rnT
      rw [rnX_no HR.out]
      rfl
    · unfold rnF
      rw [rnX_no HR.out]
      exact ros_nil _ _
  have d1 : decide (tk < 0) = false := decide_eq_false t1
  by_cases t2 : 5000 < tk
  · have d2 : decide (5000 < tk) = true := decide_eq_true t2
    have HR : Hid (¬ RnIn tk ⟨X, Y, T, Ds, Hs⟩ L) := fun h => by have := h.2.2; omega
    clear t1 t2
    go_wp2
    (try simp only [Exit.inBlock, Exit.then])
    refine bodyPost_ret (results_cell_row rfl _ _ (w.heap.size + 1) 57 #[.int .i64 1, .int .i64 0, .slice none 0 0] (0, 0) _ rfl (rep_set HR1.out _ _ _) Tryd.underlying57 rfl (by kernel_rfl)) rfl ?_
    refine ⟨.slice none 0 0, ?_, ?_, rep_below HB1.out (by omega) _ _ _⟩
    · unfold rnagg rnC rnT
      rw [rnX_no HR.out]
      rfl
    · unfold rnF
      rw [rnX_no HR.out]
      exact ros_nil _ _
  have d2 : decide (5000 < tk) = false := decide_eq_false t2
  obtain ⟨n, rfl⟩ : ∃ n : Nat, tk = n := ⟨tk.toNat, by omega⟩
  have HR : Hid (RnIn (n : Int) ⟨X, Y, T, Ds, Hs⟩ L) := ⟨HOK.out, by omega, by omega⟩
  have hn5 : n ≤ 5000 := by omega
  obtain ⟨Q, hQ⟩ : ∃ q, runN ⟨X, Y, T, Ds, Hs⟩ n L 0 = q := ⟨_, rfl⟩
  have HQE : Hid (rnX (n : Int) ⟨X, Y, T, Ds, Hs⟩ L = Q) := by show _ = _; rw [rnX_yes HR.out, hQ]
  have HQ := hide hQ
  have hL30 := HOK.out.len
  clear t1 t2 hQ HOI
  obtain ⟨W2, hW2⟩ : ∃ W, w1.alloc (.cells #[.int .i64 0, .int .i64 0, .slice none 0 0] 57) = W := ⟨_, rfl⟩
  have hb2 : Below w1.heap.size w1 W2 := by rw [← hW2]; exact (Below.refl _ _).alloc (Nat.le_refl _) _
  have hO2 : Blk W2 w1.heap.size 57 #[.int .i64 0, .int .i64 0, .slice none 0 0] := by rw [← hW2]; exact Blk.new _ _ _
  have HO2 := hide hO2
  have HB2 : Hid (Below w.heap.size w W2) := HB1.out.trans (hb2.mono HB1.out.size)
  have HT2 := hide (HT1.out.below hb2)
  have HR2 := hide (HR1.out.below hb2)
  have HU2 := hide (HUS.out.below HB2.out)
  have o2 := hO2.cell 2
  simp only [List.getElem?_toArray, List.getElem?_cons_succ, List.getElem?_cons_zero] at o2
  have HW2 := hide hW2
  clear hW2 hb2 hO2 q0 q1 q2 f0 f1 f2 HT1 HR1 HUS
  go_wp2_with (at_builtin; (try rw [HW2.out]); refine wp_app_ro rfl _ _ rfl W2.heap.size rfl _ L rfl HU2.out HNN.out (by omega) (Nat.le_refl _) ?_)
  intro a' c' W3 hown hna hb3
  obtain ⟨R0, hR0, hRb0⟩ := own_rob hown
  obtain ⟨O, hO⟩ : ∃ O, w1.heap.size = O := ⟨_, rfl⟩
  rw [hO] at HO2 ⊢
  have hOw : w.heap.size + 1 < O := by rw [← hO]; exact HR1s.out
  have HO3 := hide (HO2.out.below hb3)
  have HROB3 := hide hR0
  have HNA := hide hna
  have HT3 := hide (HT2.out.below hb3)
  have HR3 := hide (HR2.out.below hb3)
  have HB3 : Hid (Below w.heap.size w W3) := HB2.out.trans (hb3.mono HB2.out.size)
  have p2 := HO3.out.cell 2
  simp only [List.getElem?_toArray, List.getElem?_cons_succ, List.getElem?_cons_zero] at p2
  have p2f := HO3.out.frozen 2
  have HO4 : Hid (Blk (W3.setCell ⟨O, 2, none⟩ (.slice a' L.length c')) O 57 #[.int .i64 0, .int .i64 (0 : Nat), .slice a' L.length c']) := by
    show Blk _ _ _ _
    have := HO3.out.set 2 (.slice a' L.length c')
    simpa using this
  have HROB4 := hide (HROB3.out.set_other HO3.out (by decide) 2 (.slice a' L.length c'))
  have HT4 := hide (HT3.out.other (b' := O) 2 (.slice a' L.length c') (by omega))
  have HR4 := hide (HR3.out.other (b' := O) 2 (.slice a' L.length c') (by omega))
  have HB4 : Hid (Below w.heap.size w (W3.setCell ⟨O, 2, none⟩ (.slice a' L.length c'))) := HB3.out.setCell (show w.heap.size ≤ O by omega) _
  clear hown hna hb3 hR0 hRb0 hO o2 HW2 HO2 HT2 HR2 HB2 HU2 HNN HB HB1
  go_wp2
  clear p2 p2f d1 d2
  go_loopw [8] (fun _ wr => ∃ (m R : Nat) (P : List Ro) (pa : Option Addr) (pc : Nat), m ≤ n ∧ VfOk ⟨X, Y, T, Ds, Hs⟩ P ∧ runN ⟨X, Y, T, Ds, Hs⟩ (n - m) P m = Q ∧ Blk wr O 57 #[.int .i64 0, .int .i64 m, .slice pa P.length pc] ∧ RobR wr R (.slice pa P.length pc) P ∧ Nn (.slice pa P.length pc) ∧ Blk wr w.heap.size 31 #[.int .i64 X, .int .i64 Y, .slice a2 T.length c2, .slice a3 Ds.length c3, .slice a4 Hs.length c4] ∧ Blk wr (w.heap.size + 1) 57 #[.int .i64 0, .int .i64 0, .slice none 0 0] ∧ Below w.heap.size w wr) (fun _ wr => msr n O wr)
  case atStart => exact ⟨0, R0, L, a', c', Nat.zero_le _, HOK.out, HQ.out, HO4.out, HROB4.out, HNA.out, HT4.out, HR4.out, HB4.out⟩
  case round =>
    obtain ⟨m, R, P, pa, pc, hm, hvp, hrn, hO, hrob, hnn, htb, hrp, hbl⟩ := hrel
    rename World => V
    have HVP := hide hvp
    have HRN := hide hrn
    have HO := hide hO
    have HMV := hide (msr_at (n := n) hO)
    have HROB := hide hrob
    have HNN := hide hnn
    have HTB := hide htb
    have HRP := hide hrp
    have HBE := hide hbl
    have hP30 := hvp.len
    have o0 := hO.cell 0
    have o1 := hO.cell 1
    have o2 := hO.cell 2
    have x0 := htb.cell 0
    have x1 := htb.cell 1
    have x2 := htb.cell 2
    have x3 := htb.cell 3
    have x4 := htb.cell 4
    have r0 := hrp.cell 0
    have r1 := hrp.cell 1
    have r2 := hrp.cell 2
    simp only [List.getElem?_toArray, List.getElem?_cons_succ, List.getElem?_cons_zero] at o0 o1 o2 x0 x1 x2 x3 x4 r0 r1 r2
    have s0 := hrp.frozen 0
    have s1 := hrp.frozen 1
    have s2 := hrp.frozen 2
    have hpa : 0 < P.length → pa = some ⟨R, 0, none⟩ := by
      obtain ⟨a, c, h1, h2⟩ := hrob.slc
      injection h1 with h1 _ _
      intro h0
      rw [h1]
      exact h2 h0
    clear hvp hrn hO hrob hnn htb hrp hbl
    go_wp2
    go_loopw [8, 9] (fun bx ix wr => ∃ i : Nat, i ≤ P.length ∧ ix = .int .i64 i ∧ bx = .bool (allD (P.take i)) ∧ wr = V) (fun _ ix _ => P.length - (intOf ix).toNat)
    case atStart => exact ⟨0, Nat.zero_le _, rfl, rfl, rfl⟩
    case round =>
      obtain ⟨i, hi, rfl, rfl, hww⟩ := hrel
      subst hww
      rename World => V
      by_cases hlt : i < P.length
      · have hlti : (i : Int) < (P.length : Int) := by omega
        obtain rfl := hpa (by omega)
        have hro := HROB.out.each i hlt
        have HTA := hide (take_all hlt)
        obtain ⟨rk, hrk⟩ : ∃ r, P.getD i .zero = r := ⟨_, rfl⟩
        rw [hrk] at hro HTA
        obtain ⟨_, _, _, _, e4⟩ := hro
        obtain ⟨m0, m1, m2, m3, m4⟩ := rk
        simp only at e4 HTA
        obtain ⟨al, hal⟩ : ∃ b, allD (P.take i) = b := ⟨_, rfl⟩
        rw [hal] at HTA ⊢
        clear hrk hal
        cases al with
        | false =>
          go_wp2
          go_roundw
          case rel => exact ⟨i + 1, by omega, by go_num, by rw [HTA.out]; rfl, by first | rfl | trivial⟩
          case measure => simp [intOf]; omega
        | true =>
          go_wp2
          go_roundw
          case rel => exact ⟨i + 1, by omega, by go_num, by rw [HTA.out]; rfl, by first | rfl | trivial⟩
          case measure => simp [intOf]; omega
      · have hge : ¬ (i : Int) < (P.length : Int) := by omega
        obtain rfl : i = P.length := by omega
        rw [List.take_length]
        obtain ⟨al, hal⟩ : ∃ b, allD P = b := ⟨_, rfl⟩
        rw [hal]
        have HAL := hide hal
        clear hal
        cases al with
        | true =>
          have HE : Hid (Q = (0, m, P)) := by show _ = _; rw [← HRN.out]; exact runN_all HAL.out _ _
          go_wp2
          (try simp only [Exit.inBlock, Exit.then])
          refine bodyPost_ret (results_cell_row rfl _ _ (w.heap.size + 1) 57 #[.int .i64 0, .int .i64 m, .slice pa P.length pc] (0, 0) _ rfl (rep_set HRP.out _ _ _) Tryd.underlying57 rfl (by kernel_rfl)) rfl ?_
          refine ⟨.slice pa P.length pc, ?_, ?_, rep_below HBE.out (by omega) _ _ _⟩
          · unfold rnagg rnC rnT
            rw [HQE.out, HE.out]
            first | done | rfl | simp
          · unfold rnF
            rw [HQE.out, HE.out]
            exact (RobR.rd (RobR.keep HROB.out (fun h0 => rep_blk _ _ _ (rob_ne HROB.out h0 HRP.out (by decide)) _ _ _)))
        | false =>
        have v0 := HO.out.frozen 0
        have v1 := HO.out.frozen 1
        have v2 := HO.out.frozen 2
        by_cases qm : m = n
        · have tm : decide ((n : Int) ≤ (m : Int)) = true := decide_eq_true (by omega)
          have tm2 : decide (n ≤ m) = true := decide_eq_true (by omega)
          have HE : Hid (Q = (7, m, P)) := by
            show _ = _
            rw [← HRN.out, show n - m = 0 by omega]
            exact runN_end HAL.out _
          have HRP7 := hide (HRP.out.other (b' := O) 0 (.int .i64 7) (by omega))
          have HROB7 := hide (HROB.out.set_other HO.out (by decide) 0 (.int .i64 7))
          have HBE7 : Hid (Below w.heap.size w (V.setCell ⟨O, 0, none⟩ (.int .i64 7))) := HBE.out.setCell (show w.heap.size ≤ O by omega) _
          clear qm
          go_wp2
          (try simp only [Exit.inBlock, Exit.then])
          refine bodyPost_ret (results_cell_row rfl _ _ (w.heap.size + 1) 57 #[.int .i64 7, .int .i64 m, .slice pa P.length pc] (0, 0) _ rfl (rep_set HRP7.out _ _ _) Tryd.underlying57 rfl (by kernel_rfl)) rfl ?_
          refine ⟨.slice pa P.length pc, ?_, ?_, rep_below HBE7.out (by omega) _ _ _⟩
          · unfold rnagg rnC rnT
            rw [HQE.out, HE.out]
            first | done | rfl | simp
          · unfold rnF
            rw [HQE.out, HE.out]
            exact (RobR.rd (RobR.keep HROB7.out (fun h0 => rep_blk _ _ _ (rob_ne HROB7.out h0 HRP7.out (by decide)) _ _ _)))
        have tm : decide ((n : Int) ≤ (m : Int)) = false := decide_eq_false (by omega)
        have tm2 : decide (n ≤ m) = false := decide_eq_false (by omega)
        obtain ⟨j, hj⟩ : ∃ j, n - m = j + 1 := ⟨n - m - 1, by omega⟩
        have hmn : m < n := by omega
        rw [hj] at HRN
        have HTU := hide (HTK.out P (.slice pa P.length pc) V HBE.out HROB.out.rd HNN.out HVP.out)
        obtain ⟨TS, hTS⟩ : ∃ x, tick ⟨X, Y, T, Ds, Hs⟩ P = x := ⟨_, rfl⟩
        have HVT := hide HVP.out.tick
        have HON := hide (fun hs => runN_on (d := ⟨X, Y, T, Ds, Hs⟩) HAL.out hs j m)
        have HSK := hide (fun hs => runN_stuck (d := ⟨X, Y, T, Ds, Hs⟩) HAL.out hs j m)
        rw [hTS] at HTU HVT HON HSK
        have HJ := hide hj
        obtain ⟨PT, sb⟩ := TS
        simp only at HTU HVT HON HSK
        clear hTS hj qm
        go_wp2_with fail
        refine HTU.out.mono ?_
        rintro e w5 ⟨vn, R5, rfl, hrob5, hnn5, _, hb5⟩
        obtain ⟨an, cn, hvn, _⟩ := hrob5.slc
        subst hvn
        have HROB5 := hide hrob5
        have HNN5 := hide hnn5
        have HO5 := hide (HO.out.below hb5)
        have HTB5 := hide (HTB.out.below hb5)
        have HRP5 := hide (HRP.out.below hb5)
        have HBE5 : Hid (Below w.heap.size w w5) := HBE.out.trans (hb5.mono HBE.out.size)
        clear hrob5 hnn5 hb5 o0 o1 o2 x0 x1 x2 x3 x4 r0 r1 r2 s0 s1 s2 v0 v1 v2 HTU HROB HO HTB HRP HNN hpa
        have HO6 : Hid (Blk ((w5.setCell ⟨O, 2, none⟩ (.slice an PT.length cn)).setCell ⟨O, 1, none⟩ (.int .i64 ((m : Int) + 1))) O 57 #[.int .i64 0, .int .i64 ((m + 1 : Nat) : Int), .slice an PT.length cn]) := by
          show Blk _ _ _ _
          have := (HO5.out.set 2 (.slice an PT.length cn)).set 1 (.int .i64 ((m : Int) + 1))
          simpa using this
        have HO5a := hide (HO5.out.set 2 (.slice an PT.length cn))
        have HROB6 := hide ((HROB5.out.set_other HO5.out (by decide) 2 (.slice an PT.length cn)).set_other HO5a.out (by decide) 1 (.int .i64 ((m : Int) + 1)))
        have HTB6 := hide ((HTB5.out.other (b' := O) 2 (.slice an PT.length cn) (by omega)).other (b' := O) 1 (.int .i64 ((m : Int) + 1)) (by omega))
        have HRP6 := hide ((HRP5.out.other (b' := O) 2 (.slice an PT.length cn) (by omega)).other (b' := O) 1 (.int .i64 ((m : Int) + 1)) (by omega))
        have HBE6 : Hid (Below w.heap.size w ((w5.setCell ⟨O, 2, none⟩ (.slice an PT.length cn)).setCell ⟨O, 1, none⟩ (.int .i64 ((m : Int) + 1)))) := (HBE5.out.setCell (show w.heap.size ≤ O by omega) _).setCell (show w.heap.size ≤ O by omega) _
        have o0 := HO5.out.cell 0
        have o1 := HO5.out.cell 1
        have o2 := HO5.out.cell 2
        have r0 := HRP5.out.cell 0
        have r1 := HRP5.out.cell 1
        have r2 := HRP5.out.cell 2
        simp only [List.getElem?_toArray, List.getElem?_cons_succ, List.getElem?_cons_zero] at o0 o1 o2 r0 r1 r2
        have s0 := HRP5.out.frozen 0
        have s1 := HRP5.out.frozen 1
        have s2 := HRP5.out.frozen 2
        have v0 := HO5.out.frozen 0
        have v1 := HO5.out.frozen 1
        have v2 := HO5.out.frozen 2
        cases sb with
        | true =>
          have HX2 : Hid (runN ⟨X, Y, T, Ds, Hs⟩ (n - (m + 1)) PT (m + 1) = Q) := by
            show _ = _
            rw [← HRN.out, HON.out rfl, show n - (m + 1) = j by have := HJ.out; omega]
          have HMS : Hid (msr n O ((w5.setCell ⟨O, 2, none⟩ (.slice an PT.length cn)).setCell ⟨O, 1, none⟩ (.int .i64 ((m : Int) + 1))) < n - m) := by
            show _ < _
            rw [msr_at HO6.out]
            omega
          go_wp2
          go_roundw
          case rel => exact ⟨m + 1, R5, PT, an, cn, by omega, HVT.out, HX2.out, HO6.out, HROB6.out, HNN5.out, HTB6.out, HRP6.out, HBE6.out⟩
          case measure =>
            have h1 := HMS.out
            rw [HMV.out]
            exact h1
        | false =>
          have HE : Hid (Q = (12, m + 1, PT)) := by show _ = _; rw [← HRN.out]; exact HSK.out rfl
          have HRP7 := hide (HRP6.out.other (b' := O) 0 (.int .i64 12) (by omega))
          have HROB7 := hide (HROB6.out.set_other HO6.out (by decide) 0 (.int .i64 12))
          have HBE7 : Hid (Below w.heap.size w (((w5.setCell ⟨O, 2, none⟩ (.slice an PT.length cn)).setCell ⟨O, 1, none⟩ (.int .i64 ((m : Int) + 1))).setCell ⟨O, 0, none⟩ (.int .i64 12))) := HBE6.out.setCell (show w.heap.size ≤ O by omega) _
          go_wp2
          (try simp only [Exit.inBlock, Exit.then])
          refine bodyPost_ret (results_cell_row rfl _ _ (w.heap.size + 1) 57 #[.int .i64 12, .int .i64 ((m : Int) + 1), .slice an PT.length cn] (0, 0) _ rfl (rep_set HRP7.out _ _ _) Tryd.underlying57 rfl (by kernel_rfl)) rfl ?_
          refine ⟨.slice an PT.length cn, ?_, ?_, rep_below HBE7.out (by omega) _ _ _⟩
          · unfold rnagg rnC rnT
            rw [HQE.out, HE.out]
            first | done | rfl | simp
          · unfold rnF
            rw [HQE.out, HE.out]
            exact (RobR.rd (RobR.keep HROB7.out (fun h0 => rep_blk _ _ _ (rob_ne HROB7.out h0 HRP7.out (by decide)) _ _ _)))

theorem specRn_any (tk : Int) (d : Tb) (v2 v3 v4 : Value) (L : List Ro) (u : Value) (w : World) (hb : TbB d) (hL : L.length ≤ 1048576) (h : TbV w d v2 v3 v4) (hu : RoS w u L) (hnn : Nn u) :
    Calls Tryd.prog 33 #[tbagg d v2 v3 v4, u, .int .i64 tk] w fun e w' => ∃ v, e = .returned (.agg #[.int .i64 (rnC tk d L), .int .i64 (rnT tk d L), v]) ∧ RoS w' v (rnF tk d L) ∧ Below w.heap.size w w' := specRn_one tk d v2 v3 v4 L u w hb hL h hu hnn
end Go.Proofs.YteicpjbeihabnaaDoor

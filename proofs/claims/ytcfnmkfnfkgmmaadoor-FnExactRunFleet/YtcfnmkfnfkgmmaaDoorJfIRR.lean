/-
  The walk of impl.RunFleet.
-/
import Derived.Test.YtcfnmkfnfkgmmaaDoorJfITK
import Derived.Test.YtcfnmkfnfkgmmaaDoorJfSTF
namespace Go.Proofs.YtcfnmkfnfkgmmaaDoor
open Go.RowKit

set_option maxHeartbeats 4000000 in
set_option maxRecDepth 1000000 in
theorem implRn_one (tk : Int) (d : Tb) (v2 v3 v4 : Value) (L : List Ro) (u : Value) (w : World) (hb : TbB d) (hL : L.length ≤ 1048576) (hd : TbL d) (hRo : RoL L) (hmv : MvOk w) (hT : Lib.Utf8Tabs 2 3 w) (h : TbV w d v2 v3 v4) (hu : RoS w u L) :
    Calls Tryd.prog 34 #[tbagg d v2 v3 v4, u, .int .i64 tk] w fun e w' => ∃ v, e = .returned (rnagg (rnC tk d L) (rnT tk d L) v) ∧ RoNw w w' v (rnF tk d L) ∧ Below w.heap.size w w' := by
  have HNF := hide (fun V (hV : Below w.heap.size w V) => newFleet_any d v2 v3 v4 L u V hb hL hd hRo (hmv.below hV) (Utf8Tabs_below hT hV) (h.below hV) (hu.below hV))
  have HTK := hide (fun rv (n : Nat) F R M W V (hW : Below w.heap.size w W) hV hf hR hM hRV hok hn => run_any d v2 v3 v4 rv L n F R M W V hb (hmv.below hW) (h.below hW) hV hf hR hM hRV hok hn)
  obtain ⟨au, cu, rfl⟩ := hu.slice
  obtain ⟨a2, c2, rfl⟩ := h.targets.slice
  obtain ⟨a3, c3, rfl⟩ := h.dist.slice
  obtain ⟨a4, c4, rfl⟩ := h.hop.slice
  clear h hb hu hRo hd hmv hT
  unfold tbagg at HNF ⊢
  obtain ⟨X, Y, T, Ds, Hs⟩ := d
  simp only at HNF ⊢
  obtain ⟨W0, hW0⟩ : ∃ W, (w.alloc (.cells #[.int .i64 X, .int .i64 Y, .slice a2 T.length c2, .slice a3 Ds.length c3, .slice a4 Hs.length c4] 31)).alloc (.cells #[.int .i64 0, .int .i64 0, .slice none 0 0] 57) = W := ⟨_, rfl⟩
  have hB0 : Below w.heap.size w W0 := by rw [← hW0]; exact ((Below.refl _ _).alloc (Nat.le_refl _) _).alloc (by simp) _
  have hA0 : Blk W0 w.heap.size 31 #[.int .i64 X, .int .i64 Y, .slice a2 T.length c2, .slice a3 Ds.length c3, .slice a4 Hs.length c4] := by rw [← hW0]; exact (Blk.new _ _ _).alloc _
  have hA1 : Blk W0 (w.heap.size + 1) 57 #[.int .i64 0, .int .i64 0, .slice none 0 0] := by
    rw [← hW0]
    have e : (w.alloc (.cells #[.int .i64 X, .int .i64 Y, .slice a2 T.length c2, .slice a3 Ds.length c3, .slice a4 Hs.length c4] 31)).heap.size = w.heap.size + 1 := by simp
    rw [← e]
    exact Blk.new _ _ _
  have HA1 := hide hA1
  have hz1 := hA1.lt
  have z0 := hA0.cell 0
  have z1 := hA0.cell 1
  have z2 := hA0.cell 2
  have z3 := hA0.cell 3
  have z4 := hA0.cell 4
  simp only [List.getElem?_toArray, List.getElem?_cons_succ, List.getElem?_cons_zero] at z0 z1 z2 z3 z4
  have HB := hide hB0
  have HTC := hide (HNF.out W0 hB0)
  have hW := hW0
  clear hW0 hB0 HNF hA0 hA1
  go_enter Tryd.func34, Tryd.ntmps34
  go_wp2_with fail
  refine HTC.out.mono ?_
  rintro e w1 ⟨hn, hb1⟩
  have HB1 : Hid (Below w.heap.size w w1) := HB.out.trans (hb1.mono HB.out.size)
  have HB01 := hide hb1
  clear hb1 z0 z1 z2 z3 z4 hW HTC
  have HR1 := hide (HA1.out.below HB01.out)
  have q0 := HR1.out.cell 0
  have q1 := HR1.out.cell 1
  have q2 := HR1.out.cell 2
  simp only [List.getElem?_toArray, List.getElem?_cons_succ, List.getElem?_cons_zero] at q0 q1 q2
  have f0 := HR1.out.frozen 0
  have f1 := HR1.out.frozen 1
  have f2 := HR1.out.frozen 2
  rcases hn with ⟨hno, rfl⟩ | ⟨hyes, F, R, M, rv, rfl, hfl, hF, hR, hM⟩
  · have HR : Hid (¬ RnIn tk ⟨X, Y, T, Ds, Hs⟩ L) := fun h => hno h.1
    clear hno
    go_wp2
    (try simp only [Exit.inBlock, Exit.then])
    refine bodyPost_ret (results_cell_row rfl _ _ (w.heap.size + 1) 57 #[.int .i64 1, .int .i64 0, .slice none 0 0] (0, 0) _ rfl (rep_set HR1.out _ _ _) Tryd.underlying57 rfl (by kernel_rfl)) rfl ?_
    refine ⟨.slice none 0 0, ?_, ?_, rep_below HB1.out (by omega) _ _ _⟩
    · unfold rnagg rnC rnT
      rw [rnX_no HR.out]
      rfl
    · unfold rnF
      rw [rnX_no HR.out]
      exact ro_nil _ _ _
  have HOK := hide hyes
  by_cases t1 : tk < 0
  · have d1 : decide (tk < 0) = true := decide_eq_true t1
    have HR : Hid (¬ RnIn tk ⟨X, Y, T, Ds, Hs⟩ L) := fun h => by have := h.2.1; omega
    clear t1 hyes hfl
    go_wp2
    (try simp only [Exit.inBlock, Exit.then])
    refine bodyPost_ret (results_cell_row rfl _ _ (w.heap.size + 1) 57 #[.int .i64 1, .int .i64 0, .slice none 0 0] (0, 0) _ rfl (rep_set HR1.out _ _ _) Tryd.underlying57 rfl (by kernel_rfl)) rfl ?_
    refine ⟨.slice none 0 0, ?_, ?_, rep_below HB1.out (by omega) _ _ _⟩
    · unfold rnagg rnC rnT
      rw [rnX_no HR.out]
      rfl
    · unfold rnF
      rw [rnX_no HR.out]
      exact ro_nil _ _ _
  have d1 : decide (tk < 0) = false := decide_eq_false t1
  by_cases t2 : 5000 < tk
  · have d2 : decide (5000 < tk) = true := decide_eq_true t2
    have HR : Hid (¬ RnIn tk ⟨X, Y, T, Ds, Hs⟩ L) := fun h => by have := h.2.2; omega
    clear t1 t2 hyes hfl
    go_wp2
    (try simp only [Exit.inBlock, Exit.then])
    refine bodyPost_ret (results_cell_row rfl _ _ (w.heap.size + 1) 57 #[.int .i64 1, .int .i64 0, .slice none 0 0] (0, 0) _ rfl (rep_set HR1.out _ _ _) Tryd.underlying57 rfl (by kernel_rfl)) rfl ?_
    refine ⟨.slice none 0 0, ?_, ?_, rep_below HB1.out (by omega) _ _ _⟩
    · unfold rnagg rnC rnT
      rw [rnX_no HR.out]
      rfl
    · unfold rnF
      rw [rnX_no HR.out]
      exact ro_nil _ _ _
  have d2 : decide (5000 < tk) = false := decide_eq_false t2
  obtain ⟨n, rfl⟩ : ∃ n : Nat, tk = n := ⟨tk.toNat, by omega⟩
  have HR : Hid (RnIn (n : Int) ⟨X, Y, T, Ds, Hs⟩ L) := ⟨hyes, by omega, by omega⟩
  have HTI := hide (HTK.out rv n F R M W0 w1 HB.out HB01.out hfl hR hM (fun h0 => by obtain ⟨cur, h1, _⟩ := hfl.row.blk h0; exact h1.lt) hyes (by omega))
  have hwR : w.heap.size ≤ R := Nat.le_trans HB.out.size hR
  have HWR := hide hwR
  have HWM : Hid (w.heap.size ≤ M) := Nat.le_trans HB.out.size hM
  have HR0 : Hid (w.heap.size + 1 ≠ R ∧ w.heap.size + 1 ≠ M ∧ w.heap.size + 1 ≠ F) := by show _ ∧ _; omega
  obtain ⟨ar, cr, hrv, _⟩ := hfl.row.slc
  subst hrv
  have HLL := hide (runN_len ⟨X, Y, T, Ds, Hs⟩ n L 0)
  obtain ⟨Q, hQ⟩ : ∃ q, runN ⟨X, Y, T, Ds, Hs⟩ n L 0 = q := ⟨_, rfl⟩
  have HQE : Hid (rnX (n : Int) ⟨X, Y, T, Ds, Hs⟩ L = Q) := by show _ = _; rw [rnX_yes HR.out, hQ]
  rw [hQ] at HTI HLL
  obtain ⟨qc, qm, qL⟩ := Q
  simp only at HTI HLL
  clear hyes hfl hF hR hM hwR HTK hQ t1 t2
  go_wp2_with fail
  refine HTI.out.mono ?_
  rintro e w2 ⟨rfl, hf2, hw2⟩
  have HF2 := hide hf2
  have y5 := hf2.blk.cell 5
  simp only [List.getElem?_toArray, List.getElem?_cons_succ, List.getElem?_cons_zero] at y5
  have HR2 : Hid (Blk w2 (w.heap.size + 1) 57 #[.int .i64 0, .int .i64 0, .slice none 0 0]) := (hw2.blk _ HR1.out.lt (by have := HR0.out; simp; omega)).trans HR1.out
  have HB2 : Hid (Below w.heap.size w w2) := HB1.out.trans (hw2.below (fun g hg => by
    have h1 := HWR.out
    have h2 := HWM.out
    simp at hg
    rcases hg with rfl | rfl
    · exact h1
    · exact h2) HB1.out.size)
  clear q0 q1 q2 f0 f1 f2
  have q0 := HR2.out.cell 0
  have q1 := HR2.out.cell 1
  have q2 := HR2.out.cell 2
  simp only [List.getElem?_toArray, List.getElem?_cons_succ, List.getElem?_cons_zero] at q0 q1 q2
  have f0 := HR2.out.frozen 0
  have f1 := HR2.out.frozen 1
  have f2 := HR2.out.frozen 2
  clear hf2 hw2 HTI
  go_wp2
  (try simp only [Exit.inBlock, Exit.then])
  refine bodyPost_ret (results_cell_row rfl _ _ (w.heap.size + 1) 57 #[.int .i64 qc, .int .i64 qm, .slice ar L.length cr] (0, 0) _ rfl (rep_set HR2.out _ _ _) Tryd.underlying57 rfl (by kernel_rfl)) rfl ?_
  refine ⟨.slice ar L.length cr, ?_, ?_, rep_below HB2.out (by omega) _ _ _⟩
  · unfold rnagg rnC rnT
    rw [HQE.out]
  · unfold rnF
    rw [HQE.out]
    exact (HF2.out.row.keep (fun _ => rep_blk _ _ _ (by have := HR0.out; omega) _ _ _)).rf HWR.out
theorem implRn_any (tk : Int) (d : Tb) (v2 v3 v4 : Value) (L : List Ro) (u : Value) (w : World) (hb : TbB d) (hL : L.length ≤ 1048576) (hd : TbL d) (hRo : RoL L) (hmv : MvOk w) (hT : Lib.Utf8Tabs 2 3 w) (h : TbV w d v2 v3 v4) (hu : RoS w u L) :
    Calls Tryd.prog 34 #[tbagg d v2 v3 v4, u, .int .i64 tk] w fun e w' => ∃ v bl, e = .returned (.agg #[.int .i64 (rnC tk d L), .int .i64 (rnT tk d L), v]) ∧ RoF w' v (rnF tk d L) bl ∧ Fr w w' bl ∧ Below w.heap.size w w' :=
  (implRn_one tk d v2 v3 v4 L u w hb hL hd hRo hmv hT h hu).mono fun _ _ ⟨v, h1, ⟨bl, h2, h3⟩, h4⟩ => ⟨v, bl, h1, h2, h3, h4⟩
end Go.Proofs.YtcfnmkfnfkgmmaaDoor

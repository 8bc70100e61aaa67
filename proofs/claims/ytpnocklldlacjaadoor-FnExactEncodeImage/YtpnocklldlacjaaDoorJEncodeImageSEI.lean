/-
  The walk of spec.EncodeImage.
-/
import Derived.Test.YtpnocklldlacjaaDoorJEncodeImageSIM
namespace Go.Proofs.YtpnocklldlacjaaDoor
open Go.RowKit

set_option maxHeartbeats 4000000 in
set_option maxRecDepth 1000000 in
theorem specEncode_any (d : Tb) (v2 v3 v4 : Value) (w : World) (hb : TbB d) (h : TbV w d v2 v3 v4) :
    Calls Tryd.prog 14 #[tbagg d v2 v3 v4] w fun e w' => ∃ v, e = .returned v ∧ BS w' v (eiF d) ∧ Below w.heap.size w w' := by
  have HVT := hide (fun V (hV : Below w.heap.size w V) => specTables_any d v2 v3 v4 V hb (h.below hV))
  have HIM := hide (fun V (hV : Below w.heap.size w V) hok => l7image_any d v2 v3 v4 V hok (h.below hV))
  obtain ⟨a2, c2, rfl⟩ := h.targets.slice
  obtain ⟨a3, c3, rfl⟩ := h.dist.slice
  obtain ⟨a4, c4, rfl⟩ := h.hop.slice
  clear h hb
  unfold tbagg at HVT HIM ⊢
  obtain ⟨X, Y, T, Ds, Hs⟩ := d
  simp only at HVT HIM ⊢
  obtain ⟨W0, hW0⟩ : ∃ W, w.alloc (.cells #[.int .i64 X, .int .i64 Y, .slice a2 T.length c2, .slice a3 Ds.length c3, .slice a4 Hs.length c4] 30) = W := ⟨_, rfl⟩
  have hB0 : Below w.heap.size w W0 := by rw [← hW0]; exact (Below.refl _ _).alloc (Nat.le_refl _) _
  have hA0 : Blk W0 w.heap.size 30 #[.int .i64 X, .int .i64 Y, .slice a2 T.length c2, .slice a3 Ds.length c3, .slice a4 Hs.length c4] := by rw [← hW0]; exact Blk.new _ _ _
  have z0 := hA0.cell 0
  have z1 := hA0.cell 1
  have z2 := hA0.cell 2
  have z3 := hA0.cell 3
  have z4 := hA0.cell 4
  simp only [List.getElem?_toArray, List.getElem?_cons_succ, List.getElem?_cons_zero] at z0 z1 z2 z3 z4
  have HB := hide hB0
  have HTC := hide (HVT.out W0 hB0)
  have hW := hW0
  clear hW0 hB0 hA0 HVT
  go_enter Tryd.func14, Tryd.ntmps14
  go_wp2_with fail
  refine HTC.out.mono ?_
  rintro e w1 ⟨⟨tb, rfl, hti⟩, hb1⟩
  have HTI := hide hti
  have HB1 : Hid (Below w.heap.size w w1) := HB.out.trans (hb1.mono HB.out.size)
  have y0 := cell_kept z0 hb1
  have y1 := cell_kept z1 hb1
  have y2 := cell_kept z2 hb1
  have y3 := cell_kept z3 hb1
  have y4 := cell_kept z4 hb1
  clear hti hb1 z0 z1 z2 z3 z4 hW HTC
  cases tb with
  | false =>
    have HR : Hid (¬ TbOk ⟨X, Y, T, Ds, Hs⟩) := fun h => by have := HTI.out.2 h; cases this
    go_wp2
    go_ret
    rw [eiF_no HR.out]
    exact ⟨_, rfl, bs_nil _ 0, HB1.out⟩
  | true =>
  have HOK := hide (HTI.out.1 rfl)
  have HM1 := hide (HIM.out w1 HB1.out HOK.out)
  have HLO := hide (im_lo HOK.out)
  have HE : Hid (eiF ⟨X, Y, T, Ds, Hs⟩ = byt (im ⟨X, Y, T, Ds, Hs⟩)) := eiF_yes HOK.out
  go_wp2_with fail
  refine HM1.out.mono ?_
  rintro e w2 ⟨u, rfl, ho, hb2⟩
  have HB2 : Hid (Below w.heap.size w w2) := HB1.out.trans (hb2.mono HB1.out.size)
  have HBS := hide (own_bs ho HLO.out)
  clear ho hb2
  go_wp2
  go_ret
  rw [HE.out]
  exact ⟨_, rfl, HBS.out, HB2.out⟩
end Go.Proofs.YtpnocklldlacjaaDoor

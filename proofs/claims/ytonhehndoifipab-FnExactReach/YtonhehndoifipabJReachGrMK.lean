/-
  The walk of markGraph.
-/
import Derived.Test.YtonhehndoifipabJReachGrF
import Derived.Test.YtonhehndoifipabJReachMKI
namespace Go.Proofs.Ytonhehndoifipab
open Go.RowKit

set_option maxHeartbeats 4000000 in
set_option maxRecDepth 1000000 in
theorem markGr_f {w : World} {d : Gr} {v1 v2 v3 v4 : Value} {bl : List Nat} {k : Nat} (hb : GrB d) (hk : k ≤ 100000000000000) (h : GrF w d v1 v2 v3 v4 bl) (hN : bl.Nodup) :
    Calls Try.prog 12 #[gragg d v1 v2 v3 v4, .int .i64 (k : Nat)] w fun e w' => e = .returned (.int .i64 (k + GrNv d : Nat)) ∧ GrM w' d v1 v2 v3 v4 k bl ∧ Wrs bl w w' := by
  obtain ⟨x0, x1, x2, x3, x4⟩ := d
  have hb1 := hb.start
  have hb2 := hb.to
  have hb3 := hb.dir
  have hb4 := hb.cost
  simp only at hb1 hb2 hb3 hb4
  have HNV : Hid (GrNv ⟨x0, x1, x2, x3, x4⟩ = x1.length + x2.length + x3.length + x4.length) := rfl
  have hc1 : x1.length ≤ 2000000000000 := by omega
  have hc2 : x2.length ≤ 2000000000000 := by omega
  have hc3 : x3.length ≤ 2000000000000 := by omega
  have hc4 : x4.length ≤ 2000000000000 := by omega
  obtain ⟨bl1, bl2, bl3, bl4, hbl, h1, h2, h3, h4⟩ := h
  simp only at h1 h2 h3 h4
  obtain ⟨a1, c1, e1⟩ := h1.slice
  obtain ⟨a2, c2, e2⟩ := h2.slice
  obtain ⟨a3, c3, e3⟩ := h3.slice
  obtain ⟨a4, c4, e4⟩ := h4.slice
  subst e1 e2 e3 e4
  rw [hbl] at hN
  simp only [List.nodup_append, List.mem_append] at hN
  obtain ⟨nd1, ⟨nd2, ⟨nd3, nd4, dj3⟩, dj2⟩, dj1⟩ := hN
  have D1_2 : Hid (∀ g, g ∈ bl2 → g ∉ bl1) := fun g hg hg2 => dj1 g hg2 g (.inl hg) rfl
  have D1_3 : Hid (∀ g, g ∈ bl3 → g ∉ bl1) := fun g hg hg2 => dj1 g hg2 g (.inr (.inl hg)) rfl
  have D1_4 : Hid (∀ g, g ∈ bl4 → g ∉ bl1) := fun g hg hg2 => dj1 g hg2 g (.inr (.inr (hg))) rfl
  have D2_3 : Hid (∀ g, g ∈ bl3 → g ∉ bl2) := fun g hg hg2 => dj2 g hg2 g (.inl hg) rfl
  have D2_4 : Hid (∀ g, g ∈ bl4 → g ∉ bl2) := fun g hg hg2 => dj2 g hg2 g (.inr (hg)) rfl
  have D3_4 : Hid (∀ g, g ∈ bl4 → g ∉ bl3) := fun g hg hg2 => dj3 g hg2 g (hg) rfl
  have HBL := hide hbl
  clear hbl hb dj1 dj2 dj3
  unfold gragg
  simp only
  obtain ⟨W0, hW0⟩ : ∃ W, w.alloc (.cells #[.int .i64 x0, .slice a1 (x1.length) c1, .slice a2 (x2.length) c2, .slice a3 (x3.length) c3, .slice a4 (x4.length) c4] 29) = W := ⟨_, rfl⟩
  have HB0 : Hid (Below w.heap.size w W0) := by rw [← hW0]; exact (Below.refl _ _).alloc (Nat.le_refl _) _
  have HA0 : Hid (Blk W0 w.heap.size 29 #[.int .i64 x0, .slice a1 (x1.length) c1, .slice a2 (x2.length) c2, .slice a3 (x3.length) c3, .slice a4 (x4.length) c4]) := by rw [← hW0]; exact Blk.new _ _ _
  have HZ : Hid ((∀ g ∈ bl1, g < w.heap.size) ∧ (∀ g ∈ bl2, g < w.heap.size) ∧ (∀ g ∈ bl3, g < w.heap.size) ∧ (∀ g ∈ bl4, g < w.heap.size)) := ⟨h1.lt, h2.lt, h3.lt, h4.lt⟩
  have H1_0 := hide (h1.below HB0.out)
  have H2_0 := hide (h2.below HB0.out)
  have H3_0 := hide (h3.below HB0.out)
  have H4_0 := hide (h4.below HB0.out)
  have HW := hide hW0
  clear hW0 h1 h2 h3 h4
  go_enter Try.func12, Try.ntmps12
  go_wp2_with fail
  rw [HW.out]
  clear HW
  refine (markI_f (w := W0) (k := k) (by omega) (by omega) H1_0.out).mono ?_
  rintro e w2 ⟨rfl, hm1, hw2⟩
  have HM1_2 := hide hm1
  have HWR2 := hide hw2
  have hbx2 : w2.heap[w.heap.size]? = W0.heap[w.heap.size]? := hw2.blk _ HA0.out.lt (fun hm => Nat.lt_irrefl _ (HZ.out.1 _ hm))
  have HA2 : Hid (Blk w2 w.heap.size 29 #[.int .i64 x0, .slice a1 (x1.length) c1, .slice a2 (x2.length) c2, .slice a3 (x3.length) c3, .slice a4 (x4.length) c4]) := hbx2.trans HA0.out
  have H2_2 := hide (H2_0.out.keep (fun g hg => hw2.blk g (H2_0.out.lt g hg) (D1_2.out g hg)))
  have H3_2 := hide (H3_0.out.keep (fun g hg => hw2.blk g (H3_0.out.lt g hg) (D1_3.out g hg)))
  have H4_2 := hide (H4_0.out.keep (fun g hg => hw2.blk g (H4_0.out.lt g hg) (D1_4.out g hg)))
  have HT2 : Hid (Wrs (bl1) W0 w2) := hw2
  clear hm1 hw2 hbx2
  obtain ⟨k2, hk2⟩ : ∃ k2, k + x1.length = k2 := ⟨_, rfl⟩
  rw [hk2]
  have HK2 := hide hk2
  have hkb2 : k2 ≤ 103000000000000 := by omega
  clear hk2
  have z2 := HA2.out.cell 2
  simp only [List.getElem?_toArray, List.getElem?_cons_succ, List.getElem?_cons_zero] at z2
  go_wp2_with fail
  clear z2
  refine (markI_f (w := w2) (k := k2) (by omega) (by omega) H2_2.out).mono ?_
  rintro e w3 ⟨rfl, hm2, hw3⟩
  have HM2_3 := hide hm2
  have HWR3 := hide hw3
  have hbx3 : w3.heap[w.heap.size]? = w2.heap[w.heap.size]? := hw3.blk _ HA2.out.lt (fun hm => Nat.lt_irrefl _ (HZ.out.2.1 _ hm))
  have HA3 : Hid (Blk w3 w.heap.size 29 #[.int .i64 x0, .slice a1 (x1.length) c1, .slice a2 (x2.length) c2, .slice a3 (x3.length) c3, .slice a4 (x4.length) c4]) := hbx3.trans HA2.out
  have H3_3 := hide (H3_2.out.keep (fun g hg => hw3.blk g (H3_2.out.lt g hg) (D2_3.out g hg)))
  have H4_3 := hide (H4_2.out.keep (fun g hg => hw3.blk g (H4_2.out.lt g hg) (D2_4.out g hg)))
  have HM1_3 := hide (HM1_2.out.keep (fun g hg => hw3.blk g (HM1_2.out.lt g hg) (fun h => D1_2.out g h hg)))
  clear hm2 hw3 hbx3
  obtain ⟨k3, hk3⟩ : ∃ k3, k2 + x2.length = k3 := ⟨_, rfl⟩
  rw [hk3]
  have HK3 := hide hk3
  have hkb3 : k3 ≤ 106000000000000 := by omega
  clear hk3
  have z3 := HA3.out.cell 3
  simp only [List.getElem?_toArray, List.getElem?_cons_succ, List.getElem?_cons_zero] at z3
  go_wp2_with fail
  clear z3
  refine (markI_f (w := w3) (k := k3) (by omega) (by omega) H3_3.out).mono ?_
  rintro e w4 ⟨rfl, hm3, hw4⟩
  have HM3_4 := hide hm3
  have HWR4 := hide hw4
  have hbx4 : w4.heap[w.heap.size]? = w3.heap[w.heap.size]? := hw4.blk _ HA3.out.lt (fun hm => Nat.lt_irrefl _ (HZ.out.2.2.1 _ hm))
  have HA4 : Hid (Blk w4 w.heap.size 29 #[.int .i64 x0, .slice a1 (x1.length) c1, .slice a2 (x2.length) c2, .slice a3 (x3.length) c3, .slice a4 (x4.length) c4]) := hbx4.trans HA3.out
  have H4_4 := hide (H4_3.out.keep (fun g hg => hw4.blk g (H4_3.out.lt g hg) (D3_4.out g hg)))
  have HM1_4 := hide (HM1_3.out.keep (fun g hg => hw4.blk g (HM1_3.out.lt g hg) (fun h => D1_3.out g h hg)))
  have HM2_4 := hide (HM2_3.out.keep (fun g hg => hw4.blk g (HM2_3.out.lt g hg) (fun h => D2_3.out g h hg)))
  clear hm3 hw4 hbx4
  obtain ⟨k4, hk4⟩ : ∃ k4, k3 + x3.length = k4 := ⟨_, rfl⟩
  rw [hk4]
  have HK4 := hide hk4
  have hkb4 : k4 ≤ 109000000000000 := by omega
  clear hk4
  have z4 := HA4.out.cell 4
  simp only [List.getElem?_toArray, List.getElem?_cons_succ, List.getElem?_cons_zero] at z4
  go_wp2_with fail
  clear z4
  refine (markI_f (w := w4) (k := k4) (by omega) (by omega) H4_4.out).mono ?_
  rintro e w5 ⟨rfl, hm4, hw5⟩
  have HM4_5 := hide hm4
  have HWR5 := hide hw5
  have hbx5 : w5.heap[w.heap.size]? = w4.heap[w.heap.size]? := hw5.blk _ HA4.out.lt (fun hm => Nat.lt_irrefl _ (HZ.out.2.2.2 _ hm))
  have HA5 : Hid (Blk w5 w.heap.size 29 #[.int .i64 x0, .slice a1 (x1.length) c1, .slice a2 (x2.length) c2, .slice a3 (x3.length) c3, .slice a4 (x4.length) c4]) := hbx5.trans HA4.out
  have HM1_5 := hide (HM1_4.out.keep (fun g hg => hw5.blk g (HM1_4.out.lt g hg) (fun h => D1_4.out g h hg)))
  have HM2_5 := hide (HM2_4.out.keep (fun g hg => hw5.blk g (HM2_4.out.lt g hg) (fun h => D2_4.out g h hg)))
  have HM3_5 := hide (HM3_4.out.keep (fun g hg => hw5.blk g (HM3_4.out.lt g hg) (fun h => D3_4.out g h hg)))
  clear hm4 hw5 hbx5
  obtain ⟨k5, hk5⟩ : ∃ k5, k4 + x4.length = k5 := ⟨_, rfl⟩
  rw [hk5]
  have HK5 := hide hk5
  have hkb5 : k5 ≤ 112000000000000 := by omega
  clear hk5
  go_wp2
  go_ret
  have HT : Hid (Wrs (bl1 ++ (bl2 ++ (bl3 ++ (bl4)))) w w5) := by
    exact (((((Wrs.of_below HB0.out).trans (HWR2.out.mono (fun g hg => List.mem_append_left _ hg))).trans (HWR3.out.mono (fun g hg => List.mem_append_right _ (List.mem_append_left _ hg)))).trans (HWR4.out.mono (fun g hg => List.mem_append_right _ (List.mem_append_right _ (List.mem_append_left _ hg))))).trans (HWR5.out.mono (fun g hg => List.mem_append_right _ (List.mem_append_right _ (List.mem_append_right _ (hg))))))
  refine ⟨?_, ⟨bl1, bl2, bl3, bl4, HBL.out, ?_, ?_, ?_, ?_⟩, by rw [HBL.out]; exact HT.out⟩
  · have e2 := HK2.out; have e3 := HK3.out; have e4 := HK4.out; have e5 := HK5.out
    have ek : k + GrNv ⟨x0, x1, x2, x3, x4⟩ = k5 := by rw [HNV.out]; omega
    rw [ek]
    rfl
  · exact HM1_5.out
  · have e2 := HK2.out
    have ek : k + x1.length = k2 := by omega
    simp only
    rw [ek]
    exact HM2_5.out
  · have e2 := HK2.out; have e3 := HK3.out
    have ek : k + x1.length + x2.length = k3 := by omega
    simp only
    rw [ek]
    exact HM3_5.out
  · have e2 := HK2.out; have e3 := HK3.out; have e4 := HK4.out
    have ek : k + x1.length + x2.length + x3.length = k4 := by omega
    simp only
    rw [ek]
    exact HM4_5.out
end Go.Proofs.Ytonhehndoifipab

/-
  The walks of toNode, toNodeS.
-/
import Derived.Test.YtbjaccalloipcaaDoorJVtND2
namespace Go.Proofs.YtbjaccalloipcaaDoor
open Go.RowKit

set_option maxHeartbeats 2000000 in
set_option maxRecDepth 1000000 in
theorem toNd_any (d : Nd) (vt vn vy : Value) (w : World) (h1 : d.text.size ≤ 1048576) (h2 : d.names.length ≤ 1048576) (h3 : ∀ j, j < d.names.length → (d.names.getD j .empty).size ≤ 1048576) (h4 : d.types.length ≤ 1048576) (h : NV w d vt vn vy) :
    Calls Tryd.prog 12 #[nagg d vt vn vy] w fun e w' => ∃ vt' vn' vy', e = .returned (nagg d vt' vn' vy') ∧ (∀ G, G < w.heap.size → NO w' G d vt' vn' vy') ∧ Below w.heap.size w w' := by
  obtain ⟨K, N, T, M, Y, C⟩ := d
  obtain ⟨ht, hm, hy⟩ := h
  simp only at h1 h2 h3 h4 ht hm hy
  unfold nagg
  simp only
  have HM := hide hm
  have HY := hide hy
  have H3 := hide h3
  obtain ⟨W1, hW1⟩ : ∃ W1, ((w.alloc (.cells #[.int .i64 K, .int .i64 N, vt, vn, vy, .int .i64 C] 34)).alloc (.cells #[.int .i64 0, .int .i64 0, .slice none 0 0, .slice none 0 0, .slice none 0 0, .int .i64 0] 35)).alloc (.cells #[.int .i64 K, .int .i64 N, .slice none 0 0, .slice none 0 0, .slice none 0 0, .int .i64 0] 35) = W1 := ⟨_, rfl⟩
  have hb0 : Below w.heap.size w W1 := by
    rw [← hW1]; exact (((Below.refl _ _).alloc (Nat.le_refl _) _).alloc (by simp) _).alloc (by simp; omega) _
  have hA : Blk W1 w.heap.size 34 #[.int .i64 K, .int .i64 N, vt, vn, vy, .int .i64 C] := by
    rw [← hW1]; exact ((Blk.new _ _ _).alloc _).alloc _
  have hO : Blk W1 (w.heap.size + 1 + 1) 35 #[.int .i64 K, .int .i64 N, .slice none 0 0, .slice none 0 0, .slice none 0 0, .int .i64 0] := by
    rw [← hW1]
    have := Blk.new ((w.alloc (.cells #[.int .i64 K, .int .i64 N, vt, vn, vy, .int .i64 C] 34)).alloc (.cells #[.int .i64 0, .int .i64 0, .slice none 0 0, .slice none 0 0, .slice none 0 0, .int .i64 0] 35)) 35 #[.int .i64 K, .int .i64 N, .slice none 0 0, .slice none 0 0, .slice none 0 0, .int .i64 0]
    simpa using this
  have hR : Blk W1 (w.heap.size + 1) 35 #[.int .i64 0, .int .i64 0, .slice none 0 0, .slice none 0 0, .slice none 0 0, .int .i64 0] := by
    rw [← hW1]
    have := (Blk.new (w.alloc (.cells #[.int .i64 K, .int .i64 N, vt, vn, vy, .int .i64 C] 34)) 35 #[.int .i64 0, .int .i64 0, .slice none 0 0, .slice none 0 0, .slice none 0 0, .int .i64 0]).alloc (.cells #[.int .i64 K, .int .i64 N, .slice none 0 0, .slice none 0 0, .slice none 0 0, .int .i64 0] 35)
    simpa using this
  have HR := hide hR
  have HB0 := hide hb0
  have HA := hide hA
  have HO := hide hO
  have HW := hide hW1
  obtain ⟨at_, bt, ot, ct, hvt, hat, hct⟩ := ht.below hb0
  have HT := hide (toB_any at_ bt ot ct T W1 h1 hat hct)
  rw [← hvt] at HT
  clear hm hy h3 hb0 hA hO hR hW1 hat hct ht hvt
  go_enter Tryd.func12, Tryd.ntmps12
  go_wp2_with fail
  rw [HW.out]
  refine HT.out.mono ?_
  rintro e w2 ⟨rfl, hr2, hb2, _⟩
  have HBT : Hid (BO w2 (w.heap.size + 1 + 1) (.slice (some ⟨W1.heap.size, 0, none⟩) T.size T.size) T) := ⟨W1.heap.size, HO.out.lt, by omega, rfl, hr2.frozen, fun j hj => by rw [Nat.zero_add]; exact hr2.cell hj⟩
  obtain ⟨gt, hgt⟩ : ∃ g, W1.heap.size = g := ⟨_, rfl⟩
  have HA2 := hide (HA.out.below hb2)
  have HO2 := hide (HO.out.below hb2)
  have HR2 := hide (HR.out.below hb2)
  have HB2 : Hid (Below w.heap.size w w2) := HB0.out.trans (hb2.mono HB0.out.size)
  rw [hgt] at HBT ⊢
  have c1 := HA2.out.cell 3
  have c2 := HO2.out.cell 2
  have c3 := HO2.out.frozen 2
  simp only [List.getElem?_toArray, List.getElem?_cons_succ, List.getElem?_cons_zero] at c1 c2
  clear hr2 hb2 hgt HT HA HO HW HB0 HR
  go_wp2_with fail
  obtain ⟨W3, hW3⟩ : ∃ W3, w2.setCell ⟨w.heap.size + 1 + 1, 2, none⟩ (.slice (some ⟨gt, 0, none⟩) T.size T.size) = W3 := ⟨_, rfl⟩
  have HA3 : Hid (Blk W3 w.heap.size 34 #[.int .i64 K, .int .i64 N, vt, vn, vy, .int .i64 C]) := by rw [← hW3]; exact HA2.out.other _ _ (by omega)
  have HO3 : Hid (Blk W3 (w.heap.size + 1 + 1) 35 #[.int .i64 K, .int .i64 N, .slice (some ⟨gt, 0, none⟩) T.size T.size, .slice none 0 0, .slice none 0 0, .int .i64 0]) := by rw [← hW3]; exact HO2.out.set 2 _
  have HR3 : Hid (Blk W3 (w.heap.size + 1) 35 #[.int .i64 0, .int .i64 0, .slice none 0 0, .slice none 0 0, .slice none 0 0, .int .i64 0]) := by rw [← hW3]; exact HR2.out.other _ _ (by omega)
  have HT3 : Hid (BO W3 (w.heap.size + 1 + 1) (.slice (some ⟨gt, 0, none⟩) T.size T.size) T) := by rw [← hW3]; exact HBT.out.set
  have HB3 : Hid (Below w.heap.size w W3) := by rw [← hW3]; exact HB2.out.setCell (by show w.heap.size ≤ w.heap.size + 1 + 1; omega) _
  rw [hW3]
  clear hW3 HA2 HO2 HBT HB2 HR2 c1 c2 c3
  refine (toSS_any vn M W3 h2 H3.out (HM.out.below HB3.out)).mono ?_
  rintro e w4 ⟨v4, rfl, hs4, hb4⟩
  have hs4' := hs4 (w.heap.size + 1 + 1) HO3.out.lt
  obtain ⟨gn, cn, rfl⟩ : ∃ g c, v4 = .slice (some ⟨g, 0, none⟩) M.length c := by obtain ⟨g, c, _, _, h, _⟩ := hs4'; exact ⟨g, c, h⟩
  have HS4 := hide hs4'
  have HA4 := hide (HA3.out.below hb4)
  have HO4 := hide (HO3.out.below hb4)
  have HR4 := hide (HR3.out.below hb4)
  have HT4 := hide (HT3.out.below hb4)
  have HB4 : Hid (Below w.heap.size w w4) := HB3.out.trans (hb4.mono HB3.out.size)
  have c1 := HA4.out.cell 4
  have c2 := HO4.out.cell 3
  have c3 := HO4.out.frozen 3
  simp only [List.getElem?_toArray, List.getElem?_cons_succ, List.getElem?_cons_zero] at c1 c2
  clear hs4 hs4' hb4 HA3 HO3 HT3 HB3 HR3
  go_wp2_with fail
  obtain ⟨W5, hW5⟩ : ∃ W5, w4.setCell ⟨w.heap.size + 1 + 1, 3, none⟩ (.slice (some ⟨gn, 0, none⟩) M.length cn) = W5 := ⟨_, rfl⟩
  have HA5 : Hid (Blk W5 w.heap.size 34 #[.int .i64 K, .int .i64 N, vt, vn, vy, .int .i64 C]) := by rw [← hW5]; exact HA4.out.other _ _ (by omega)
  have HO5 : Hid (Blk W5 (w.heap.size + 1 + 1) 35 #[.int .i64 K, .int .i64 N, .slice (some ⟨gt, 0, none⟩) T.size T.size, .slice (some ⟨gn, 0, none⟩) M.length cn, .slice none 0 0, .int .i64 0]) := by rw [← hW5]; exact HO4.out.set 3 _
  have HR5 : Hid (Blk W5 (w.heap.size + 1) 35 #[.int .i64 0, .int .i64 0, .slice none 0 0, .slice none 0 0, .slice none 0 0, .int .i64 0]) := by rw [← hW5]; exact HR4.out.other _ _ (by omega)
  have HT5 : Hid (BO W5 (w.heap.size + 1 + 1) (.slice (some ⟨gt, 0, none⟩) T.size T.size) T) := by rw [← hW5]; exact HT4.out.set
  have HS5 : Hid (SO W5 (w.heap.size + 1 + 1) (.slice (some ⟨gn, 0, none⟩) M.length cn) M) := by rw [← hW5]; exact HS4.out.set
  have HB5 : Hid (Below w.heap.size w W5) := by rw [← hW5]; exact HB4.out.setCell (by show w.heap.size ≤ w.heap.size + 1 + 1; omega) _
  rw [hW5]
  clear hW5 HA4 HO4 HT4 HS4 HB4 HR4 c1 c2 c3
  refine (toI_any vy Y W5 h4 (HY.out.below HB5.out)).mono ?_
  rintro e w6 ⟨v6, rfl, hs6, hb6⟩
  have hs6' := hs6 (w.heap.size + 1 + 1) HO5.out.lt
  obtain ⟨gy, cy, rfl⟩ : ∃ g c, v6 = .slice (some ⟨g, 0, none⟩) Y.length c := by obtain ⟨g, c, _, _, h, _⟩ := hs6'; exact ⟨g, c, h⟩
  have HY6 := hide hs6'
  have HA6 := hide (HA5.out.below hb6)
  have HO6 := hide (HO5.out.below hb6)
  have HR6 := hide (HR5.out.below hb6)
  have HT6 := hide (HT5.out.below hb6)
  have HS6 := hide (HS5.out.below hb6)
  have HB6 : Hid (Below w.heap.size w w6) := HB5.out.trans (hb6.mono HB5.out.size)
  have c1 := HA6.out.cell 5
  have c2 := HO6.out.cell 4
  have c3 := HO6.out.frozen 4
  have c4 := HO6.out.cell 5
  have c5 := HO6.out.frozen 5
  have c6 := HO6.out.cell 0
  have c7 := HO6.out.cell 1
  have c8 := HO6.out.cell 2
  have c9 := HO6.out.cell 3
  have r0 := HR6.out.cell 0
  have s0 := HR6.out.frozen 0
  have r1 := HR6.out.cell 1
  have s1 := HR6.out.frozen 1
  have r2 := HR6.out.cell 2
  have s2 := HR6.out.frozen 2
  have r3 := HR6.out.cell 3
  have s3 := HR6.out.frozen 3
  have r4 := HR6.out.cell 4
  have s4 := HR6.out.frozen 4
  have r5 := HR6.out.cell 5
  have s5 := HR6.out.frozen 5
  simp only [List.getElem?_toArray, List.getElem?_cons_succ, List.getElem?_cons_zero] at c1 c2 c4 c6 c7 c8 c9 r0 r1 r2 r3 r4 r5
  clear hs6 hs6' hb6 HA5 HO5 HT5 HS5 HB5 HR5
  have HN6 : Hid (NO w6 (w.heap.size + 1 + 1) ⟨K, N, T, M, Y, C⟩ (.slice (some ⟨gt, 0, none⟩) T.size T.size) (.slice (some ⟨gn, 0, none⟩) M.length cn) (.slice (some ⟨gy, 0, none⟩) Y.length cy)) := ⟨HT6.out, HS6.out, HY6.out⟩
  go_wp2
  (try simp only [Exit.inBlock, Exit.then])
  refine bodyPost_ret (results_cell_row rfl _ _ (w.heap.size + 1) 35 #[.int .i64 K, .int .i64 N, .slice (some ⟨gt, 0, none⟩) T.size T.size, .slice (some ⟨gn, 0, none⟩) M.length cn, .slice (some ⟨gy, 0, none⟩) Y.length cy, .int .i64 C] (0, 0) _ rfl ?hg Tryd.underlying35 rfl (by kernel_rfl)) rfl ?_
  case hg => exact ((((((((HR6.out.other 4 _ (by omega)).other 5 _ (by omega)).set 0 _).set 1 _).set 2 _).set 3 _).set 4 _).set 5 _)
  refine ⟨_, _, _, rfl, fun G hG => NO.lower (G := w.heap.size + 1 + 1) ?_ (by omega), ?_⟩
  · exact ((((((((HN6.out.setAt (by omega)).setAt (by omega)).setAt (by omega)).setAt (by omega)).setAt (by omega)).setAt (by omega)).setAt (by omega)).setAt (by omega))
  · exact ((((((((HB6.out.setCell (by show w.heap.size ≤ w.heap.size + 1 + 1; omega) _).setCell (by show w.heap.size ≤ w.heap.size + 1 + 1; omega) _).setCell (by show w.heap.size ≤ w.heap.size + 1; omega) _).setCell (by show w.heap.size ≤ w.heap.size + 1; omega) _).setCell (by show w.heap.size ≤ w.heap.size + 1; omega) _).setCell (by show w.heap.size ≤ w.heap.size + 1; omega) _).setCell (by show w.heap.size ≤ w.heap.size + 1; omega) _).setCell (by show w.heap.size ≤ w.heap.size + 1; omega) _)
end Go.Proofs.YtbjaccalloipcaaDoor

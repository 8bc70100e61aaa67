/-
  The walk of toNode, with room.
  The walk of toNodeS, with room.
-/
import Derived.Test.YtdlahabeegmjiaaDoorJCkIKI
namespace Go.Proofs.YtdlahabeegmjiaaDoor
open Go.RowKit

set_option maxHeartbeats 2000000 in
set_option maxRecDepth 1000000 in
theorem toNdc_any (d : Nd) (vt vn vy : Value) (w : World) (h1 : d.text.size ≤ 1048576) (h2 : d.names.length ≤ 1048576) (h3 : ∀ j, j < d.names.length → (d.names.getD j .empty).size ≤ 1048576) (h4 : d.types.length ≤ 1048576) (h : NV w d vt vn vy) :
    Calls Tryd.prog 14 #[nagg d vt vn vy] w fun e w' => ∃ vt' vn' vy', e = .returned (nagg d vt' vn' vy') ∧ (∀ G, G < w.heap.size → NOc w' G d vt' vn' vy') ∧ Below w.heap.size w w' := by
  obtain ⟨K, N, T, M, Y, C⟩ := d
  obtain ⟨ht, hm, hy⟩ := h
  simp only at h1 h2 h3 h4 ht hm hy
  unfold nagg
  simp only
  have HM := hide hm
  have HY := hide hy
  have H3 := hide h3
  obtain ⟨W1, hW1⟩ : ∃ W1, ((w.alloc (.cells #[.int .i64 K, .int .i64 N, vt, vn, vy, .int .i64 C] 35)).alloc (.cells #[.int .i64 0, .int .i64 0, .slice none 0 0, .slice none 0 0, .slice none 0 0, .int .i64 0] 42)).alloc (.cells #[.int .i64 K, .int .i64 N, .slice none 0 0, .slice none 0 0, .slice none 0 0, .int .i64 0] 42) = W1 := ⟨_, rfl⟩
  have hb0 : Below w.heap.size w W1 := by
    rw [← hW1]; exact (((Below.refl _ _).alloc (Nat.le_refl _) _).alloc (by simp) _).alloc (by simp; omega) _
  have hA : Blk W1 w.heap.size 35 #[.int .i64 K, .int .i64 N, vt, vn, vy, .int .i64 C] := by
    rw [← hW1]; exact ((Blk.new _ _ _).alloc _).alloc _
  have hO : Blk W1 (w.heap.size + 1 + 1) 42 #[.int .i64 K, .int .i64 N, .slice none 0 0, .slice none 0 0, .slice none 0 0, .int .i64 0] := by
    rw [← hW1]
    have := Blk.new ((w.alloc (.cells #[.int .i64 K, .int .i64 N, vt, vn, vy, .int .i64 C] 35)).alloc (.cells #[.int .i64 0, .int .i64 0, .slice none 0 0, .slice none 0 0, .slice none 0 0, .int .i64 0] 42)) 42 #[.int .i64 K, .int .i64 N, .slice none 0 0, .slice none 0 0, .slice none 0 0, .int .i64 0]
    simpa using this
  have hR : Blk W1 (w.heap.size + 1) 42 #[.int .i64 0, .int .i64 0, .slice none 0 0, .slice none 0 0, .slice none 0 0, .int .i64 0] := by
    rw [← hW1]
    have := (Blk.new (w.alloc (.cells #[.int .i64 K, .int .i64 N, vt, vn, vy, .int .i64 C] 35)) 42 #[.int .i64 0, .int .i64 0, .slice none 0 0, .slice none 0 0, .slice none 0 0, .int .i64 0]).alloc (.cells #[.int .i64 K, .int .i64 N, .slice none 0 0, .slice none 0 0, .slice none 0 0, .int .i64 0] 42)
    simpa using this
  have HR := hide hR
  have HB0 := hide hb0
  have HA := hide hA
  have HO := hide hO
  have HW := hide hW1
  obtain ⟨at_, bt, ot, ct, hvt, hat, hct⟩ := ht.below hb0
  have HT := hide (toB_any at_ bt ot ct T W1 h1 hat hct)
  rw [← hvt] at HT
  clear hm hy h3 hb0 hA hO hR hW1 hat hct ht hvt
  go_enter Tryd.func14, Tryd.ntmps14
  go_wp2_with fail
  rw [HW.out]
  refine HT.out.mono ?_
  rintro e w2 ⟨rfl, hr2, hb2, _⟩
  have HBT : Hid (BO w2 (w.heap.size + 1 + 1) (.slice (some ⟨W1.heap.size, 0, none⟩) T.size T.size) T) := ⟨W1.heap.size, HO.out.lt, by omega, rfl, hr2.frozen, fun j hj => by rw [Nat.zero_add]; exact hr2.cell hj⟩
  obtain ⟨gt, hgt⟩ : ∃ g, W1.heap.size = g := ⟨_, rfl⟩
  have HA2 := hide (HA.out.below hb2)
  have HO2 := hide (HO.out.below hb2)
  have HR2 := hide (HR.out.below hb2)
  have HB2 : Hid (Below w.heap.size w w2) := HB0.out.trans (hb2.mono HB0.out.size)
  rw [hgt] at HBT ⊢
  have c1 := HA2.out.cell 3
  have c2 := HO2.out.cell 2
  have c3 := HO2.out.frozen 2
  simp only [List.getElem?_toArray, List.getElem?_cons_succ, List.getElem?_cons_zero] at c1 c2
  clear hr2 hb2 hgt HT HA HO HW HB0 HR
  go_wp2_with fail
  obtain ⟨W3, hW3⟩ : ∃ W3, w2.setCell ⟨w.heap.size + 1 + 1, 2, none⟩ (.slice (some ⟨gt, 0, none⟩) T.size T.size) = W3 := ⟨_, rfl⟩
  have HA3 : Hid (Blk W3 w.heap.size 35 #[.int .i64 K, .int .i64 N, vt, vn, vy, .int .i64 C]) := by rw [← hW3]; exact HA2.out.other _ _ (by omega)
  have HO3 : Hid (Blk W3 (w.heap.size + 1 + 1) 42 #[.int .i64 K, .int .i64 N, .slice (some ⟨gt, 0, none⟩) T.size T.size, .slice none 0 0, .slice none 0 0, .int .i64 0]) := by rw [← hW3]; exact HO2.out.set 2 _
  have HR3 : Hid (Blk W3 (w.heap.size + 1) 42 #[.int .i64 0, .int .i64 0, .slice none 0 0, .slice none 0 0, .slice none 0 0, .int .i64 0]) := by rw [← hW3]; exact HR2.out.other _ _ (by omega)
  have HT3 : Hid (BO W3 (w.heap.size + 1 + 1) (.slice (some ⟨gt, 0, none⟩) T.size T.size) T) := by rw [← hW3]; exact HBT.out.set
  have HB3 : Hid (Below w.heap.size w W3) := by rw [← hW3]; exact HB2.out.setCell (by show w.heap.size ≤ w.heap.size + 1 + 1; omega) _
  rw [hW3]
  clear hW3 HA2 HO2 HBT HB2 HR2 c1 c2 c3
  refine (toSSc_any vn M W3 h2 H3.out (HM.out.below HB3.out)).mono ?_
  rintro e w4 ⟨v4, rfl, hs4, hb4⟩
  have hs4' := hs4 (w.heap.size + 1 + 1) HO3.out.lt
  obtain ⟨gn, cn, rfl⟩ : ∃ g c, v4 = .slice (some ⟨g, 0, none⟩) M.length c := by obtain ⟨g, c, _, _, h, _⟩ := hs4'; exact ⟨g, c, h⟩
  have HS4 := hide hs4'
  have HA4 := hide (HA3.out.below hb4)
  have HO4 := hide (HO3.out.below hb4)
  have HR4 := hide (HR3.out.below hb4)
  have HT4 := hide (HT3.out.below hb4)
  have HB4 : Hid (Below w.heap.size w w4) := HB3.out.trans (hb4.mono HB3.out.size)
  have c1 := HA4.out.cell 4
  have c2 := HO4.out.cell 3
  have c3 := HO4.out.frozen 3
  simp only [List.getElem?_toArray, List.getElem?_cons_succ, List.getElem?_cons_zero] at c1 c2
  clear hs4 hs4' hb4 HA3 HO3 HT3 HB3 HR3
  go_wp2_with fail
  obtain ⟨W5, hW5⟩ : ∃ W5, w4.setCell ⟨w.heap.size + 1 + 1, 3, none⟩ (.slice (some ⟨gn, 0, none⟩) M.length cn) = W5 := ⟨_, rfl⟩
  have HA5 : Hid (Blk W5 w.heap.size 35 #[.int .i64 K, .int .i64 N, vt, vn, vy, .int .i64 C]) := by rw [← hW5]; exact HA4.out.other _ _ (by omega)
  have HO5 : Hid (Blk W5 (w.heap.size + 1 + 1) 42 #[.int .i64 K, .int .i64 N, .slice (some ⟨gt, 0, none⟩) T.size T.size, .slice (some ⟨gn, 0, none⟩) M.length cn, .slice none 0 0, .int .i64 0]) := by rw [← hW5]; exact HO4.out.set 3 _
  have HR5 : Hid (Blk W5 (w.heap.size + 1) 42 #[.int .i64 0, .int .i64 0, .slice none 0 0, .slice none 0 0, .slice none 0 0, .int .i64 0]) := by rw [← hW5]; exact HR4.out.other _ _ (by omega)
  have HT5 : Hid (BO W5 (w.heap.size + 1 + 1) (.slice (some ⟨gt, 0, none⟩) T.size T.size) T) := by rw [← hW5]; exact HT4.out.set
  have HS5 : Hid (SOc W5 (w.heap.size + 1 + 1) (.slice (some ⟨gn, 0, none⟩) M.length cn) M) := by rw [← hW5]; exact HS4.out.set
  have HB5 : Hid (Below w.heap.size w W5) := by rw [← hW5]; exact HB4.out.setCell (by show w.heap.size ≤ w.heap.size + 1 + 1; omega) _
  rw [hW5]
  clear hW5 HA4 HO4 HT4 HS4 HB4 HR4 c1 c2 c3
  refine (toI_any vy Y W5 h4 (HY.out.below HB5.out)).mono ?_
  rintro e w6 ⟨v6, rfl, hs6, hb6⟩
  have hs6' := hs6 (w.heap.size + 1 + 1) HO5.out.lt
  obtain ⟨gy, cy, rfl⟩ : ∃ g c, v6 = .slice (some ⟨g, 0, none⟩) Y.length c := by obtain ⟨g, c, _, _, h, _⟩ := hs6'; exact ⟨g, c, h⟩
  have HY6 := hide hs6'
  have HA6 := hide (HA5.out.below hb6)
  have HO6 := hide (HO5.out.below hb6)
  have HR6 := hide (HR5.out.below hb6)
  have HT6 := hide (HT5.out.below hb6)
  have HS6 := hide (HS5.out.below hb6)
  have HB6 : Hid (Below w.heap.size w w6) := HB5.out.trans (hb6.mono HB5.out.size)
  have c1 := HA6.out.cell 5
  have c2 := HO6.out.cell 4
  have c3 := HO6.out.frozen 4
  have c4 := HO6.out.cell 5
  have c5 := HO6.out.frozen 5
  have c6 := HO6.out.cell 0
  have c7 := HO6.out.cell 1
  have c8 := HO6.out.cell 2
  have c9 := HO6.out.cell 3
  have r0 := HR6.out.cell 0
  have s0 := HR6.out.frozen 0
  have r1 := HR6.out.cell 1
  have s1 := HR6.out.frozen 1
  have r2 := HR6.out.cell 2
  have s2 := HR6.out.frozen 2
  have r3 := HR6.out.cell 3
  have s3 := HR6.out.frozen 3
  have r4 := HR6.out.cell 4
  have s4 := HR6.out.frozen 4
  have r5 := HR6.out.cell 5
  have s5 := HR6.out.frozen 5
  simp only [List.getElem?_toArray, List.getElem?_cons_succ, List.getElem?_cons_zero] at c1 c2 c4 c6 c7 c8 c9 r0 r1 r2 r3 r4 r5
  clear hs6 hs6' hb6 HA5 HO5 HT5 HS5 HB5 HR5
  have HN6 : Hid (NOc w6 (w.heap.size + 1 + 1) ⟨K, N, T, M, Y, C⟩ (.slice (some ⟨gt, 0, none⟩) T.size T.size) (.slice (some ⟨gn, 0, none⟩) M.length cn) (.slice (some ⟨gy, 0, none⟩) Y.length cy)) := ⟨HT6.out, HS6.out, HY6.out⟩
  go_wp2
  (try simp only [Exit.inBlock, Exit.then])
  refine bodyPost_ret (results_cell_row rfl _ _ (w.heap.size + 1) 42 #[.int .i64 K, .int .i64 N, .slice (some ⟨gt, 0, none⟩) T.size T.size, .slice (some ⟨gn, 0, none⟩) M.length cn, .slice (some ⟨gy, 0, none⟩) Y.length cy, .int .i64 C] (0, 0) _ rfl ?hg Tryd.underlying42 rfl (by kernel_rfl)) rfl ?_
  case hg => exact ((((((((HR6.out.other 4 _ (by omega)).other 5 _ (by omega)).set 0 _).set 1 _).set 2 _).set 3 _).set 4 _).set 5 _)
  refine ⟨_, _, _, rfl, fun G hG => NOc.lower (G := w.heap.size + 1 + 1) ?_ (by omega), ?_⟩
  · exact ((((((((HN6.out.setAt (by omega)).setAt (by omega)).setAt (by omega)).setAt (by omega)).setAt (by omega)).setAt (by omega)).setAt (by omega)).setAt (by omega))
  · exact ((((((((HB6.out.setCell (by show w.heap.size ≤ w.heap.size + 1 + 1; omega) _).setCell (by show w.heap.size ≤ w.heap.size + 1 + 1; omega) _).setCell (by show w.heap.size ≤ w.heap.size + 1; omega) _).setCell (by show w.heap.size ≤ w.heap.size + 1; omega) _).setCell (by show w.heap.size ≤ w.heap.size + 1; omega) _).setCell (by show w.heap.size ≤ w.heap.size + 1; omega) _).setCell (by show w.heap.size ≤ w.heap.size + 1; omega) _).setCell (by show w.heap.size ≤ w.heap.size + 1; omega) _)
end Go.Proofs.YtdlahabeegmjiaaDoor

namespace Go.Proofs.YtdlahabeegmjiaaDoor
open Go.RowKit

/-- The rows of names have room for what they hold. -/
def NCap (w : World) (v : Value) (L : List Nd) : Prop := ∀ (i b o c : Nat) (a : Option Addr) (l c2 : Nat), v = .slice (some ⟨b, o, none⟩) L.length c → i < L.length → w.cell? ⟨b, o + i * 6 + 3, none⟩ = some (.slice a l c2) → l ≤ c2
set_option maxHeartbeats 2000000 in
set_option maxRecDepth 1000000 in
theorem toNSc_any (v : Value) (L : List Nd) (w : World) (hs : L.length ≤ 1048576) (hz : ∀ j, j < L.length → NB (L.getD j .zero)) (h : NS w v L) :
    Calls Tryd.prog 6 #[v] w fun e w' => ∃ v', e = .returned v' ∧ NS w' v' L ∧ NCap w' v' L ∧ Below w.heap.size w w' := by
  obtain ⟨a0, b, off, cap, rfl, ha, hc⟩ := h
  obtain ⟨i0, hi0, hz0, hsz0, hby0⟩ : ∃ i : TypeInfo, Tryd.prog.info? 42 = some i ∧ i.zero = some (.agg #[.int .i64 0, .int .i64 0, .slice none 0 0, .slice none 0 0, .slice none 0 0, .int .i64 0]) ∧ i.size = 6 ∧ i.bytes = 96 := ⟨_, rfl, by kernel_rfl, by kernel_rfl, by kernel_rfl⟩
  have hmk := run_make (P := Tryd.prog) w 26 42 i0 _ Tryd.underlying26 hi0 hz0 .i64 .i64 L.length L.length (by omega) (Int.le_refl _) (by rw [hby0]; omega) (by omega)
  simp only [Int.toNat_natCast, hsz0] at hmk
  obtain ⟨CS, hCS⟩ : ∃ CS, madeCells (Value.agg #[.int .i64 0, .int .i64 0, .slice none 0 0, .slice none 0 0, .slice none 0 0, .int .i64 0]).cells (L.length * 6) = CS := ⟨_, rfl⟩
  have hCz : CS.size = L.length * 6 := by rw [← hCS]; exact size_madeCells _ _
  rw [hCS] at hmk
  have HC := hide hc
  have HZ := hide hz
  have HCZ := hide hCz
  clear hc hz hCS hCz hi0 hz0 hsz0 hby0
  go_enter Tryd.func6, Tryd.ntmps6
  go_wp2
  clear hmk
  go_loopw [4] (fun i wr => ∃ k : Nat, k ≤ L.length ∧ i = .int .i64 k ∧ (∃ cur, Blk wr w.heap.size 42 cur ∧ cur.size = L.length * 6) ∧ (∀ j, j < k → ∃ vt vn vy, NC wr w.heap.size (j * 6) (L.getD j .zero) vt vn vy ∧ NOc wr w.heap.size (L.getD j .zero) vt vn vy) ∧ Below w.heap.size w wr) (fun i _ => L.length - (intOf i).toNat)
  case atStart => exact ⟨0, Nat.zero_le _, rfl, ⟨CS, Blk.new _ _ _, HCZ.out⟩, fun j hj => absurd hj (Nat.not_lt_zero _), (Below.refl _ _).alloc (Nat.le_refl _) _⟩
  case round =>
    obtain ⟨k, hk, rfl, hrow, hu, hbl⟩ := hrel
    have HROW := hide hrow
    have HU := hide hu
    have HBL := hide hbl
    by_cases hlt : k < L.length
    · obtain rfl := ha (by omega)
      obtain ⟨vt, vn, vy, hnc, hnv⟩ := HC.out k hlt
      have hnb := HZ.out k hlt
      obtain ⟨d, hd⟩ : ∃ d, L.getD k .zero = d := ⟨_, rfl⟩
      rw [hd] at hnc hnv hnb
      have HD := hide hd
      have HT := hide (toNdc_any d vt vn vy wr hnb.text hnb.names hnb.each hnb.types (hnv.below hbl))
      obtain ⟨g0, g1, g2, g3, g4, g5⟩ := hnc.below hbl
      unfold nagg at HT
      obtain ⟨K, N, T, M, Y, C⟩ := d
      simp only at HT g0 g1 g5
      have d1 : decide ((k : Int) < (L.length : Int)) = true := decide_eq_true (by omega)
      clear hrow hu hbl hnc hnv hnb hd
      go_wp2_with fail
      refine HT.out.mono ?_
      rintro e w2 ⟨vt', vn', vy', rfl, hno, hb2⟩
      obtain ⟨cur, hcur0, hcz⟩ := HROW.out
      have hno' := hno w.heap.size hcur0.lt
      obtain ⟨g1', n1, c1', g2', n2, c2', g3', n3, c3', rfl, rfl, rfl⟩ := hno'.slices
      have HN2 := hide hno'
      have hcur := hcur0.below hb2
      obtain ⟨y0, r0⟩ := row_cell ⟨cur, hcur, hcz⟩ (k * 6) (by omega)
      have s0 := hcur.frozen (k * 6)
      obtain ⟨y1, r1⟩ := row_cell ⟨cur, hcur, hcz⟩ (k * 6 + 1) (by omega)
      have s1 := hcur.frozen (k * 6 + 1)
      obtain ⟨y2, r2⟩ := row_cell ⟨cur, hcur, hcz⟩ (k * 6 + 2) (by omega)
      have s2 := hcur.frozen (k * 6 + 2)
      obtain ⟨y3, r3⟩ := row_cell ⟨cur, hcur, hcz⟩ (k * 6 + 3) (by omega)
      have s3 := hcur.frozen (k * 6 + 3)
      obtain ⟨y4, r4⟩ := row_cell ⟨cur, hcur, hcz⟩ (k * 6 + 4) (by omega)
      have s4 := hcur.frozen (k * 6 + 4)
      obtain ⟨y5, r5⟩ := row_cell ⟨cur, hcur, hcz⟩ (k * 6 + 5) (by omega)
      have s5 := hcur.frozen (k * 6 + 5)
      have HCUR := hide hcur
      have HCZ2 := hide hcz
      have HB2 := hide hb2
      have HBW : Hid (Below w.heap.size w w2) := HBL.out.trans (hb2.mono HBL.out.size)
      clear hcur hcz hb2 hno hno' hcur0 HT
      go_wp2
      go_roundw
      case rel =>
        have hp6 : k * 6 + 6 ≤ cur.size := by have := HCZ2.out; omega
        obtain ⟨cur', h1, h2, ⟨k0, k1, k2, k3, k4, k5⟩, h3⟩ := set6 HCUR.out hp6 (.int .i64 K) (.int .i64 N) (.slice (some ⟨g1', 0, none⟩) n1 c1') (.slice (some ⟨g2', 0, none⟩) n2 c2') (.slice (some ⟨g3', 0, none⟩) n3 c3') (.int .i64 C)
        refine ⟨k + 1, by omega, by go_num, ⟨cur', h1, h2.trans HCZ2.out⟩, fun j hj => ?_, ((((((HBW.out.setCell (Nat.le_refl _) _).setCell (Nat.le_refl _) _).setCell (Nat.le_refl _) _).setCell (Nat.le_refl _) _).setCell (Nat.le_refl _) _).setCell (Nat.le_refl _) _)⟩
        by_cases e : j = k
        · subst e
          rw [HD.out]
          exact ⟨_, _, _, ⟨(h1.cell _).trans k0, (h1.cell _).trans k1, (h1.cell _).trans k2, (h1.cell _).trans k3, (h1.cell _).trans k4, (h1.cell _).trans k5⟩, ((((((HN2.out).set).set).set).set).set).set⟩
        · obtain ⟨vt, vn, vy, q1, q2⟩ := HU.out j (by omega)
          have q1' := q1.below HB2.out
          have c : ∀ i, i < 6 → cur'[j * 6 + i]? = cur[j * 6 + i]? := fun i hi => h3 _ (by omega)
          exact ⟨vt, vn, vy, ⟨(h1.cell _).trans ((c 0 (by omega)).trans ((HCUR.out.cell _).symm.trans q1'.kind)), (h1.cell _).trans ((c 1 (by omega)).trans ((HCUR.out.cell _).symm.trans q1'.n)), (h1.cell _).trans ((c 2 (by omega)).trans ((HCUR.out.cell _).symm.trans q1'.text)), (h1.cell _).trans ((c 3 (by omega)).trans ((HCUR.out.cell _).symm.trans q1'.names)), (h1.cell _).trans ((c 4 (by omega)).trans ((HCUR.out.cell _).symm.trans q1'.types)), (h1.cell _).trans ((c 5 (by omega)).trans ((HCUR.out.cell _).symm.trans q1'.count))⟩, ((((((q2.below HB2.out).set).set).set).set).set).set⟩
      case measure => simp [intOf]; omega
    · have d1 : decide ((k : Int) < (L.length : Int)) = false := decide_eq_false (by omega)
      clear hrow hu hbl
      go_wp2
      go_ret
      exact ⟨_, rfl, ⟨_, w.heap.size, 0, _, rfl, fun _ => rfl, fun j hj => by
        obtain ⟨vt, vn, vy, h1, h2⟩ := HU.out j (by omega)
        exact ⟨vt, vn, vy, by rw [Nat.zero_add]; exact h1, h2.nv⟩⟩, fun i b' o' c' a l c2 e hi hc => by
        injection e with e
        injection e with e
        injection e with e1 e2
        subst e1 e2
        obtain ⟨vt, vn, vy, h1, h2⟩ := HU.out i (by omega)
        obtain ⟨gb, gc, _, _, h3, h4, _⟩ := h2.names
        have h5 := h1.names
        rw [Nat.zero_add] at hc
        rw [hc] at h5
        injection h5 with h5
        rw [← h5] at h3
        injection h3 with _ h6 h7
        rw [h6, h7]
        exact h4.2, HBL.out⟩
end Go.Proofs.YtdlahabeegmjiaaDoor

/-
  The walk of toDeclS.
  toDeclS with its blocks.
  markByteS at any slice.
-/
import Derived.Test.YtijdlbanfdhfnaaGreatDoorJDnDc0
import Derived.Test.YtijdlbanfdhfnaaGreatDoorJDnDcT
import Derived.Test.YtijdlbanfdhfnaaGreatDoorJDnFL
import Derived.Test.YtijdlbanfdhfnaaGreatDoorJDnDc2
namespace Go.Proofs.YtijdlbanfdhfnaaGreatDoor
open Go.RowKit

theorem row_cellDc {w : World} {b n : Nat} {t : TypeId} (h : ∃ cur, Blk w b t cur ∧ cur.size = n) (j : Nat) (hj : j < n) : ∃ v, w.cell? ⟨b, j, none⟩ = some v := by
  obtain ⟨cur, h1, h2⟩ := h
  exact ⟨cur[j], by rw [h1.cell j, Array.getElem?_eq_getElem (by omega)]⟩
theorem setDc {w : World} {b p : Nat} {t : TypeId} {cur : Array Value} (h : Blk w b t cur) (hp : p + 9 ≤ cur.size) (y0 y1 y2 y3 y4 y5 y6 y7 y8 : Value) : ∃ cur', Blk (((((((((w.setCell ⟨b, p, none⟩ y0).setCell ⟨b, p + 1, none⟩ y1).setCell ⟨b, p + 2, none⟩ y2).setCell ⟨b, p + 3, none⟩ y3).setCell ⟨b, p + 4, none⟩ y4).setCell ⟨b, p + 5, none⟩ y5).setCell ⟨b, p + 6, none⟩ y6).setCell ⟨b, p + 7, none⟩ y7).setCell ⟨b, p + 8, none⟩ y8) b t cur' ∧ cur'.size = cur.size ∧ (cur'[p]? = some y0 ∧ cur'[p + 1]? = some y1 ∧ cur'[p + 2]? = some y2 ∧ cur'[p + 3]? = some y3 ∧ cur'[p + 4]? = some y4 ∧ cur'[p + 5]? = some y5 ∧ cur'[p + 6]? = some y6 ∧ cur'[p + 7]? = some y7 ∧ cur'[p + 8]? = some y8) ∧ ∀ q, q < p ∨ p + 9 ≤ q → cur'[q]? = cur[q]? := by
  refine ⟨_, (((((((((h.set (p) y0).set (p + 1) y1).set (p + 2) y2).set (p + 3) y3).set (p + 4) y4).set (p + 5) y5).set (p + 6) y6).set (p + 7) y7).set (p + 8) y8), by simp, ?_, fun q hq => ?_⟩
  · have h0 : p < cur.size := by omega
    have h1 : p + 1 < cur.size := by omega
    have h2 : p + 2 < cur.size := by omega
    have h3 : p + 3 < cur.size := by omega
    have h4 : p + 4 < cur.size := by omega
    have h5 : p + 5 < cur.size := by omega
    have h6 : p + 6 < cur.size := by omega
    have h7 : p + 7 < cur.size := by omega
    have h8 : p + 8 < cur.size := by omega
    refine ⟨?_, ?_, ?_, ?_, ?_, ?_, ?_, ?_, ?_⟩ <;> simp [h0, h1, h2, h3, h4, h5, h6, h7, h8]
  · have e0 : ¬ p = q := by omega
    have e1 : ¬ p + 1 = q := by omega
    have e2 : ¬ p + 2 = q := by omega
    have e3 : ¬ p + 3 = q := by omega
    have e4 : ¬ p + 4 = q := by omega
    have e5 : ¬ p + 5 = q := by omega
    have e6 : ¬ p + 6 = q := by omega
    have e7 : ¬ p + 7 = q := by omega
    have e8 : ¬ p + 8 = q := by omega
    simp [e0, e1, e2, e3, e4, e5, e6, e7, e8]

set_option maxHeartbeats 2000000 in
set_option maxRecDepth 1000000 in
theorem toDcS_cp {w : World} {v : Value} {L : List Dc} (hs : DcSB L) (h : DcS w v L) :
    Calls Tryz.prog 6 #[v] w fun e w' => ∃ v', e = .returned v' ∧ (∀ G, G < w.heap.size → DcSO w' G v' L) ∧ Below w.heap.size w w' := by
  obtain ⟨a0, b, off, cap, rfl, ha, hc⟩ := h
  obtain ⟨hs, hz⟩ := hs
  obtain ⟨i0, hi0, hz0, hsz0, hby0⟩ : ∃ i : TypeInfo, Tryz.prog.info? 42 = some i ∧ i.zero = some (.agg #[.int .i64 0, .int .i64 0, .int .i64 0, .int .i64 0, .int .i64 0, .int .i64 0, .int .i64 0, .slice none 0 0, .int .i64 0]) ∧ i.size = 9 ∧ i.bytes = 88 := ⟨_, rfl, by kernel_rfl, by kernel_rfl, by kernel_rfl⟩
  have hmk := run_make (P := Tryz.prog) w 30 42 i0 _ Tryz.underlying30 hi0 hz0 .i64 .i64 L.length L.length (by omega) (Int.le_refl _) (by rw [hby0]; omega) (by omega)
  simp only [Int.toNat_natCast, hsz0] at hmk
  obtain ⟨CS, hCS⟩ : ∃ CS, madeCells (Value.agg #[.int .i64 0, .int .i64 0, .int .i64 0, .int .i64 0, .int .i64 0, .int .i64 0, .int .i64 0, .slice none 0 0, .int .i64 0]).cells (L.length * 9) = CS := ⟨_, rfl⟩
  have hCz : CS.size = L.length * 9 := by rw [← hCS]; exact size_madeCells _ _
  rw [hCS] at hmk
  have HC := hide hc
  have HZ := hide hz
  have HCZ := hide hCz
  clear hc hz hCS hCz hi0 hz0 hsz0 hby0
  go_enter Tryz.func6, Tryz.ntmps6
  go_wp2
  clear hmk
  go_loopw [4] (fun i wr => ∃ k : Nat, k ≤ L.length ∧ i = .int .i64 k ∧ (∃ cur, Blk wr w.heap.size 42 cur ∧ cur.size = L.length * 9) ∧ (∀ j, j < k → ∃ v7, DcC wr w.heap.size (j * 9) (L.getD j .zero) v7 ∧ DcO wr w.heap.size (L.getD j .zero) v7) ∧ Below w.heap.size w wr) (fun i _ => L.length - (intOf i).toNat)
  case atStart => exact ⟨0, Nat.zero_le _, rfl, ⟨CS, Blk.new _ _ _, HCZ.out⟩, fun j hj => absurd hj (Nat.not_lt_zero _), (Below.refl _ _).alloc (Nat.le_refl _) _⟩
  case round =>
    obtain ⟨k, hk, rfl, hrow, hu, hbl⟩ := hrel
    have HROW := hide hrow
    have HU := hide hu
    have HBL := hide hbl
    by_cases hlt : k < L.length
    · obtain rfl := ha (by omega)
      obtain ⟨v7, hnc, hnv⟩ := HC.out k hlt
      have hnb := HZ.out k hlt
      obtain ⟨d, hd⟩ : ∃ d, L.getD k .zero = d := ⟨_, rfl⟩
      rw [hd] at hnc hnv hnb
      have HD := hide hd
      have HT := hide (toDc_any d v7 wr hnb (hnv.below hbl))
      obtain ⟨g0, g1, g2, g3, g4, g5, g6, g7, g8⟩ := hnc.below hbl
      unfold dcagg at HT
      obtain ⟨x0, x1, x2, x3, x4, x5, x6, x7, x8⟩ := d
      simp only at HT g0 g1 g2 g3 g4 g5 g6 g8
      have d1 : decide ((k : Int) < (L.length : Int)) = true := decide_eq_true (by omega)
      clear hrow hu hbl hnc hnv hnb hd
      go_wp2_with fail
      refine HT.out.mono ?_
      rintro e w2 ⟨v7', rfl, hno, hb2⟩
      obtain ⟨cur, hcur0, hcz⟩ := HROW.out
      have hno' := hno w.heap.size hcur0.lt
      obtain ⟨g7', k7', rfl⟩ := hno'.name.slice
      have HN2 := hide hno'
      have hcur := hcur0.below hb2
      obtain ⟨z0, r0⟩ := row_cellDc ⟨cur, hcur, hcz⟩ (k * 9) (by omega)
      have s0 := hcur.frozen (k * 9)
      obtain ⟨z1, r1⟩ := row_cellDc ⟨cur, hcur, hcz⟩ (k * 9 + 1) (by omega)
      have s1 := hcur.frozen (k * 9 + 1)
      obtain ⟨z2, r2⟩ := row_cellDc ⟨cur, hcur, hcz⟩ (k * 9 + 2) (by omega)
      have s2 := hcur.frozen (k * 9 + 2)
      obtain ⟨z3, r3⟩ := row_cellDc ⟨cur, hcur, hcz⟩ (k * 9 + 3) (by omega)
      have s3 := hcur.frozen (k * 9 + 3)
      obtain ⟨z4, r4⟩ := row_cellDc ⟨cur, hcur, hcz⟩ (k * 9 + 4) (by omega)
      have s4 := hcur.frozen (k * 9 + 4)
      obtain ⟨z5, r5⟩ := row_cellDc ⟨cur, hcur, hcz⟩ (k * 9 + 5) (by omega)
      have s5 := hcur.frozen (k * 9 + 5)
      obtain ⟨z6, r6⟩ := row_cellDc ⟨cur, hcur, hcz⟩ (k * 9 + 6) (by omega)
      have s6 := hcur.frozen (k * 9 + 6)
      obtain ⟨z7, r7⟩ := row_cellDc ⟨cur, hcur, hcz⟩ (k * 9 + 7) (by omega)
      have s7 := hcur.frozen (k * 9 + 7)
      obtain ⟨z8, r8⟩ := row_cellDc ⟨cur, hcur, hcz⟩ (k * 9 + 8) (by omega)
      have s8 := hcur.frozen (k * 9 + 8)
      have HCUR := hide hcur
      have HCZ2 := hide hcz
      have HB2 := hide hb2
      have HBW : Hid (Below w.heap.size w w2) := HBL.out.trans (hb2.mono HBL.out.size)
      clear hcur hcz hb2 hno hno' hcur0 HT
      go_wp2
      go_roundw
      case rel =>
        have hp6 : k * 9 + 9 ≤ cur.size := by have := HCZ2.out; omega
        obtain ⟨cur', h1, h2, ⟨m0, m1, m2, m3, m4, m5, m6, m7, m8⟩, h3⟩ := setDc HCUR.out hp6 (.int .i64 x0) (.int .i64 x1) (.int .i64 x2) (.int .i64 x3) (.int .i64 x4) (.int .i64 x5) (.int .i64 x6) (.slice (some ⟨g7', 0, none⟩) (x7.size) k7') (.int .i64 x8)
        refine ⟨k + 1, by omega, by go_num, ⟨cur', h1, h2.trans HCZ2.out⟩, fun j hj => ?_, (((((((((HBW.out.setCell (Nat.le_refl _) _).setCell (Nat.le_refl _) _).setCell (Nat.le_refl _) _).setCell (Nat.le_refl _) _).setCell (Nat.le_refl _) _).setCell (Nat.le_refl _) _).setCell (Nat.le_refl _) _).setCell (Nat.le_refl _) _).setCell (Nat.le_refl _) _)⟩
        by_cases e : j = k
        · subst e
          rw [HD.out]
          exact ⟨_, ⟨(h1.cell _).trans m0, (h1.cell _).trans m1, (h1.cell _).trans m2, (h1.cell _).trans m3, (h1.cell _).trans m4, (h1.cell _).trans m5, (h1.cell _).trans m6, (h1.cell _).trans m7, (h1.cell _).trans m8⟩, (((((((((HN2.out.setAt (Nat.le_refl _)).setAt (Nat.le_refl _)).setAt (Nat.le_refl _)).setAt (Nat.le_refl _)).setAt (Nat.le_refl _)).setAt (Nat.le_refl _)).setAt (Nat.le_refl _)).setAt (Nat.le_refl _)).setAt (Nat.le_refl _))⟩
        · obtain ⟨v7, q1, q2⟩ := HU.out j (by omega)
          have q1' := q1.below HB2.out
          have c : ∀ i, i < 9 → cur'[j * 9 + i]? = cur[j * 9 + i]? := fun i hi => h3 _ (by omega)
          exact ⟨v7, ⟨(h1.cell _).trans ((c 0 (by omega)).trans ((HCUR.out.cell _).symm.trans q1'.kind)), (h1.cell _).trans ((c 1 (by omega)).trans ((HCUR.out.cell _).symm.trans q1'.x1)), (h1.cell _).trans ((c 2 (by omega)).trans ((HCUR.out.cell _).symm.trans q1'.y1)), (h1.cell _).trans ((c 3 (by omega)).trans ((HCUR.out.cell _).symm.trans q1'.x2)), (h1.cell _).trans ((c 4 (by omega)).trans ((HCUR.out.cell _).symm.trans q1'.y2)), (h1.cell _).trans ((c 5 (by omega)).trans ((HCUR.out.cell _).symm.trans q1'.dir)), (h1.cell _).trans ((c 6 (by omega)).trans ((HCUR.out.cell _).symm.trans q1'.cost)), (h1.cell _).trans ((c 7 (by omega)).trans ((HCUR.out.cell _).symm.trans q1'.name)), (h1.cell _).trans ((c 8 (by omega)).trans ((HCUR.out.cell _).symm.trans q1'.node))⟩, ((((((((((q2.below HB2.out).setAt (Nat.le_refl _)).setAt (Nat.le_refl _)).setAt (Nat.le_refl _)).setAt (Nat.le_refl _)).setAt (Nat.le_refl _)).setAt (Nat.le_refl _)).setAt (Nat.le_refl _)).setAt (Nat.le_refl _)).setAt (Nat.le_refl _))⟩
      case measure => simp [intOf]; omega
    · have d1 : decide ((k : Int) < (L.length : Int)) = false := decide_eq_false (by omega)
      clear hrow hu hbl
      go_wp2
      go_ret
      obtain ⟨cur, hcur0, _⟩ := HROW.out
      exact ⟨_, rfl, fun G hG => ⟨w.heap.size, _, hG, hcur0.lt, rfl, hcur0.frozen, fun j hj => by
        obtain ⟨v7, h1, h2⟩ := HU.out j (by omega)
        exact ⟨v7, h1, h2⟩⟩, HBL.out⟩
end Go.Proofs.YtijdlbanfdhfnaaGreatDoor

namespace Go.Proofs.YtijdlbanfdhfnaaGreatDoor
open Go.RowKit

theorem flat_put (k : Nat) (bln : List Nat) (NB : Nat → List Nat) : ((List.range (k + 1)).map (fun j => if j = k then bln else NB j)).flatten = ((List.range k).map NB).flatten ++ bln := by
  rw [List.range_succ, List.map_append, List.flatten_append]
  congr 1
  · congr 1
    refine List.map_congr_left (fun j hj => ?_)
    have := List.mem_range.1 hj
    rw [if_neg (by omega)]
  · simp
set_option maxHeartbeats 4000000 in
set_option maxRecDepth 1000000 in
theorem toDcS_f {w : World} {v : Value} {L : List Dc} (hs : DcSB L) (h : DcS w v L) :
    Calls Tryz.prog 6 #[v] w fun e w' => ∃ v' bl, e = .returned v' ∧ DcSF w' v' L bl ∧ Fr w w' bl ∧ Below w.heap.size w w' := by
  obtain ⟨a0, b, off, cap, rfl, ha, hc⟩ := h
  obtain ⟨hs, hz⟩ := hs
  obtain ⟨i0, hi0, hz0, hsz0, hby0⟩ : ∃ i : TypeInfo, Tryz.prog.info? 42 = some i ∧ i.zero = some (.agg #[.int .i64 0, .int .i64 0, .int .i64 0, .int .i64 0, .int .i64 0, .int .i64 0, .int .i64 0, .slice none 0 0, .int .i64 0]) ∧ i.size = 9 ∧ i.bytes = 88 := ⟨_, rfl, by kernel_rfl, by kernel_rfl, by kernel_rfl⟩
  have hmk := run_make (P := Tryz.prog) w 30 42 i0 _ Tryz.underlying30 hi0 hz0 .i64 .i64 L.length L.length (by omega) (Int.le_refl _) (by rw [hby0]; omega) (by omega)
  simp only [Int.toNat_natCast, hsz0] at hmk
  obtain ⟨CS, hCS⟩ : ∃ CS, madeCells (Value.agg #[.int .i64 0, .int .i64 0, .int .i64 0, .int .i64 0, .int .i64 0, .int .i64 0, .int .i64 0, .slice none 0 0, .int .i64 0]).cells (L.length * 9) = CS := ⟨_, rfl⟩
  have hCz : CS.size = L.length * 9 := by rw [← hCS]; exact size_madeCells _ _
  rw [hCS] at hmk
  have HC := hide hc
  have HZ := hide hz
  have HCZ := hide hCz
  clear hc hz hCS hCz hi0 hz0 hsz0 hby0
  go_enter Tryz.func6, Tryz.ntmps6
  go_wp2
  clear hmk
  go_loopw [4] (fun i wr => ∃ (k : Nat) (V : Nat → Value) (NB : Nat → List Nat), k ≤ L.length ∧ i = .int .i64 k ∧ (∃ cur, Blk wr w.heap.size 42 cur ∧ cur.size = L.length * 9) ∧ (∀ j, j < k → DcC wr w.heap.size (j * 9) (L.getD j .zero) (V j) ∧ DcF wr (L.getD j .zero) (V j) (NB j)) ∧ ((List.range k).map NB).flatten.Nodup ∧ (∀ g ∈ ((List.range k).map NB).flatten, w.heap.size < g) ∧ Below w.heap.size w wr) (fun i _ => L.length - (intOf i).toNat)
  case atStart => exact ⟨0, fun _ => .slice none 0 0, fun _ => [], Nat.zero_le _, rfl, ⟨CS, Blk.new _ _ _, HCZ.out⟩, fun j hj => absurd hj (Nat.not_lt_zero _), List.nodup_nil, fun g hg => (by cases hg), (Below.refl _ _).alloc (Nat.le_refl _) _⟩
  case round =>
    obtain ⟨k, V, NB, hk, rfl, hrow, hu, hnd, hlo, hbl⟩ := hrel
    have HROW := hide hrow
    have HU := hide hu
    have HND := hide hnd
    have HLO := hide hlo
    have HBL := hide hbl
    by_cases hlt : k < L.length
    · obtain rfl := ha (by omega)
      obtain ⟨v7, hnc, hnv⟩ := HC.out k hlt
      have hnb := HZ.out k hlt
      obtain ⟨d, hd⟩ : ∃ d, L.getD k .zero = d := ⟨_, rfl⟩
      rw [hd] at hnc hnv hnb
      have HD := hide hd
      have HT := hide (toDc_f d v7 wr hnb (hnv.below hbl))
      obtain ⟨g0, g1, g2, g3, g4, g5, g6, g7, g8⟩ := hnc.below hbl
      unfold dcagg at HT
      obtain ⟨x0, x1, x2, x3, x4, x5, x6, x7, x8⟩ := d
      simp only at HT g0 g1 g2 g3 g4 g5 g6 g8
      have d1 : decide ((k : Int) < (L.length : Int)) = true := decide_eq_true (by omega)
      clear hrow hu hnd hlo hbl hnc hnv hnb hd
      go_wp2_with fail
      refine HT.out.mono ?_
      rintro e w2 ⟨v7', bln, rfl, hno, hfr, hb2⟩
      obtain ⟨cur, hcur0, hcz⟩ := HROW.out
      obtain ⟨g7', k7', rfl⟩ := BF.slice hno
      have HN2 := hide hno
      have HFR := hide hfr
      have hcur := hcur0.below hb2
      have HLN : Hid (∀ g ∈ bln, w.heap.size < g) := fun g hg => Nat.lt_of_lt_of_le hcur0.lt (hfr.lo g hg)
      obtain ⟨z0, r0⟩ := row_cellDc ⟨cur, hcur, hcz⟩ (k * 9) (by omega)
      have s0 := hcur.frozen (k * 9)
      obtain ⟨z1, r1⟩ := row_cellDc ⟨cur, hcur, hcz⟩ (k * 9 + 1) (by omega)
      have s1 := hcur.frozen (k * 9 + 1)
      obtain ⟨z2, r2⟩ := row_cellDc ⟨cur, hcur, hcz⟩ (k * 9 + 2) (by omega)
      have s2 := hcur.frozen (k * 9 + 2)
      obtain ⟨z3, r3⟩ := row_cellDc ⟨cur, hcur, hcz⟩ (k * 9 + 3) (by omega)
      have s3 := hcur.frozen (k * 9 + 3)
      obtain ⟨z4, r4⟩ := row_cellDc ⟨cur, hcur, hcz⟩ (k * 9 + 4) (by omega)
      have s4 := hcur.frozen (k * 9 + 4)
      obtain ⟨z5, r5⟩ := row_cellDc ⟨cur, hcur, hcz⟩ (k * 9 + 5) (by omega)
      have s5 := hcur.frozen (k * 9 + 5)
      obtain ⟨z6, r6⟩ := row_cellDc ⟨cur, hcur, hcz⟩ (k * 9 + 6) (by omega)
      have s6 := hcur.frozen (k * 9 + 6)
      obtain ⟨z7, r7⟩ := row_cellDc ⟨cur, hcur, hcz⟩ (k * 9 + 7) (by omega)
      have s7 := hcur.frozen (k * 9 + 7)
      obtain ⟨z8, r8⟩ := row_cellDc ⟨cur, hcur, hcz⟩ (k * 9 + 8) (by omega)
      have s8 := hcur.frozen (k * 9 + 8)
      have HCUR := hide hcur
      have HCZ2 := hide hcz
      have HB2 := hide hb2
      have HBW : Hid (Below w.heap.size w w2) := HBL.out.trans (hb2.mono HBL.out.size)
      clear hcur hcz hb2 hno hfr hcur0 HT
      go_wp2
      go_roundw
      case rel =>
        have hp6 : k * 9 + 9 ≤ cur.size := by have := HCZ2.out; omega
        obtain ⟨cur', h1, h2, ⟨m0, m1, m2, m3, m4, m5, m6, m7, m8⟩, h3⟩ := setDc HCUR.out hp6 (.int .i64 x0) (.int .i64 x1) (.int .i64 x2) (.int .i64 x3) (.int .i64 x4) (.int .i64 x5) (.int .i64 x6) (.slice g7' (x7.size) k7') (.int .i64 x8)
        have hfl := flat_put k bln NB
        refine ⟨k + 1, fun j => if j = k then (.slice g7' (x7.size) k7') else V j, fun j => if j = k then bln else NB j, by omega, by go_num, ⟨cur', h1, h2.trans HCZ2.out⟩, fun j hj => ?_, ?_, ?_, (((((((((HBW.out.setCell (Nat.le_refl _) _).setCell (Nat.le_refl _) _).setCell (Nat.le_refl _) _).setCell (Nat.le_refl _) _).setCell (Nat.le_refl _) _).setCell (Nat.le_refl _) _).setCell (Nat.le_refl _) _).setCell (Nat.le_refl _) _).setCell (Nat.le_refl _) _)⟩
        · by_cases e : j = k
          · subst e
            rw [HD.out]
            simp only [if_pos]
            exact ⟨⟨(h1.cell _).trans m0, (h1.cell _).trans m1, (h1.cell _).trans m2, (h1.cell _).trans m3, (h1.cell _).trans m4, (h1.cell _).trans m5, (h1.cell _).trans m6, (h1.cell _).trans m7, (h1.cell _).trans m8⟩, DcF.keep HN2.out (fun g hg => by
              have hne : g ≠ w.heap.size := Nat.ne_of_gt (HLN.out g hg)
              rw [Below.heap_setCell _ _ _ _ hne, Below.heap_setCell _ _ _ _ hne, Below.heap_setCell _ _ _ _ hne, Below.heap_setCell _ _ _ _ hne, Below.heap_setCell _ _ _ _ hne, Below.heap_setCell _ _ _ _ hne, Below.heap_setCell _ _ _ _ hne, Below.heap_setCell _ _ _ _ hne, Below.heap_setCell _ _ _ _ hne])⟩
          · simp only [if_neg e]
            obtain ⟨q1, q2⟩ := HU.out j (by omega)
            have q1' := q1.below HB2.out
            have c : ∀ i, i < 9 → cur'[j * 9 + i]? = cur[j * 9 + i]? := fun i hi => h3 _ (by omega)
            exact ⟨⟨(h1.cell _).trans ((c 0 (by omega)).trans ((HCUR.out.cell _).symm.trans q1'.kind)), (h1.cell _).trans ((c 1 (by omega)).trans ((HCUR.out.cell _).symm.trans q1'.x1)), (h1.cell _).trans ((c 2 (by omega)).trans ((HCUR.out.cell _).symm.trans q1'.y1)), (h1.cell _).trans ((c 3 (by omega)).trans ((HCUR.out.cell _).symm.trans q1'.x2)), (h1.cell _).trans ((c 4 (by omega)).trans ((HCUR.out.cell _).symm.trans q1'.y2)), (h1.cell _).trans ((c 5 (by omega)).trans ((HCUR.out.cell _).symm.trans q1'.dir)), (h1.cell _).trans ((c 6 (by omega)).trans ((HCUR.out.cell _).symm.trans q1'.cost)), (h1.cell _).trans ((c 7 (by omega)).trans ((HCUR.out.cell _).symm.trans q1'.name)), (h1.cell _).trans ((c 8 (by omega)).trans ((HCUR.out.cell _).symm.trans q1'.node))⟩, (q2.below HB2.out).keep (fun g hg => by
              have hne : g ≠ w.heap.size := Nat.ne_of_gt (HLO.out g (mem_flat (by omega) hg))
              rw [Below.heap_setCell _ _ _ _ hne, Below.heap_setCell _ _ _ _ hne, Below.heap_setCell _ _ _ _ hne, Below.heap_setCell _ _ _ _ hne, Below.heap_setCell _ _ _ _ hne, Below.heap_setCell _ _ _ _ hne, Below.heap_setCell _ _ _ _ hne, Below.heap_setCell _ _ _ _ hne, Below.heap_setCell _ _ _ _ hne])⟩
        · rw [hfl]
          refine List.nodup_append.2 ⟨HND.out, HFR.out.nd, fun p hp p' hp' e => ?_⟩
          obtain ⟨i, hi, hp⟩ := of_mem_flat hp
          have h4 := (HU.out i hi).2.lt p hp
          have h5 := HFR.out.lo p' hp'
          omega
        · rw [hfl]
          intro g hg
          rcases List.mem_append.1 hg with hg | hg
          · exact HLO.out g hg
          · exact HLN.out g hg
      case measure => simp [intOf]; omega
    · have d1 : decide ((k : Int) < (L.length : Int)) = false := decide_eq_false (by omega)
      have e : k = L.length := by omega
      subst e
      clear hrow hu hnd hlo hbl
      go_wp2
      go_ret
      obtain ⟨cur, hcur0, _⟩ := HROW.out
      refine ⟨_, _, rfl, ⟨_, w.heap.size, 0, _, V, NB, rfl, fun _ => rfl, rfl, fun j _ => by rw [Nat.zero_add]; exact hcur0.frozen j, fun j hj => ?_⟩, ⟨?_, ?_, ?_⟩, HBL.out⟩
      · rw [Nat.zero_add]; exact HU.out j hj
      · refine List.nodup_append.2 ⟨(Fr.one (w := w) (w' := wr) (Nat.le_refl _) hcur0.lt _).nd, HND.out, fun p hp p' hp' e => ?_⟩
        have h4 := HLO.out p' hp'
        have h5 : p = w.heap.size := by
          by_cases hz : 0 < L.length
          · rw [if_pos hz] at hp; exact List.mem_singleton.1 hp
          · rw [if_neg hz] at hp; cases hp
        omega
      · intro g hg
        rcases List.mem_append.1 hg with hg | hg
        · exact (Fr.one (w := w) (w' := wr) (Nat.le_refl _) hcur0.lt _).lo g hg
        · exact Nat.le_of_lt (HLO.out g hg)
      · intro g hg
        rcases List.mem_append.1 hg with hg | hg
        · exact (Fr.one (w := w) (w' := wr) (Nat.le_refl _) hcur0.lt _).hi g hg
        · obtain ⟨i, hi, hg⟩ := of_mem_flat hg
          exact (HU.out i hi).2.lt g hg
end Go.Proofs.YtijdlbanfdhfnaaGreatDoor

namespace Go.Proofs.YtijdlbanfdhfnaaGreatDoor
open Go.RowKit

set_option maxHeartbeats 400000 in
set_option maxRecDepth 1000000 in
theorem markB_w (a0 : Option Addr) (b o n cap k0 : Nat) (w : World) (hn : n ≤ 100000000) (hk0 : k0 ≤ 1000000000000000000) (ha : 0 < n → a0 = some ⟨b, o, none⟩) (hc : ∀ j, j < n → ∃ v, w.cell? ⟨b, o + j, none⟩ = some v) (hf : ∀ j, j < n → w.frozen? ⟨b, o + j, none⟩ = false) :
    Calls Tryz.prog 33 #[.slice a0 n cap, .int .i64 k0] w fun e w' => e = .returned (.int .i64 (k0 + n : Nat)) ∧ Wrt b w w' ∧ (∀ j, j < n → w'.cell? ⟨b, o + j, none⟩ = some (mkB (k0 + j))) ∧ (∀ j, j < o ∨ o + n ≤ j → w'.cell? ⟨b, j, none⟩ = w.cell? ⟨b, j, none⟩) ∧ (n = 0 → w' = w) := by
  have HC := hide hc
  have HF := hide hf
  clear hc hf
  go_enter Tryz.func33, Tryz.ntmps33
  go_wp2
  go_loopw [1, 5] (fun kk i wr => ∃ m : Nat, m ≤ n ∧ i = .int .i64 m ∧ kk = .int .i64 (k0 + m : Nat) ∧ Wrt b w wr ∧ (∀ j, j < m → wr.cell? ⟨b, o + j, none⟩ = some (mkB (k0 + j))) ∧ (∀ j, j < o ∨ o + n ≤ j → wr.cell? ⟨b, j, none⟩ = w.cell? ⟨b, j, none⟩) ∧ (m = 0 → wr = w)) (fun _ i _ => n - (intOf i).toNat)
  case atStart => exact ⟨0, Nat.zero_le _, rfl, rfl, Wrt.refl _ _, fun j hj => absurd hj (Nat.not_lt_zero _), fun _ _ => rfl, fun _ => rfl⟩
  case round =>
    obtain ⟨m, hm, rfl, rfl, hon, hmk, hot, hz0⟩ := hrel
    have HZ := hide hz0
    have HM := hide hmk
    have HO := hide hot
    have HW := hide hon
    clear hmk hot hon hz0
    by_cases hlt : m < n
    · obtain rfl := ha (by omega)
      obtain ⟨v, g1⟩ := HW.out.has _ (HC.out m hlt)
      have g2 := (HW.out.fz ⟨b, o + m, none⟩).trans (HF.out m hlt)
      have EV : Hid (Value.int .u8 (((k0 : Int) + (m : Int)) % 256) = mkB (k0 + m)) := by show _ = _; unfold mkB; congr 1
      go_wp2
      rw [EV.out]
      have hcell := fun j => set_hit (u := mkB (k0 + m)) g1 j
      go_roundw
      case rel => exact ⟨m + 1, by omega, by go_num, by go_num, HW.out.setCell g1 _, fun j hj => by
          rw [hcell]
          by_cases e : j = m
          · rw [if_pos (by omega), e]
          · rw [if_neg (by omega)]; exact HM.out j (by omega), fun j hj => by
          rw [hcell, if_neg (by omega)]; exact HO.out j hj, fun h => absurd h (by omega)⟩
      case measure => simp [intOf]; omega
    · have e : m = n := by omega
      subst e
      go_wp2
      go_ret
      exact ⟨rfl, HW.out, HM.out, HO.out, HZ.out⟩

theorem markB_f {w : World} {v : Value} {s : ByteArray} {bl : List Nat} {k : Nat} (hs : s.size ≤ 100000000) (hk : k ≤ 1000000000000000000) (h : BF w v s bl) :
    Calls Tryz.prog 33 #[v, .int .i64 (k : Nat)] w fun e w' => e = .returned (.int .i64 (k + s.size : Nat)) ∧ BM w' v s.size k bl ∧ Wrs bl w w' := by
  obtain ⟨a, b, o, c, rfl, h2, rfl, h3⟩ := h
  refine (markB_w a b o s.size c k w hs hk h2 (fun j hj => ⟨_, (h3 j hj).1⟩) (fun j hj => (h3 j hj).2)).mono ?_
  rintro e w' ⟨he, hw, hm, _, hz0⟩
  refine ⟨he, ⟨a, b, o, c, rfl, h2, rfl, hm⟩, ⟨hw.os, hw.tape, hw.output, by rw [hw.size]; exact Nat.le_refl _, fun g hg ho => ?_⟩⟩
  by_cases hz : 0 < s.size
  · rw [if_pos hz] at ho
    exact hw.blk g (fun e => ho (List.mem_singleton.2 e))
  · by_cases e : g = b
    · subst e
      rw [hz0 (by omega)]
    · exact hw.blk g e
end Go.Proofs.YtijdlbanfdhfnaaGreatDoor

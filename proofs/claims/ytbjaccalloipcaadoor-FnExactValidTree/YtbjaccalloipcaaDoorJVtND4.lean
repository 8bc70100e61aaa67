/-
  The walk of toNodeS.
-/
import Derived.Test.YtbjaccalloipcaaDoorJVtND3
import Derived.Laws.MakeOwn
namespace Go.Proofs.YtbjaccalloipcaaDoor
open Go.RowKit

/-- A node's bounds: its lists are short. -/
structure NB (d : Nd) : Prop where
  text : d.text.size ≤ 1048576
  names : d.names.length ≤ 1048576
  each : ∀ j, j < d.names.length → (d.names.getD j .empty).size ≤ 1048576
  types : d.types.length ≤ 1048576

/-- A node whose slices are written out. -/
theorem NO.slices {w : World} {G : Nat} {d : Nd} {vt vn vy : Value} (h : NO w G d vt vn vy) : ∃ g1 n1 c1 g2 n2 c2 g3 n3 c3, vt = .slice (some ⟨g1, 0, none⟩) n1 c1 ∧ vn = .slice (some ⟨g2, 0, none⟩) n2 c2 ∧ vy = .slice (some ⟨g3, 0, none⟩) n3 c3 := by
  obtain ⟨⟨b, _, _, h1, _⟩, ⟨b2, c2, _, _, h2, _⟩, ⟨b3, c3, _, _, h3, _⟩⟩ := h
  exact ⟨_, _, _, _, _, _, _, _, _, h1, h2, h3⟩
theorem row_cell {w : World} {b n : Nat} {t : TypeId} (h : ∃ cur, Blk w b t cur ∧ cur.size = n) (j : Nat) (hj : j < n) : ∃ v, w.cell? ⟨b, j, none⟩ = some v := by
  obtain ⟨cur, h1, h2⟩ := h
  exact ⟨cur[j], by rw [h1.cell j, Array.getElem?_eq_getElem (by omega)]⟩
theorem row_set {w : World} {b n : Nat} {t : TypeId} (h : ∃ cur, Blk w b t cur ∧ cur.size = n) (k : Nat) (v : Value) : ∃ cur, Blk (w.setCell ⟨b, k, none⟩ v) b t cur ∧ cur.size = n := by
  obtain ⟨cur, h1, h2⟩ := h
  exact ⟨_, h1.set k v, by simpa using h2⟩

theorem set6 {w : World} {b p : Nat} {t : TypeId} {cur : Array Value} (h : Blk w b t cur) (hp : p + 6 ≤ cur.size) (x0 x1 x2 x3 x4 x5 : Value) : ∃ cur', Blk ((((((w.setCell ⟨b, p, none⟩ x0).setCell ⟨b, p + 1, none⟩ x1).setCell ⟨b, p + 2, none⟩ x2).setCell ⟨b, p + 3, none⟩ x3).setCell ⟨b, p + 4, none⟩ x4).setCell ⟨b, p + 5, none⟩ x5) b t cur' ∧ cur'.size = cur.size ∧ (cur'[p]? = some x0 ∧ cur'[p + 1]? = some x1 ∧ cur'[p + 2]? = some x2 ∧ cur'[p + 3]? = some x3 ∧ cur'[p + 4]? = some x4 ∧ cur'[p + 5]? = some x5) ∧ ∀ q, q < p ∨ p + 6 ≤ q → cur'[q]? = cur[q]? := by
  refine ⟨_, ((((((h.set (p) x0).set (p + 1) x1).set (p + 2) x2).set (p + 3) x3).set (p + 4) x4).set (p + 5) x5), by simp, ?_, fun q hq => ?_⟩
  · have h0 : p < cur.size := by omega
    have h1 : p + 1 < cur.size := by omega
    have h2 : p + 2 < cur.size := by omega
    have h3 : p + 3 < cur.size := by omega
    have h4 : p + 4 < cur.size := by omega
    have h5 : p + 5 < cur.size := by omega
    refine ⟨?_, ?_, ?_, ?_, ?_, ?_⟩ <;> simp [h0, h1, h2, h3, h4, h5]
  · have e0 : ¬ p = q := by omega
    have e1 : ¬ p + 1 = q := by omega
    have e2 : ¬ p + 2 = q := by omega
    have e3 : ¬ p + 3 = q := by omega
    have e4 : ¬ p + 4 = q := by omega
    have e5 : ¬ p + 5 = q := by omega
    simp [e0, e1, e2, e3, e4, e5]

set_option maxHeartbeats 2000000 in
set_option maxRecDepth 1000000 in
theorem toNS_any (v : Value) (L : List Nd) (w : World) (hs : L.length ≤ 1048576) (hz : ∀ j, j < L.length → NB (L.getD j .zero)) (h : NS w v L) :
    Calls Tryd.prog 6 #[v] w fun e w' => ∃ v', e = .returned v' ∧ NS w' v' L ∧ Below w.heap.size w w' := by
  obtain ⟨a0, b, off, cap, rfl, ha, hc⟩ := h
  obtain ⟨i0, hi0, hz0, hsz0, hby0⟩ : ∃ i : TypeInfo, Tryd.prog.info? 35 = some i ∧ i.zero = some (.agg #[.int .i64 0, .int .i64 0, .slice none 0 0, .slice none 0 0, .slice none 0 0, .int .i64 0]) ∧ i.size = 6 ∧ i.bytes = 96 := ⟨_, rfl, by kernel_rfl, by kernel_rfl, by kernel_rfl⟩
  have hmk := run_make (P := Tryd.prog) w 25 35 i0 _ Tryd.underlying25 hi0 hz0 .i64 .i64 L.length L.length (by omega) (Int.le_refl _) (by rw [hby0]; omega) (by omega)
  simp only [Int.toNat_natCast, hsz0] at hmk
  obtain ⟨CS, hCS⟩ : ∃ CS, madeCells (Value.agg #[.int .i64 0, .int .i64 0, .slice none 0 0, .slice none 0 0, .slice none 0 0, .int .i64 0]).cells (L.length * 6) = CS := ⟨_, rfl⟩
  have hCz : CS.size = L.length * 6 := by rw [← hCS]; exact size_madeCells _ _
  rw [hCS] at hmk
  have HC := hide hc
  have HZ := hide hz
  have HCZ := hide hCz
  clear hc hz hCS hCz hi0 hz0 hsz0 hby0
  go_enter Tryd.func6, Tryd.ntmps6
  go_wp2
  clear hmk
  go_loopw [4] (fun i wr => ∃ k : Nat, k ≤ L.length ∧ i = .int .i64 k ∧ (∃ cur, Blk wr w.heap.size 35 cur ∧ cur.size = L.length * 6) ∧ (∀ j, j < k → ∃ vt vn vy, NC wr w.heap.size (j * 6) (L.getD j .zero) vt vn vy ∧ NO wr w.heap.size (L.getD j .zero) vt vn vy) ∧ Below w.heap.size w wr) (fun i _ => L.length - (intOf i).toNat)
  case atStart => exact ⟨0, Nat.zero_le _, rfl, ⟨CS, Blk.new _ _ _, HCZ.out⟩, fun j hj => absurd hj (Nat.not_lt_zero _), (Below.refl _ _).alloc (Nat.le_refl _) _⟩
  case round =>
    obtain ⟨k, hk, rfl, hrow, hu, hbl⟩ := hrel
    have HROW := hide hrow
    have HU := hide hu
    have HBL := hide hbl
    by_cases hlt : k < L.length
    · obtain rfl := ha (by omega)
      obtain ⟨vt, vn, vy, hnc, hnv⟩ := HC.out k hlt
      have hnb := HZ.out k hlt
      obtain ⟨d, hd⟩ : ∃ d, L.getD k .zero = d := ⟨_, rfl⟩
      rw [hd] at hnc hnv hnb
      have HD := hide hd
      have HT := hide (toNd_any d vt vn vy wr hnb.text hnb.names hnb.each hnb.types (hnv.below hbl))
      obtain ⟨g0, g1, g2, g3, g4, g5⟩ := hnc.below hbl
      unfold nagg at HT
      obtain ⟨K, N, T, M, Y, C⟩ := d
      simp only at HT g0 g1 g5
      have d1 : decide ((k : Int) < (L.length : Int)) = true := decide_eq_true (by omega)
      clear hrow hu hbl hnc hnv hnb hd
      go_wp2_with fail
      refine HT.out.mono ?_
      rintro e w2 ⟨vt', vn', vy', rfl, hno, hb2⟩
      obtain ⟨cur, hcur0, hcz⟩ := HROW.out
      have hno' := hno w.heap.size hcur0.lt
      obtain ⟨g1', n1, c1', g2', n2, c2', g3', n3, c3', rfl, rfl, rfl⟩ := hno'.slices
      have HN2 := hide hno'
      have hcur := hcur0.below hb2
      obtain ⟨y0, r0⟩ := row_cell ⟨cur, hcur, hcz⟩ (k * 6) (by omega)
      have s0 := hcur.frozen (k * 6)
      obtain ⟨y1, r1⟩ := row_cell ⟨cur, hcur, hcz⟩ (k * 6 + 1) (by omega)
      have s1 := hcur.frozen (k * 6 + 1)
      obtain ⟨y2, r2⟩ := row_cell ⟨cur, hcur, hcz⟩ (k * 6 + 2) (by omega)
      have s2 := hcur.frozen (k * 6 + 2)
      obtain ⟨y3, r3⟩ := row_cell ⟨cur, hcur, hcz⟩ (k * 6 + 3) (by omega)
      have s3 := hcur.frozen (k * 6 + 3)
      obtain ⟨y4, r4⟩ := row_cell ⟨cur, hcur, hcz⟩ (k * 6 + 4) (by omega)
      have s4 := hcur.frozen (k * 6 + 4)
      obtain ⟨y5, r5⟩ := row_cell ⟨cur, hcur, hcz⟩ (k * 6 + 5) (by omega)
      have s5 := hcur.frozen (k * 6 + 5)
      have HCUR := hide hcur
      have HCZ2 := hide hcz
      have HB2 := hide hb2
      have HBW : Hid (Below w.heap.size w w2) := HBL.out.trans (hb2.mono HBL.out.size)
      clear hcur hcz hb2 hno hno' hcur0 HT
      go_wp2
      go_roundw
      case rel =>
        have hp6 : k * 6 + 6 ≤ cur.size := by have := HCZ2.out; omega
        obtain ⟨cur', h1, h2, ⟨k0, k1, k2, k3, k4, k5⟩, h3⟩ := set6 HCUR.out hp6 (.int .i64 K) (.int .i64 N) (.slice (some ⟨g1', 0, none⟩) n1 c1') (.slice (some ⟨g2', 0, none⟩) n2 c2') (.slice (some ⟨g3', 0, none⟩) n3 c3') (.int .i64 C)
        refine ⟨k + 1, by omega, by go_num, ⟨cur', h1, h2.trans HCZ2.out⟩, fun j hj => ?_, ((((((HBW.out.setCell (Nat.le_refl _) _).setCell (Nat.le_refl _) _).setCell (Nat.le_refl _) _).setCell (Nat.le_refl _) _).setCell (Nat.le_refl _) _).setCell (Nat.le_refl _) _)⟩
        by_cases e : j = k
        · subst e
          rw [HD.out]
          exact ⟨_, _, _, ⟨(h1.cell _).trans k0, (h1.cell _).trans k1, (h1.cell _).trans k2, (h1.cell _).trans k3, (h1.cell _).trans k4, (h1.cell _).trans k5⟩, ((((((HN2.out).set).set).set).set).set).set⟩
        · obtain ⟨vt, vn, vy, q1, q2⟩ := HU.out j (by omega)
          have q1' := q1.below HB2.out
          have c : ∀ i, i < 6 → cur'[j * 6 + i]? = cur[j * 6 + i]? := fun i hi => h3 _ (by omega)
          exact ⟨vt, vn, vy, ⟨(h1.cell _).trans ((c 0 (by omega)).trans ((HCUR.out.cell _).symm.trans q1'.kind)), (h1.cell _).trans ((c 1 (by omega)).trans ((HCUR.out.cell _).symm.trans q1'.n)), (h1.cell _).trans ((c 2 (by omega)).trans ((HCUR.out.cell _).symm.trans q1'.text)), (h1.cell _).trans ((c 3 (by omega)).trans ((HCUR.out.cell _).symm.trans q1'.names)), (h1.cell _).trans ((c 4 (by omega)).trans ((HCUR.out.cell _).symm.trans q1'.types)), (h1.cell _).trans ((c 5 (by omega)).trans ((HCUR.out.cell _).symm.trans q1'.count))⟩, ((((((q2.below HB2.out).set).set).set).set).set).set⟩
      case measure => simp [intOf]; omega
    · have d1 : decide ((k : Int) < (L.length : Int)) = false := decide_eq_false (by omega)
      clear hrow hu hbl
      go_wp2
      go_ret
      exact ⟨_, rfl, ⟨_, w.heap.size, 0, _, rfl, fun _ => rfl, fun j hj => by
        obtain ⟨vt, vn, vy, h1, h2⟩ := HU.out j (by omega)
        exact ⟨vt, vn, vy, by rw [Nat.zero_add]; exact h1, h2.nv⟩⟩, HBL.out⟩
end Go.Proofs.YtbjaccalloipcaaDoor

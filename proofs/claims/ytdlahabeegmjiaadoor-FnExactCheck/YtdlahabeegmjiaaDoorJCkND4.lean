/-
  The walk of toNodeS.
  The walks of validNames, validFields.
  The walk of validFields.
-/
import Derived.Test.YtdlahabeegmjiaaDoorJCkIN1
import Derived.Laws.MakeOwn
import Derived.Test.YtdlahabeegmjiaaDoorJCkCV
import Derived.BigQuiet
import Derived.Deep.QuietTactic
import Derived.Deep.RegionWith
namespace Go.Proofs.YtdlahabeegmjiaaDoor
open Go.RowKit

/-- A node's bounds: its lists are short. -/
structure NB (d : Nd) : Prop where
  text : d.text.size ≤ 1048576
  names : d.names.length ≤ 1048576
  each : ∀ j, j < d.names.length → (d.names.getD j .empty).size ≤ 1048576
  types : d.types.length ≤ 1048576

/-- A node whose slices are written out. -/
theorem NO.slices {w : World} {G : Nat} {d : Nd} {vt vn vy : Value} (h : NO w G d vt vn vy) : ∃ g1 n1 c1 g2 n2 c2 g3 n3 c3, vt = .slice (some ⟨g1, 0, none⟩) n1 c1 ∧ vn = .slice (some ⟨g2, 0, none⟩) n2 c2 ∧ vy = .slice (some ⟨g3, 0, none⟩) n3 c3 := by
  obtain ⟨⟨b, _, _, h1, _⟩, ⟨b2, c2, _, _, h2, _⟩, ⟨b3, c3, _, _, h3, _⟩⟩ := h
  exact ⟨_, _, _, _, _, _, _, _, _, h1, h2, h3⟩
theorem row_cell {w : World} {b n : Nat} {t : TypeId} (h : ∃ cur, Blk w b t cur ∧ cur.size = n) (j : Nat) (hj : j < n) : ∃ v, w.cell? ⟨b, j, none⟩ = some v := by
  obtain ⟨cur, h1, h2⟩ := h
  exact ⟨cur[j], by rw [h1.cell j, Array.getElem?_eq_getElem (by omega)]⟩
theorem row_set {w : World} {b n : Nat} {t : TypeId} (h : ∃ cur, Blk w b t cur ∧ cur.size = n) (k : Nat) (v : Value) : ∃ cur, Blk (w.setCell ⟨b, k, none⟩ v) b t cur ∧ cur.size = n := by
  obtain ⟨cur, h1, h2⟩ := h
  exact ⟨_, h1.set k v, by simpa using h2⟩

theorem set6 {w : World} {b p : Nat} {t : TypeId} {cur : Array Value} (h : Blk w b t cur) (hp : p + 6 ≤ cur.size) (x0 x1 x2 x3 x4 x5 : Value) : ∃ cur', Blk ((((((w.setCell ⟨b, p, none⟩ x0).setCell ⟨b, p + 1, none⟩ x1).setCell ⟨b, p + 2, none⟩ x2).setCell ⟨b, p + 3, none⟩ x3).setCell ⟨b, p + 4, none⟩ x4).setCell ⟨b, p + 5, none⟩ x5) b t cur' ∧ cur'.size = cur.size ∧ (cur'[p]? = some x0 ∧ cur'[p + 1]? = some x1 ∧ cur'[p + 2]? = some x2 ∧ cur'[p + 3]? = some x3 ∧ cur'[p + 4]? = some x4 ∧ cur'[p + 5]? = some x5) ∧ ∀ q, q < p ∨ p + 6 ≤ q → cur'[q]? = cur[q]? := by
  refine ⟨_, ((((((h.set (p) x0).set (p + 1) x1).set (p + 2) x2).set (p + 3) x3).set (p + 4) x4).set (p + 5) x5), by simp, ?_, fun q hq => ?_⟩
  · have h0 : p < cur.size := by omega
    have h1 : p + 1 < cur.size := by omega
    have h2 : p + 2 < cur.size := by omega
    have h3 : p + 3 < cur.size := by omega
    have h4 : p + 4 < cur.size := by omega
    have h5 : p + 5 < cur.size := by omega
    refine ⟨?_, ?_, ?_, ?_, ?_, ?_⟩ <;> simp [h0, h1, h2, h3, h4, h5]
  · have e0 : ¬ p = q := by omega
    have e1 : ¬ p + 1 = q := by omega
    have e2 : ¬ p + 2 = q := by omega
    have e3 : ¬ p + 3 = q := by omega
    have e4 : ¬ p + 4 = q := by omega
    have e5 : ¬ p + 5 = q := by omega
    simp [e0, e1, e2, e3, e4, e5]

set_option maxHeartbeats 2000000 in
set_option maxRecDepth 1000000 in
theorem toNS_any (v : Value) (L : List Nd) (w : World) (hs : L.length ≤ 1048576) (hz : ∀ j, j < L.length → NB (L.getD j .zero)) (h : NS w v L) :
    Calls Tryd.prog 6 #[v] w fun e w' => ∃ v', e = .returned v' ∧ NS w' v' L ∧ Below w.heap.size w w' := by
  obtain ⟨a0, b, off, cap, rfl, ha, hc⟩ := h
  obtain ⟨i0, hi0, hz0, hsz0, hby0⟩ : ∃ i : TypeInfo, Tryd.prog.info? 42 = some i ∧ i.zero = some (.agg #[.int .i64 0, .int .i64 0, .slice none 0 0, .slice none 0 0, .slice none 0 0, .int .i64 0]) ∧ i.size = 6 ∧ i.bytes = 96 := ⟨_, rfl, by kernel_rfl, by kernel_rfl, by kernel_rfl⟩
  have hmk := run_make (P := Tryd.prog) w 26 42 i0 _ Tryd.underlying26 hi0 hz0 .i64 .i64 L.length L.length (by omega) (Int.le_refl _) (by rw [hby0]; omega) (by omega)
  simp only [Int.toNat_natCast, hsz0] at hmk
  obtain ⟨CS, hCS⟩ : ∃ CS, madeCells (Value.agg #[.int .i64 0, .int .i64 0, .slice none 0 0, .slice none 0 0, .slice none 0 0, .int .i64 0]).cells (L.length * 6) = CS := ⟨_, rfl⟩
  have hCz : CS.size = L.length * 6 := by rw [← hCS]; exact size_madeCells _ _
  rw [hCS] at hmk
  have HC := hide hc
  have HZ := hide hz
  have HCZ := hide hCz
  clear hc hz hCS hCz hi0 hz0 hsz0 hby0
  go_enter Tryd.func6, Tryd.ntmps6
  go_wp2
  clear hmk
  go_loopw [4] (fun i wr => ∃ k : Nat, k ≤ L.length ∧ i = .int .i64 k ∧ (∃ cur, Blk wr w.heap.size 42 cur ∧ cur.size = L.length * 6) ∧ (∀ j, j < k → ∃ vt vn vy, NC wr w.heap.size (j * 6) (L.getD j .zero) vt vn vy ∧ NO wr w.heap.size (L.getD j .zero) vt vn vy) ∧ Below w.heap.size w wr) (fun i _ => L.length - (intOf i).toNat)
  case atStart => exact ⟨0, Nat.zero_le _, rfl, ⟨CS, Blk.new _ _ _, HCZ.out⟩, fun j hj => absurd hj (Nat.not_lt_zero _), (Below.refl _ _).alloc (Nat.le_refl _) _⟩
  case round =>
    obtain ⟨k, hk, rfl, hrow, hu, hbl⟩ := hrel
    have HROW := hide hrow
    have HU := hide hu
    have HBL := hide hbl
    by_cases hlt : k < L.length
    · obtain rfl := ha (by omega)
      obtain ⟨vt, vn, vy, hnc, hnv⟩ := HC.out k hlt
      have hnb := HZ.out k hlt
      obtain ⟨d, hd⟩ : ∃ d, L.getD k .zero = d := ⟨_, rfl⟩
      rw [hd] at hnc hnv hnb
      have HD := hide hd
      have HT := hide (toNd_any d vt vn vy wr hnb.text hnb.names hnb.each hnb.types (hnv.below hbl))
      obtain ⟨g0, g1, g2, g3, g4, g5⟩ := hnc.below hbl
      unfold nagg at HT
      obtain ⟨K, N, T, M, Y, C⟩ := d
      simp only at HT g0 g1 g5
      have d1 : decide ((k : Int) < (L.length : Int)) = true := decide_eq_true (by omega)
      clear hrow hu hbl hnc hnv hnb hd
      go_wp2_with fail
      refine HT.out.mono ?_
      rintro e w2 ⟨vt', vn', vy', rfl, hno, hb2⟩
      obtain ⟨cur, hcur0, hcz⟩ := HROW.out
      have hno' := hno w.heap.size hcur0.lt
      obtain ⟨g1', n1, c1', g2', n2, c2', g3', n3, c3', rfl, rfl, rfl⟩ := hno'.slices
      have HN2 := hide hno'
      have hcur := hcur0.below hb2
      obtain ⟨y0, r0⟩ := row_cell ⟨cur, hcur, hcz⟩ (k * 6) (by omega)
      have s0 := hcur.frozen (k * 6)
      obtain ⟨y1, r1⟩ := row_cell ⟨cur, hcur, hcz⟩ (k * 6 + 1) (by omega)
      have s1 := hcur.frozen (k * 6 + 1)
      obtain ⟨y2, r2⟩ := row_cell ⟨cur, hcur, hcz⟩ (k * 6 + 2) (by omega)
      have s2 := hcur.frozen (k * 6 + 2)
      obtain ⟨y3, r3⟩ := row_cell ⟨cur, hcur, hcz⟩ (k * 6 + 3) (by omega)
      have s3 := hcur.frozen (k * 6 + 3)
      obtain ⟨y4, r4⟩ := row_cell ⟨cur, hcur, hcz⟩ (k * 6 + 4) (by omega)
      have s4 := hcur.frozen (k * 6 + 4)
      obtain ⟨y5, r5⟩ := row_cell ⟨cur, hcur, hcz⟩ (k * 6 + 5) (by omega)
      have s5 := hcur.frozen (k * 6 + 5)
      have HCUR := hide hcur
      have HCZ2 := hide hcz
      have HB2 := hide hb2
      have HBW : Hid (Below w.heap.size w w2) := HBL.out.trans (hb2.mono HBL.out.size)
      clear hcur hcz hb2 hno hno' hcur0 HT
      go_wp2
      go_roundw
      case rel =>
        have hp6 : k * 6 + 6 ≤ cur.size := by have := HCZ2.out; omega
        obtain ⟨cur', h1, h2, ⟨k0, k1, k2, k3, k4, k5⟩, h3⟩ := set6 HCUR.out hp6 (.int .i64 K) (.int .i64 N) (.slice (some ⟨g1', 0, none⟩) n1 c1') (.slice (some ⟨g2', 0, none⟩) n2 c2') (.slice (some ⟨g3', 0, none⟩) n3 c3') (.int .i64 C)
        refine ⟨k + 1, by omega, by go_num, ⟨cur', h1, h2.trans HCZ2.out⟩, fun j hj => ?_, ((((((HBW.out.setCell (Nat.le_refl _) _).setCell (Nat.le_refl _) _).setCell (Nat.le_refl _) _).setCell (Nat.le_refl _) _).setCell (Nat.le_refl _) _).setCell (Nat.le_refl _) _)⟩
        by_cases e : j = k
        · subst e
          rw [HD.out]
          exact ⟨_, _, _, ⟨(h1.cell _).trans k0, (h1.cell _).trans k1, (h1.cell _).trans k2, (h1.cell _).trans k3, (h1.cell _).trans k4, (h1.cell _).trans k5⟩, ((((((HN2.out).set).set).set).set).set).set⟩
        · obtain ⟨vt, vn, vy, q1, q2⟩ := HU.out j (by omega)
          have q1' := q1.below HB2.out
          have c : ∀ i, i < 6 → cur'[j * 6 + i]? = cur[j * 6 + i]? := fun i hi => h3 _ (by omega)
          exact ⟨vt, vn, vy, ⟨(h1.cell _).trans ((c 0 (by omega)).trans ((HCUR.out.cell _).symm.trans q1'.kind)), (h1.cell _).trans ((c 1 (by omega)).trans ((HCUR.out.cell _).symm.trans q1'.n)), (h1.cell _).trans ((c 2 (by omega)).trans ((HCUR.out.cell _).symm.trans q1'.text)), (h1.cell _).trans ((c 3 (by omega)).trans ((HCUR.out.cell _).symm.trans q1'.names)), (h1.cell _).trans ((c 4 (by omega)).trans ((HCUR.out.cell _).symm.trans q1'.types)), (h1.cell _).trans ((c 5 (by omega)).trans ((HCUR.out.cell _).symm.trans q1'.count))⟩, ((((((q2.below HB2.out).set).set).set).set).set).set⟩
      case measure => simp [intOf]; omega
    · have d1 : decide ((k : Int) < (L.length : Int)) = false := decide_eq_false (by omega)
      clear hrow hu hbl
      go_wp2
      go_ret
      exact ⟨_, rfl, ⟨_, w.heap.size, 0, _, rfl, fun _ => rfl, fun j hj => by
        obtain ⟨vt, vn, vy, h1, h2⟩ := HU.out j (by omega)
        exact ⟨vt, vn, vy, by rw [Nat.zero_add]; exact h1, h2.nv⟩⟩, HBL.out⟩
end Go.Proofs.YtdlahabeegmjiaaDoor

namespace Go.Proofs.YtdlahabeegmjiaaDoor
open Go.RowKit

/-- Whether a node's names may stand. -/
def vNs (d : Nd) : Bool := ((d.names.length : Int) == nOf d) && d.names.all vNm
set_option maxHeartbeats 2000000 in
set_option maxRecDepth 1000000 in
theorem validNames_any (d : Nd) (vt vn vy : Value) (w : World) (h : NV w d vt vn vy) (hb : NB d) (hT : Lib.Utf8Tabs 0 1 w) :
    Calls Tryd.prog 64 #[nagg d vt vn vy] w fun e w' => e = .returned (.bool (vNs d)) ∧ Below w.heap.size w w' := by
  obtain ⟨W1, hW1⟩ : ∃ W1, w.alloc (.cells #[.int .i64 d.kind, .int .i64 d.n, vt, vn, vy, .int .i64 d.count] 42) = W1 := ⟨_, rfl⟩
  have hB1 : Below w.heap.size w W1 := by rw [← hW1]; exact (Below.refl _ _).alloc (Nat.le_refl _) _
  have hBk : Blk W1 w.heap.size 42 #[.int .i64 d.kind, .int .i64 d.n, vt, vn, vy, .int .i64 d.count] := by rw [← hW1]; exact Blk.new _ _ _
  have HO := hide (namesOf_any d vt vn vy W1.drew (h.types.below hB1.drew) hb.types)
  have HN : Hid (vNs d = (((d.names.length : Int) == nOf d) && d.names.all vNm)) := rfl
  have HS := hide h.names
  have HE := hide hb.each
  have HT := hide hT
  have hML := hb.names
  obtain ⟨Z, hZ⟩ : ∃ Z, nOf d = Z := ⟨_, rfl⟩
  rw [hZ] at HO HN
  obtain ⟨an, bn, on, cn, hvn, han, hcn⟩ := h.names
  subst hvn
  have HC := hide hcn
  unfold nagg at *
  obtain ⟨K, N, T, M, Y, C⟩ := d
  simp only at HO HN HS HE han HC hBk hW1 hML ⊢
  have HW := hide hW1
  have HB1 := hide hB1
  have HBK := hide hBk
  clear hW1 hB1 hBk hcn h hb hT hZ
  have b0 := HBK.out.cell 0
  have b1 := HBK.out.cell 1
  have b2 := HBK.out.cell 2
  have b3 := HBK.out.cell 3
  have b4 := HBK.out.cell 4
  have b5 := HBK.out.cell 5
  simp only [List.getElem?_toArray, List.getElem?_cons_succ, List.getElem?_cons_zero] at b0 b1 b2 b3 b4 b5
  have hmx : Tryd.prog.follows .mixedOrders = true := by kernel_rfl
  have HK : Hid (∀ w2, Below W1.drew.heap.size W1.drew w2 → w2.cell? ⟨w.heap.size, 3, none⟩ = some (.slice an M.length cn) ∧ Below w.heap.size w w2) := fun w2 hb2 =>
    ⟨by have := cell_kept (w := W1.drew) (p := ⟨w.heap.size, 3, none⟩) b3 hb2; exact this, HB1.out.drew.trans (hb2.mono HB1.out.size)⟩
  by_cases hne : (M.length : Int) = Z
  · have e1 : ((M.length : Int) != Z) = false := by rw [bne_eq_false_iff_eq]; exact hne
    have HN2 : Hid (vNs ⟨K, N, T, M, Y, C⟩ = M.all vNm) := by show _ = _; rw [HN.out, beq_iff_eq.2 hne]; rfl
    clear hne
    go_enter Tryd.func64, Tryd.ntmps64
    go_wp2_with fail
    rw [HW.out]
    go_region_with (go_at_call 79; refine HO.out.mono ?_; rintro e w2 ⟨rfl, hb2⟩; have c3 := (HK.out w2 hb2).1; have HB2 := hide (HK.out w2 hb2).2; clear hb2)
    all_goals go_wp2
    all_goals
      go_loopw [14] (fun ix wr => ∃ k : Nat, k ≤ M.length ∧ ix = .int .i64 k ∧ (M.drop k).all vNm = M.all vNm ∧ Below w.heap.size w wr) (fun ix _ => M.length - (intOf ix).toNat)
      case atStart => exact ⟨0, Nat.zero_le _, rfl, rfl, HB2.out⟩
      case round =>
        obtain ⟨k, hk, rfl, hok, hb⟩ := hrel
        have HB := hide hb
        by_cases hlt : k < M.length
        · obtain rfl := han (by omega)
          obtain ⟨x, hx, hxs⟩ := HC.out k hlt
          have g := cell_kept hx hb
          have hz := HE.out k hlt
          have hd : M.drop k = M.getD k .empty :: M.drop (k + 1) := by
            rw [List.drop_eq_getElem_cons hlt, List.getD_eq_getElem?_getD, List.getElem?_eq_getElem hlt]; rfl
          rw [hd, List.all_cons] at hok
          obtain ⟨s, hs⟩ : ∃ s, M.getD k .empty = s := ⟨_, rfl⟩
          rw [hs] at hxs hz hok
          have HV := hide (validName_any x s wr (hxs.below hb) hz (Utf8Tabs_below HT.out hb))
          obtain ⟨B, hB⟩ : ∃ B, vNm s = B := ⟨_, rfl⟩
          rw [hB] at HV hok
          have HOK := hide hok
          have hlti : (k : Int) < (M.length : Int) := by omega
          clear hd hs hx hxs hz hok hB hb
          go_wp2_with fail
          refine HV.out.mono ?_
          rintro e w4 ⟨rfl, hb4⟩
          have HB4 : Hid (Below w.heap.size w w4) := HB.out.trans (hb4.mono HB.out.size)
          clear hb4
          cases B with
          | true =>
            have HR : Hid ((M.drop (k + 1)).all vNm = M.all vNm) := HOK.out
            go_wp2
            go_roundw
            case rel => exact ⟨k + 1, by omega, by go_num, HR.out, HB4.out⟩
            case measure => simp [intOf]; omega
          | false =>
            have HR : Hid (M.all vNm = false) := HOK.out.symm
            go_wp2
            go_ret
            exact ⟨by rw [HN2.out, HR.out]; rfl, HB4.out⟩
        · have e : k = M.length := by omega
          have hge : ¬ (k : Int) < (M.length : Int) := by omega
          have HR : Hid (M.all vNm = true) := by show _ = _; rw [← hok, e, List.drop_length]; rfl
          clear hok hb
          go_wp2
          go_ret
          exact ⟨by rw [HN2.out, HR.out]; rfl, HB.out⟩
  · have e1 : ((M.length : Int) != Z) = true := by rw [bne_iff_ne]; exact hne
    have HN2 : Hid (vNs ⟨K, N, T, M, Y, C⟩ = false) := by show _ = _; rw [HN.out, beq_eq_false_iff_ne.2 hne]; rfl
    clear hne
    go_enter Tryd.func64, Tryd.ntmps64
    go_wp2_with fail
    rw [HW.out]
    go_region_with (go_at_call 79; refine HO.out.mono ?_; rintro e w2 ⟨rfl, hb2⟩; have c3 := (HK.out w2 hb2).1; have HB2 := hide (HK.out w2 hb2).2; clear hb2)
    all_goals go_wp2
    all_goals go_ret
    all_goals exact ⟨by rw [HN2.out]; rfl, HB2.out⟩
end Go.Proofs.YtdlahabeegmjiaaDoor

namespace Go.Proofs.YtdlahabeegmjiaaDoor
open Go.RowKit

/-- Whether a node's fields may stand. -/
def vFd (d : Nd) : Bool := decide (0 ≤ d.n) && (decide (d.n ≤ gNk d.kind) && (vTx d && (vTy d && vNs d)))
set_option maxHeartbeats 2000000 in
set_option maxRecDepth 1000000 in
theorem validFields_any (d : Nd) (vt vn vy : Value) (w : World) (h : NV w d vt vn vy) (hb : NB d) (hT : Lib.Utf8Tabs 0 1 w) :
    Calls Tryd.prog 47 #[nagg d vt vn vy] w fun e w' => e = .returned (.bool (vFd d)) ∧ Below w.heap.size w w' := by
  obtain ⟨W1, hW1⟩ : ∃ W1, w.alloc (.cells #[.int .i64 d.kind, .int .i64 d.n, vt, vn, vy, .int .i64 d.count] 42) = W1 := ⟨_, rfl⟩
  have hB1 : Below w.heap.size w W1 := by rw [← hW1]; exact (Below.refl _ _).alloc (Nat.le_refl _) _
  have hBk : Blk W1 w.heap.size 42 #[.int .i64 d.kind, .int .i64 d.n, vt, vn, vy, .int .i64 d.count] := by rw [← hW1]; exact Blk.new _ _ _
  have HX := hide (fun w2 (hb2 : Below w.heap.size w w2) => validText_any d vt vn vy w2 (h.text.below hb2) hb.text (Utf8Tabs_below hT hb2))
  have HY := hide (fun w2 (hb2 : Below w.heap.size w w2) => validTypes_any d vt vn vy w2 (h.types.below hb2) hb.types)
  have HZ := hide (fun w2 (hb2 : Below w.heap.size w w2) => validNames_any d vt vn vy w2 (h.below hb2) hb (Utf8Tabs_below hT hb2))
  have HG := hide (fun w => greatestN_any d.kind w)
  have HN : Hid (vFd d = (decide (0 ≤ d.n) && (decide (d.n ≤ gNk d.kind) && (vTx d && (vTy d && vNs d))))) := rfl
  obtain ⟨X, hX⟩ : ∃ X, vTx d = X := ⟨_, rfl⟩
  obtain ⟨Y, hY⟩ : ∃ Y, vTy d = Y := ⟨_, rfl⟩
  obtain ⟨Z, hZ⟩ : ∃ Z, vNs d = Z := ⟨_, rfl⟩
  obtain ⟨V, hV⟩ : ∃ V, vFd d = V := ⟨_, rfl⟩
  obtain ⟨G, hG⟩ : ∃ G, gNk d.kind = G := ⟨_, rfl⟩
  simp only [hX] at HX HN
  simp only [hY] at HY HN
  simp only [hZ] at HZ HN
  simp only [hG] at HG HN
  simp only [hV] at HN ⊢
  unfold nagg at *
  obtain ⟨K, N, T, M, S, C⟩ := d
  simp only at HX HY HZ HG HN hBk hW1 ⊢
  have HW := hide hW1
  have HB1 := hide hB1
  have HBK := hide hBk
  clear hW1 hB1 hBk h hb hT hX hY hZ hV hG
  have b0 := HBK.out.cell 0
  have b1 := HBK.out.cell 1
  have b2 := HBK.out.cell 2
  have b3 := HBK.out.cell 3
  have b4 := HBK.out.cell 4
  have b5 := HBK.out.cell 5
  simp only [List.getElem?_toArray, List.getElem?_cons_succ, List.getElem?_cons_zero] at b0 b1 b2 b3 b4 b5
  have HK : Hid (∀ w2, Below W1.drew.heap.size W1.drew w2 → w2.cell? ⟨w.heap.size, 0, none⟩ = some (.int .i64 K) ∧ w2.cell? ⟨w.heap.size, 1, none⟩ = some (.int .i64 N) ∧ w2.cell? ⟨w.heap.size, 2, none⟩ = some vt ∧ w2.cell? ⟨w.heap.size, 3, none⟩ = some vn ∧ w2.cell? ⟨w.heap.size, 4, none⟩ = some vy ∧ w2.cell? ⟨w.heap.size, 5, none⟩ = some (.int .i64 C) ∧ Below w.heap.size w w2) := fun w2 hb2 =>
    ⟨by have := cell_kept (w := W1.drew) (p := ⟨w.heap.size, 0, none⟩) b0 hb2; exact this, by have := cell_kept (w := W1.drew) (p := ⟨w.heap.size, 1, none⟩) b1 hb2; exact this, by have := cell_kept (w := W1.drew) (p := ⟨w.heap.size, 2, none⟩) b2 hb2; exact this, by have := cell_kept (w := W1.drew) (p := ⟨w.heap.size, 3, none⟩) b3 hb2; exact this, by have := cell_kept (w := W1.drew) (p := ⟨w.heap.size, 4, none⟩) b4 hb2; exact this, by have := cell_kept (w := W1.drew) (p := ⟨w.heap.size, 5, none⟩) b5 hb2; exact this, HB1.out.drew.trans (hb2.mono HB1.out.size)⟩
  have hmx : Tryd.prog.follows .mixedOrders = true := by kernel_rfl
  by_cases h0 : 0 ≤ N
  · have d0 : decide ((0 : Int) ≤ N) = true := decide_eq_true h0
    rw [d0, Bool.true_and] at HN
    by_cases h1 : N ≤ G
    · have d1 : decide (N ≤ G) = true := decide_eq_true h1
      rw [d1, Bool.true_and] at HN
      clear h0 h1
      cases X with
      | false =>
        go_enter Tryd.func47, Tryd.ntmps47
        go_wp2_with fail
        rw [HW.out]
        go_region_with (first
          | (go_at_call 61; refine (HG.out _).mono ?_; rintro e w2 ⟨rfl, rfl⟩)
          | (go_at_call 62; refine (HX.out _ HB1.out.drew).mono ?_; rintro e w2 ⟨rfl, hb2⟩; have HB2 := hide (HK.out w2 hb2).2.2.2.2.2.2; clear hb2))
        all_goals go_wp2
        all_goals go_ret
        all_goals exact ⟨by rw [HN.out]; rfl, HB2.out⟩
      | true =>
        cases Y with
        | false =>
          go_enter Tryd.func47, Tryd.ntmps47
          go_wp2_with fail
          rw [HW.out]
          go_region_with (first
            | (go_at_call 61; refine (HG.out _).mono ?_; rintro e w2 ⟨rfl, rfl⟩)
            | (go_at_call 62; refine (HX.out _ HB1.out.drew).mono ?_; rintro e w2 ⟨rfl, hb2⟩; obtain ⟨c0, c1, c2, c3, c4, c5, HB2'⟩ := HK.out w2 hb2; have HB2 := hide HB2'; have HD2 := hide hb2; clear hb2 HB2')
            | (go_at_call 63; refine (HY.out _ HB2.out).mono ?_; rintro e w3 ⟨rfl, hb3⟩; have HB3 := hide (HB2.out.trans (hb3.mono HB2.out.size)); clear hb3))
          all_goals go_wp2
          all_goals go_ret
          all_goals exact ⟨by rw [HN.out]; rfl, HB3.out⟩
        | true =>
          go_enter Tryd.func47, Tryd.ntmps47
          go_wp2_with fail
          rw [HW.out]
          go_region_with (first
            | (go_at_call 61; refine (HG.out _).mono ?_; rintro e w2 ⟨rfl, rfl⟩)
            | (go_at_call 62; refine (HX.out _ HB1.out.drew).mono ?_; rintro e w2 ⟨rfl, hb2⟩; obtain ⟨c0, c1, c2, c3, c4, c5, HB2'⟩ := HK.out w2 hb2; have HB2 := hide HB2'; have HD2 := hide hb2; clear hb2 HB2')
            | (go_at_call 63; refine (HY.out _ HB2.out).mono ?_; rintro e w3 ⟨rfl, hb3⟩; obtain ⟨e0, e1, e2, e3, e4, e5, HB3'⟩ := HK.out w3 (HD2.out.trans (hb3.mono HD2.out.size)); have HB3 := hide HB3'; clear hb3 HB3')
            | (go_at_call 64; refine (HZ.out _ HB3.out).mono ?_; rintro e w4 ⟨rfl, hb4⟩; have HB4 := hide (HB3.out.trans (hb4.mono HB3.out.size)); clear hb4))
          all_goals go_wp2
          all_goals go_ret
          all_goals exact ⟨by rw [HN.out]; rfl, HB4.out⟩
    · have d1 : decide (N ≤ G) = false := decide_eq_false h1
      rw [d1, Bool.false_and] at HN
      have HBD := hide HB1.out.drew
      clear h0 h1
      go_enter Tryd.func47, Tryd.ntmps47
      go_wp2_with fail
      rw [HW.out]
      go_region_with (go_at_call 61; refine (HG.out _).mono ?_; rintro e w2 ⟨rfl, rfl⟩)
      all_goals go_wp2
      all_goals go_ret
      all_goals exact ⟨by rw [HN.out]; rfl, HBD.out⟩
  · have d0 : decide ((0 : Int) ≤ N) = false := decide_eq_false h0
    rw [d0, Bool.false_and] at HN
    have HBD := hide HB1.out.drew
    clear h0
    go_enter Tryd.func47, Tryd.ntmps47
    go_wp2_with fail
    rw [HW.out]
    go_region
    all_goals go_wp2
    all_goals go_ret
    all_goals exact ⟨by rw [HN.out]; rfl, HBD.out⟩
end Go.Proofs.YtdlahabeegmjiaaDoor

/-
  The walk of toTargetS.
  The walk of eqTarget, where both read as the same.
  The walk of eqTargetS, where both read as the same.
  The walk of szTarget.
-/
import Derived.Test.YteicpjbeihabnaaDoorJRunFleetIIS0
import Derived.Test.YteicpjbeihabnaaDoorJRunFleetIB
import Derived.BigQuiet
import Derived.Deep.QuietTactic
import Derived.Deep.RegionWith
namespace Go.Proofs.YteicpjbeihabnaaDoor
open Go.RowKit

theorem row_cellTg {w : World} {b n : Nat} {t : TypeId} (h : ∃ cur, Blk w b t cur ∧ cur.size = n) (j : Nat) (hj : j < n) : ∃ v, w.cell? ⟨b, j, none⟩ = some v := by
  obtain ⟨cur, h1, h2⟩ := h
  exact ⟨cur[j], by rw [h1.cell j, Array.getElem?_eq_getElem (by omega)]⟩
theorem setTg {w : World} {b p : Nat} {t : TypeId} {cur : Array Value} (h : Blk w b t cur) (hp : p + 3 ≤ cur.size) (y0 y1 y2 : Value) : ∃ cur', Blk (((w.setCell ⟨b, p, none⟩ y0).setCell ⟨b, p + 1, none⟩ y1).setCell ⟨b, p + 2, none⟩ y2) b t cur' ∧ cur'.size = cur.size ∧ (cur'[p]? = some y0 ∧ cur'[p + 1]? = some y1 ∧ cur'[p + 2]? = some y2) ∧ ∀ q, q < p ∨ p + 3 ≤ q → cur'[q]? = cur[q]? := by
  refine ⟨_, (((h.set (p) y0).set (p + 1) y1).set (p + 2) y2), by simp, ?_, fun q hq => ?_⟩
  · have h0 : p < cur.size := by omega
    have h1 : p + 1 < cur.size := by omega
    have h2 : p + 2 < cur.size := by omega
    refine ⟨?_, ?_, ?_⟩ <;> simp [h0, h1, h2]
  · have e0 : ¬ p = q := by omega
    have e1 : ¬ p + 1 = q := by omega
    have e2 : ¬ p + 2 = q := by omega
    simp [e0, e1, e2]

set_option maxHeartbeats 2000000 in
set_option maxRecDepth 1000000 in
theorem toTgS_cp {w : World} {v : Value} {L : List Tg} (hs : TgSB L) (h : TgS w v L) :
    Calls Tryd.prog 41 #[v] w fun e w' => ∃ v', e = .returned v' ∧ (∀ G, G < w.heap.size → TgSO w' G v' L) ∧ Below w.heap.size w w' := by
  obtain ⟨a0, b, off, cap, rfl, ha, hc⟩ := h
  obtain ⟨hs, hz⟩ := hs
  obtain ⟨i0, hi0, hz0, hsz0, hby0⟩ : ∃ i : TypeInfo, Tryd.prog.info? 66 = some i ∧ i.zero = some (.agg #[.slice none 0 0, .int .i64 0, .int .i64 0]) ∧ i.size = 3 ∧ i.bytes = 40 := ⟨_, rfl, by kernel_rfl, by kernel_rfl, by kernel_rfl⟩
  have hmk := run_make (P := Tryd.prog) w 29 66 i0 _ Tryd.underlying29 hi0 hz0 .i64 .i64 L.length L.length (by omega) (Int.le_refl _) (by rw [hby0]; omega) (by omega)
  simp only [Int.toNat_natCast, hsz0] at hmk
  obtain ⟨CS, hCS⟩ : ∃ CS, madeCells (Value.agg #[.slice none 0 0, .int .i64 0, .int .i64 0]).cells (L.length * 3) = CS := ⟨_, rfl⟩
  have hCz : CS.size = L.length * 3 := by rw [← hCS]; exact size_madeCells _ _
  rw [hCS] at hmk
  have HC := hide hc
  have HZ := hide hz
  have HCZ := hide hCz
  clear hc hz hCS hCz hi0 hz0 hsz0 hby0
  go_enter Tryd.func41, Tryd.ntmps41
  go_wp2
  clear hmk
  go_loopw [4] (fun i wr => ∃ k : Nat, k ≤ L.length ∧ i = .int .i64 k ∧ (∃ cur, Blk wr w.heap.size 66 cur ∧ cur.size = L.length * 3) ∧ (∀ j, j < k → ∃ v0, TgC wr w.heap.size (j * 3) (L.getD j .zero) v0 ∧ TgO wr w.heap.size (L.getD j .zero) v0) ∧ Below w.heap.size w wr) (fun i _ => L.length - (intOf i).toNat)
  case atStart => exact ⟨0, Nat.zero_le _, rfl, ⟨CS, Blk.new _ _ _, HCZ.out⟩, fun j hj => absurd hj (Nat.not_lt_zero _), (Below.refl _ _).alloc (Nat.le_refl _) _⟩
  case round =>
    obtain ⟨k, hk, rfl, hrow, hu, hbl⟩ := hrel
    have HROW := hide hrow
    have HU := hide hu
    have HBL := hide hbl
    by_cases hlt : k < L.length
    · obtain rfl := ha (by omega)
      obtain ⟨v0, hnc, hnv⟩ := HC.out k hlt
      have hnb := HZ.out k hlt
      obtain ⟨d, hd⟩ : ∃ d, L.getD k .zero = d := ⟨_, rfl⟩
      rw [hd] at hnc hnv hnb
      have HD := hide hd
      have HT := hide (toTg_any d v0 wr hnb (hnv.below hbl))
      obtain ⟨g0, g1, g2⟩ := hnc.below hbl
      unfold tgagg at HT
      obtain ⟨x0, x1, x2⟩ := d
      simp only at HT g1 g2
      have d1 : decide ((k : Int) < (L.length : Int)) = true := decide_eq_true (by omega)
      clear hrow hu hbl hnc hnv hnb hd
      go_wp2_with fail
      refine HT.out.mono ?_
      rintro e w2 ⟨v0', rfl, hno, hb2⟩
      obtain ⟨cur, hcur0, hcz⟩ := HROW.out
      have hno' := hno w.heap.size hcur0.lt
      obtain ⟨g0', k0', rfl⟩ := hno'.name.slice
      have HN2 := hide hno'
      have hcur := hcur0.below hb2
      obtain ⟨z0, r0⟩ := row_cellTg ⟨cur, hcur, hcz⟩ (k * 3) (by omega)
      have s0 := hcur.frozen (k * 3)
      obtain ⟨z1, r1⟩ := row_cellTg ⟨cur, hcur, hcz⟩ (k * 3 + 1) (by omega)
      have s1 := hcur.frozen (k * 3 + 1)
      obtain ⟨z2, r2⟩ := row_cellTg ⟨cur, hcur, hcz⟩ (k * 3 + 2) (by omega)
      have s2 := hcur.frozen (k * 3 + 2)
      have HCUR := hide hcur
      have HCZ2 := hide hcz
      have HB2 := hide hb2
      have HBW : Hid (Below w.heap.size w w2) := HBL.out.trans (hb2.mono HBL.out.size)
      clear hcur hcz hb2 hno hno' hcur0 HT
      go_wp2
      go_roundw
      case rel =>
        have hp6 : k * 3 + 3 ≤ cur.size := by have := HCZ2.out; omega
        obtain ⟨cur', h1, h2, ⟨m0, m1, m2⟩, h3⟩ := setTg HCUR.out hp6 (.slice (some ⟨g0', 0, none⟩) (x0.size) k0') (.int .i64 x1) (.int .i64 x2)
        refine ⟨k + 1, by omega, by go_num, ⟨cur', h1, h2.trans HCZ2.out⟩, fun j hj => ?_, (((HBW.out.setCell (Nat.le_refl _) _).setCell (Nat.le_refl _) _).setCell (Nat.le_refl _) _)⟩
        by_cases e : j = k
        · subst e
          rw [HD.out]
          exact ⟨_, ⟨(h1.cell _).trans m0, (h1.cell _).trans m1, (h1.cell _).trans m2⟩, (((HN2.out.setAt (Nat.le_refl _)).setAt (Nat.le_refl _)).setAt (Nat.le_refl _))⟩
        · obtain ⟨v0, q1, q2⟩ := HU.out j (by omega)
          have q1' := q1.below HB2.out
          have c : ∀ i, i < 3 → cur'[j * 3 + i]? = cur[j * 3 + i]? := fun i hi => h3 _ (by omega)
          exact ⟨v0, ⟨(h1.cell _).trans ((c 0 (by omega)).trans ((HCUR.out.cell _).symm.trans q1'.name)), (h1.cell _).trans ((c 1 (by omega)).trans ((HCUR.out.cell _).symm.trans q1'.kind)), (h1.cell _).trans ((c 2 (by omega)).trans ((HCUR.out.cell _).symm.trans q1'.cell))⟩, ((((q2.below HB2.out).setAt (Nat.le_refl _)).setAt (Nat.le_refl _)).setAt (Nat.le_refl _))⟩
      case measure => simp [intOf]; omega
    · have d1 : decide ((k : Int) < (L.length : Int)) = false := decide_eq_false (by omega)
      clear hrow hu hbl
      go_wp2
      go_ret
      obtain ⟨cur, hcur0, _⟩ := HROW.out
      exact ⟨_, rfl, fun G hG => ⟨w.heap.size, _, hG, hcur0.lt, rfl, hcur0.frozen, fun j hj => by
        obtain ⟨v0, h1, h2⟩ := HU.out j (by omega)
        exact ⟨v0, h1, h2⟩⟩, HBL.out⟩
end Go.Proofs.YteicpjbeihabnaaDoor

namespace Go.Proofs.YteicpjbeihabnaaDoor
open Go.RowKit

set_option maxHeartbeats 2000000 in
set_option maxRecDepth 1000000 in
theorem eqTg_same {w : World} {d : Tg} {p0 q0 : Value} (hb : TgB d) (h1 : TgV w d p0) (h2 : TgV w d q0) :
    Calls Tryd.prog 71 #[tgagg d p0, tgagg d q0] w fun e w' => e = .returned (.bool true) ∧ Below w.heap.size w w' := by
  obtain ⟨x0, x1, x2⟩ := d
  have e1 : (x1 != x1) = false := by simp
  have e2 : (x2 != x2) = false := by simp
  have HB := hide hb
  have H1 := hide h1
  have H2 := hide h2
  clear hb h1 h2
  unfold tgagg
  simp only
  obtain ⟨W0, hW0⟩ : ∃ W, (w.alloc (.cells #[p0, .int .i64 x1, .int .i64 x2] 66)).alloc (.cells #[q0, .int .i64 x1, .int .i64 x2] 66) = W := ⟨_, rfl⟩
  have hb0 : Below w.heap.size w W0 := by rw [← hW0]; exact ((Below.refl _ _).alloc (Nat.le_refl _) _).alloc (by simp) _
  have hA : Blk W0 w.heap.size 66 #[p0, .int .i64 x1, .int .i64 x2] := by rw [← hW0]; exact (Blk.new _ _ _).alloc _
  have hC : Blk W0 (w.heap.size + 1) 66 #[q0, .int .i64 x1, .int .i64 x2] := by
    rw [← hW0]
    have := Blk.new (w.alloc (.cells #[p0, .int .i64 x1, .int .i64 x2] 66)) 66 #[q0, .int .i64 x1, .int .i64 x2]
    simpa using this
  have HA0 := hide hA
  have HC0 := hide hC
  have HB0 := hide hb0
  have HW := hide hW0
  clear hA hC hb0 hW0
  go_enter Tryd.func71, Tryd.ntmps71
  go_wp2_with fail
  rw [HW.out]
  clear HW
  refine (eqB_self HB.out.name (H1.out.name.below HB0.out) (H2.out.name.below HB0.out)).mono ?_
  rintro e w2 ⟨rfl, hb2⟩
  have HA2 := hide (HA0.out.below hb2)
  have HC2 := hide (HC0.out.below hb2)
  have HB2 : Hid (Below w.heap.size w w2) := HB0.out.trans (hb2.mono HB0.out.size)
  have a1 := HA2.out.cell 1
  have c1 := HC2.out.cell 1
  have a2 := HA2.out.cell 2
  have c2 := HC2.out.cell 2
  simp only [List.getElem?_toArray, List.getElem?_cons_succ, List.getElem?_cons_zero] at a1 c1 a2 c2
  clear hb2 HA0 HC0 HB0
  go_wp2
  go_ret
  exact ⟨rfl, HB2.out⟩
end Go.Proofs.YteicpjbeihabnaaDoor

namespace Go.Proofs.YteicpjbeihabnaaDoor
open Go.RowKit

set_option maxHeartbeats 2000000 in
set_option maxRecDepth 1000000 in
theorem eqTgS_same {w : World} {v1 v2 : Value} {L : List Tg} (hs : TgSB L) (h1 : TgS w v1 L) (h2 : TgS w v2 L) :
    Calls Tryd.prog 47 #[v1, v2] w fun e w' => e = .returned (.bool true) ∧ Below w.heap.size w w' := by
  obtain ⟨a1, b1, o1, c1, rfl, ha1, hc1⟩ := h1
  obtain ⟨a2, b2, o2, c2, rfl, ha2, hc2⟩ := h2
  obtain ⟨hs, hz⟩ := hs
  have HC1 := hide hc1
  have HC2 := hide hc2
  have HZ := hide hz
  clear hc1 hc2 hz
  have hne : ((L.length : Int) != (L.length : Int)) = false := by simp
  have hmx : Tryd.prog.follows .mixedOrders = true := by kernel_rfl
  go_enter Tryd.func47, Tryd.ntmps47
  go_wp2
  go_loopw [5] (fun i wr => ∃ k : Nat, k ≤ L.length ∧ i = .int .i64 k ∧ Below w.heap.size w wr) (fun i _ => L.length - (intOf i).toNat)
  case atStart => exact ⟨0, Nat.zero_le _, rfl, Below.refl _ _⟩
  case round =>
    obtain ⟨k, hk, rfl, hb⟩ := hrel
    have HB := hide hb
    by_cases hlt : k < L.length
    · obtain rfl := ha1 (by omega)
      obtain rfl := ha2 (by omega)
      obtain ⟨p0, q1_, p1_⟩ := HC1.out k hlt
      obtain ⟨q0, q2_, p2_⟩ := HC2.out k hlt
      have hzk := HZ.out k hlt
      obtain ⟨d, hd⟩ : ∃ d, L.getD k .zero = d := ⟨_, rfl⟩
      rw [hd] at p1_ p2_ hzk q1_ q2_
      have HE := hide (eqTg_same (w := wr.drew) hzk (p1_.below hb.drew) (p2_.below hb.drew))
      obtain ⟨g0, g1, g2⟩ := q1_.below hb
      obtain ⟨f0, f1, f2⟩ := q2_.below hb
      unfold tgagg at HE
      obtain ⟨x0, x1, x2⟩ := d
      simp only at HE g1 f1 g2 f2
      have hbs := hb.size
      have hlti : (k : Int) < (L.length : Int) := by omega
      clear hb q1_ q2_ p1_ p2_ hd hzk
      go_wp2_with fail
      go_region_with (go_at_call 71; refine HE.out.mono ?_; rintro e w1 ⟨rfl, hb1⟩)
      all_goals have HB1 : Hid (Below w.heap.size w w1) := HB.out.drew.trans (hb1.mono hbs)
      all_goals clear hb1
      all_goals go_wp2
      all_goals
        go_roundw
        case rel => exact ⟨k + 1, by omega, by go_num, HB1.out⟩
        case measure => simp [intOf]; omega
    · have hge : ¬ (k : Int) < (L.length : Int) := by omega
      clear hb
      go_wp2
      go_ret
      exact ⟨rfl, HB.out⟩
end Go.Proofs.YteicpjbeihabnaaDoor

namespace Go.Proofs.YteicpjbeihabnaaDoor
open Go.RowKit

set_option maxHeartbeats 2000000 in
set_option maxRecDepth 1000000 in
theorem szTg_r {w : World} {d : Tg} {v0 : Value} {left : Int} (h0 : 0 ≤ left) (hl : left ≤ 1048576) (hd : TgL d) (h : TgV w d v0) :
    Calls Tryd.prog 62 #[tgagg d v0, .int .i64 left] w fun e w' => ∃ r, e = .returned (.int .i64 r) ∧ -1 ≤ r ∧ r ≤ left ∧ (0 ≤ r → TgB d) ∧ Below w.heap.size w w' := by
  obtain ⟨x0, x1, x2⟩ := d
  have HH := hide h
  have HD := hide hd
  clear h hd
  unfold tgagg
  simp only
  obtain ⟨W0, hW0⟩ : ∃ W, w.alloc (.cells #[v0, .int .i64 x1, .int .i64 x2] 92) = W := ⟨_, rfl⟩
  have HB0 : Hid (Below w.heap.size w W0) := by rw [← hW0]; exact (Below.refl _ _).alloc (Nat.le_refl _) _
  have HA0 : Hid (Blk W0 w.heap.size 92 #[v0, .int .i64 x1, .int .i64 x2]) := by rw [← hW0]; exact Blk.new _ _ _
  have HW := hide hW0
  clear hW0
  go_enter Tryd.func62, Tryd.ntmps62
  go_wp2_with fail
  rw [HW.out]
  clear HW
  refine (szB_r h0 hl HD.out.name (HH.out.name.below HB0.out)).mono ?_
  rintro e w2 ⟨r0, rfl, hm0, hn0, ho0, hb2⟩
  have HS0 := hide ho0
  have HA2 := hide (HA0.out.below hb2)
  have HB2 : Hid (Below w.heap.size w w2) := HB0.out.trans (hb2.mono HB0.out.size)
  clear hb2 ho0 HA0 HB0
  by_cases g0 : r0 < 0
  · have t0 : decide (r0 < 0) = true := decide_eq_true g0
    go_wp2
    go_ret
    exact ⟨-1, rfl, by omega, by omega, fun h => by omega, HB2.out⟩
  have t0 : decide (r0 < 0) = false := decide_eq_false g0
  have hl0 : 0 ≤ r0 := by omega
  have hu0 : r0 ≤ 1048576 := by omega
  go_wp2
  go_ret
  exact ⟨r0, rfl, by omega, by omega, fun _ => ⟨HS0.out (by omega)⟩, HB2.out⟩
end Go.Proofs.YteicpjbeihabnaaDoor

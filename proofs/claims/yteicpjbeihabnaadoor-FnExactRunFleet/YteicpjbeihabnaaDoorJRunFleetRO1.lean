/-
  The walks of toRobot, toRobotS.
  The walks of eqRobot, eqRobotS, where both read as the same.
  The walk of szRobotS.
-/
import Derived.Test.YteicpjbeihabnaaDoorJRunFleetTbMK
import Derived.Laws.MakeOwn
import Derived.BigQuiet
import Derived.Deep.QuietTactic
import Derived.Deep.RegionWith
namespace Go.Proofs.YteicpjbeihabnaaDoor
open Go.RowKit

set_option maxHeartbeats 2000000 in
set_option maxRecDepth 1000000 in
theorem toRo_any (d : Ro) (w : World) : Calls Tryd.prog 56 #[roagg d] w fun e w' => e = .returned (roagg d) ∧ Below w.heap.size w w' := by
  unfold roagg
  obtain ⟨x0, x1, x2, x3, x4⟩ := d
  simp only
  go_enter Tryd.func56, Tryd.ntmps56
  go_wp2
  (try simp only [Exit.inBlock, Exit.then])
  refine bodyPost_ret (results_cell_row rfl _ _ (w.heap.size + 1) 76 #[.int .i64 x0, .int .i64 x1, .int .i64 x2, .int .i64 x3, .bool x4] (0, 0) _ rfl ?hg Tryd.underlying76 rfl (by kernel_rfl)) rfl ?_
  case hg =>
    have := (Blk.new (w.alloc (.cells #[.int .i64 x0, .int .i64 x1, .int .i64 x2, .int .i64 x3, .bool x4] 79)) 76 #[.int .i64 x0, .int .i64 x1, .int .i64 x2, .int .i64 x3, .bool x4]).alloc (.cells #[.int .i64 x0, .int .i64 x1, .int .i64 x2, .int .i64 x3, .bool x4] 76)
    have e : (w.alloc (.cells #[.int .i64 x0, .int .i64 x1, .int .i64 x2, .int .i64 x3, .bool x4] 79)).heap.size = w.heap.size + 1 := by simp
    rw [e] at this
    exact this
  exact ⟨rfl, (((Below.refl _ _).alloc (Nat.le_refl _) _).alloc (by simp) _).alloc (by simp; omega) _⟩
theorem row_cellRo {w : World} {b n : Nat} {t : TypeId} (h : ∃ cur, Blk w b t cur ∧ cur.size = n) (p : Nat) (hp : p < n) : ∃ z, w.cell? ⟨b, p, none⟩ = some z := by
  obtain ⟨cur, h1, h2⟩ := h
  exact ⟨cur[p], by rw [h1.cell p]; exact Array.getElem?_eq_getElem (by omega)⟩
theorem setRo {w : World} {b p : Nat} {t : TypeId} {cur : Array Value} (h : Blk w b t cur) (hp : p + 5 ≤ cur.size) (y0 y1 y2 y3 y4 : Value) : ∃ cur', Blk (((((w.setCell ⟨b, p, none⟩ y0).setCell ⟨b, p + 1, none⟩ y1).setCell ⟨b, p + 2, none⟩ y2).setCell ⟨b, p + 3, none⟩ y3).setCell ⟨b, p + 4, none⟩ y4) b t cur' ∧ cur'.size = cur.size ∧ (cur'[p]? = some y0 ∧ cur'[p + 1]? = some y1 ∧ cur'[p + 2]? = some y2 ∧ cur'[p + 3]? = some y3 ∧ cur'[p + 4]? = some y4) ∧ ∀ q, q < p ∨ p + 5 ≤ q → cur'[q]? = cur[q]? := by
  refine ⟨_, (((((h.set (p) y0).set (p + 1) y1).set (p + 2) y2).set (p + 3) y3).set (p + 4) y4), by simp, ?_, fun q hq => ?_⟩
  · have h0 : p < cur.size := by omega
    have h1 : p + 1 < cur.size := by omega
    have h2 : p + 2 < cur.size := by omega
    have h3 : p + 3 < cur.size := by omega
    have h4 : p + 4 < cur.size := by omega
    refine ⟨?_, ?_, ?_, ?_, ?_⟩ <;> simp [h0, h1, h2, h3, h4]
  · have e0 : ¬ p = q := by omega
    have e1 : ¬ p + 1 = q := by omega
    have e2 : ¬ p + 2 = q := by omega
    have e3 : ¬ p + 3 = q := by omega
    have e4 : ¬ p + 4 = q := by omega
    simp [e0, e1, e2, e3, e4]

set_option maxHeartbeats 4000000 in
set_option maxRecDepth 1000000 in
theorem toRo_g {w : World} {v : Value} {L : List Ro} (hs : L.length ≤ 1048576) (h : RoS w v L) :
    Calls Tryd.prog 26 #[v] w fun e w' => ∃ v' bl, e = .returned v' ∧ RoF w' v' L bl ∧ Nn v' ∧ Fr w w' bl ∧ Below w.heap.size w w' := by
  obtain ⟨a0, b, off, cap, rfl, ha, hc⟩ := h
  obtain ⟨i0, hi0, hz0, hsz0, hby0⟩ : ∃ i : TypeInfo, Tryd.prog.info? 76 = some i ∧ i.zero = some (.agg #[.int .i64 0, .int .i64 0, .int .i64 0, .int .i64 0, .bool false]) ∧ i.size = 5 ∧ i.bytes = 40 := ⟨_, rfl, by kernel_rfl, by kernel_rfl, by kernel_rfl⟩
  have hmk := run_make (P := Tryd.prog) w 49 76 i0 _ Tryd.underlying49 hi0 hz0 .i64 .i64 L.length L.length (by omega) (Int.le_refl _) (by rw [hby0]; omega) (by omega)
  simp only [Int.toNat_natCast, hsz0] at hmk
  obtain ⟨CS, hCS⟩ : ∃ CS, madeCells (Value.agg #[.int .i64 0, .int .i64 0, .int .i64 0, .int .i64 0, .bool false]).cells (L.length * 5) = CS := ⟨_, rfl⟩
  have hCz : CS.size = L.length * 5 := by rw [← hCS]; exact size_madeCells _ _
  rw [hCS] at hmk
  have HC := hide hc
  have HCZ := hide hCz
  clear hc hCS hCz hi0 hz0 hsz0 hby0
  go_enter Tryd.func26, Tryd.ntmps26
  go_wp2
  clear hmk
  go_loopw [4] (fun i wr => ∃ k : Nat, k ≤ L.length ∧ i = .int .i64 k ∧ (∃ cur, Blk wr w.heap.size 76 cur ∧ cur.size = L.length * 5) ∧ (∀ j, j < k → RoC wr w.heap.size (j * 5) (L.getD j .zero)) ∧ Below w.heap.size w wr) (fun i _ => L.length - (intOf i).toNat)
  case atStart => exact ⟨0, Nat.zero_le _, rfl, ⟨CS, Blk.new _ _ _, HCZ.out⟩, fun j hj => absurd hj (Nat.not_lt_zero _), (Below.refl _ _).alloc (Nat.le_refl _) _⟩
  case round =>
    obtain ⟨k, hk, rfl, hrow, hu, hbl⟩ := hrel
    have HROW := hide hrow
    have HU := hide hu
    have HBL := hide hbl
    by_cases hlt : k < L.length
    · obtain rfl := ha (by omega)
      have hnc := HC.out k hlt
      obtain ⟨d, hd⟩ : ∃ d, L.getD k .zero = d := ⟨_, rfl⟩
      rw [hd] at hnc
      have HD := hide hd
      have HT := hide (toRo_any d wr)
      obtain ⟨g0, g1, g2, g3, g4⟩ := hnc.below hbl
      unfold roagg at HT
      obtain ⟨x0, x1, x2, x3, x4⟩ := d
      simp only at HT g0 g1 g2 g3 g4
      have d1 : decide ((k : Int) < (L.length : Int)) = true := decide_eq_true (by omega)
      clear hrow hu hbl hnc hd
      go_wp2_with fail
      refine HT.out.mono ?_
      rintro e w2 ⟨rfl, hb2⟩
      obtain ⟨cur, hcur0, hcz⟩ := HROW.out
      have hcur := hcur0.below hb2
      obtain ⟨z0, r0⟩ := row_cellRo ⟨cur, hcur, hcz⟩ (k * 5) (by omega)
      have s0 := hcur.frozen (k * 5)
      obtain ⟨z1, r1⟩ := row_cellRo ⟨cur, hcur, hcz⟩ (k * 5 + 1) (by omega)
      have s1 := hcur.frozen (k * 5 + 1)
      obtain ⟨z2, r2⟩ := row_cellRo ⟨cur, hcur, hcz⟩ (k * 5 + 2) (by omega)
      have s2 := hcur.frozen (k * 5 + 2)
      obtain ⟨z3, r3⟩ := row_cellRo ⟨cur, hcur, hcz⟩ (k * 5 + 3) (by omega)
      have s3 := hcur.frozen (k * 5 + 3)
      obtain ⟨z4, r4⟩ := row_cellRo ⟨cur, hcur, hcz⟩ (k * 5 + 4) (by omega)
      have s4 := hcur.frozen (k * 5 + 4)
      have HCUR := hide hcur
      have HCZ2 := hide hcz
      have HB2 := hide hb2
      have HBW : Hid (Below w.heap.size w w2) := HBL.out.trans (hb2.mono HBL.out.size)
      clear hcur hcz hb2 hcur0 HT
      go_wp2
      go_roundw
      case rel =>
        have hp6 : k * 5 + 5 ≤ cur.size := by have := HCZ2.out; omega
        obtain ⟨cur', h1, h2, ⟨m0, m1, m2, m3, m4⟩, h3⟩ := setRo HCUR.out hp6 (.int .i64 x0) (.int .i64 x1) (.int .i64 x2) (.int .i64 x3) (.bool x4)
        refine ⟨k + 1, by omega, by go_num, ⟨cur', h1, h2.trans HCZ2.out⟩, fun j hj => ?_, (((((HBW.out.setCell (Nat.le_refl _) _).setCell (Nat.le_refl _) _).setCell (Nat.le_refl _) _).setCell (Nat.le_refl _) _).setCell (Nat.le_refl _) _)⟩
        by_cases e : j = k
        · subst e
          rw [HD.out]
          exact ⟨(h1.cell _).trans m0, (h1.cell _).trans m1, (h1.cell _).trans m2, (h1.cell _).trans m3, (h1.cell _).trans m4⟩
        · have q1 := (HU.out j (by omega)).below HB2.out
          have c : ∀ i, i < 5 → cur'[j * 5 + i]? = cur[j * 5 + i]? := fun i hi => h3 _ (by omega)
          exact ⟨(h1.cell _).trans ((c 0 (by omega)).trans ((HCUR.out.cell _).symm.trans q1.cell)), (h1.cell _).trans ((c 1 (by omega)).trans ((HCUR.out.cell _).symm.trans q1.target)), (h1.cell _).trans ((c 2 (by omega)).trans ((HCUR.out.cell _).symm.trans q1.moves)), (h1.cell _).trans ((c 3 (by omega)).trans ((HCUR.out.cell _).symm.trans q1.waits)), (h1.cell _).trans ((c 4 (by omega)).trans ((HCUR.out.cell _).symm.trans q1.done))⟩
      case measure => simp [intOf]; omega
    · have d1 : decide ((k : Int) < (L.length : Int)) = false := decide_eq_false (by omega)
      have e : k = L.length := by omega
      subst e
      clear hrow hu hbl
      go_wp2
      go_ret
      obtain ⟨cur, hcur0, _⟩ := HROW.out
      exact ⟨_, _, rfl, ⟨_, w.heap.size, 0, _, rfl, fun _ => rfl, rfl, fun j _ => by rw [Nat.zero_add]; exact hcur0.frozen j, fun j hj => by rw [Nat.zero_add]; exact HU.out j hj⟩, (fun n c e => by cases e), Fr.one (Nat.le_refl _) hcur0.lt _, HBL.out⟩
theorem toRo_f {w : World} {v : Value} {L : List Ro} (hs : L.length ≤ 1048576) (h : RoS w v L) :
    Calls Tryd.prog 26 #[v] w fun e w' => ∃ v' bl, e = .returned v' ∧ RoF w' v' L bl ∧ Fr w w' bl ∧ Below w.heap.size w w' :=
  (toRo_g hs h).mono fun _ _ ⟨v', bl, h1, h2, _, h3⟩ => ⟨v', bl, h1, h2, h3⟩
end Go.Proofs.YteicpjbeihabnaaDoor

namespace Go.Proofs.YteicpjbeihabnaaDoor
open Go.RowKit

set_option maxHeartbeats 2000000 in
set_option maxRecDepth 1000000 in
theorem eqRo_one (d : Ro) (w : World) : Calls Tryd.prog 58 #[roagg d, roagg d] w fun e w' => e = .returned (.bool true) ∧ Below w.heap.size w w' := by
  obtain ⟨x0, x1, x2, x3, x4⟩ := d
  have e0 : (x0 != x0) = false := by simp
  have e1 : (x1 != x1) = false := by simp
  have e2 : (x2 != x2) = false := by simp
  have e3 : (x3 != x3) = false := by simp
  have e4 : (x4 != x4) = false := by simp
  unfold roagg
  simp only
  go_enter Tryd.func58, Tryd.ntmps58
  go_wp2
  go_ret
  exact ⟨rfl, ((Below.refl _ _).alloc (Nat.le_refl _) _).alloc (by simp) _⟩

set_option maxHeartbeats 2000000 in
set_option maxRecDepth 1000000 in
theorem eqRo_same {w : World} {v1 v2 : Value} {L : List Ro} (hs : L.length ≤ 1048576) (h1 : RoS w v1 L) (h2 : RoS w v2 L) :
    Calls Tryd.prog 28 #[v1, v2] w fun e w' => e = .returned (.bool true) ∧ Below w.heap.size w w' := by
  obtain ⟨a1, b1, o1, c1, rfl, ha1, hc1⟩ := h1
  obtain ⟨a2, b2, o2, c2, rfl, ha2, hc2⟩ := h2
  have HC1 := hide hc1
  have HC2 := hide hc2
  clear hc1 hc2
  have hne : ((L.length : Int) != (L.length : Int)) = false := by simp
  have hmx : Tryd.prog.follows .mixedOrders = true := by kernel_rfl
  go_enter Tryd.func28, Tryd.ntmps28
  go_wp2
  go_loopw [5] (fun i wr => ∃ k : Nat, k ≤ L.length ∧ i = .int .i64 k ∧ Below w.heap.size w wr) (fun i _ => L.length - (intOf i).toNat)
  case atStart => exact ⟨0, Nat.zero_le _, rfl, Below.refl _ _⟩
  case round =>
    obtain ⟨k, hk, rfl, hb⟩ := hrel
    have HB := hide hb
    by_cases hlt : k < L.length
    · obtain rfl := ha1 (by omega)
      obtain rfl := ha2 (by omega)
      have q1_ := HC1.out k hlt
      have q2_ := HC2.out k hlt
      obtain ⟨d, hd⟩ : ∃ d, L.getD k .zero = d := ⟨_, rfl⟩
      rw [hd] at q1_ q2_
      have HE := hide (eqRo_one d wr.drew)
      obtain ⟨g0, g1, g2, g3, g4⟩ := q1_.below hb
      obtain ⟨f0, f1, f2, f3, f4⟩ := q2_.below hb
      unfold roagg at HE
      obtain ⟨x0, x1, x2, x3, x4⟩ := d
      simp only at HE g0 f0 g1 f1 g2 f2 g3 f3 g4 f4
      have hbs := hb.size
      have hlti : (k : Int) < (L.length : Int) := by omega
      clear hb q1_ q2_ hd
      go_wp2_with fail
      go_region_with (go_at_call 58; refine HE.out.mono ?_; rintro e w1 ⟨rfl, hb1⟩)
      all_goals have HB1 : Hid (Below w.heap.size w w1) := HB.out.drew.trans (hb1.mono hbs)
      all_goals clear hb1
      all_goals go_wp2
      all_goals
        go_roundw
        case rel => exact ⟨k + 1, by omega, by go_num, HB1.out⟩
        case measure => simp [intOf]; omega
    · have hge : ¬ (k : Int) < (L.length : Int) := by omega
      clear hb
      go_wp2
      go_ret
      exact ⟨rfl, HB.out⟩
end Go.Proofs.YteicpjbeihabnaaDoor

namespace Go.Proofs.YteicpjbeihabnaaDoor
open Go.RowKit

set_option maxRecDepth 1000000 in
theorem szRo_r {w : World} {v : Value} {L : List Ro} {left : Int} (h0 : 0 ≤ left) (hl : left ≤ 1048576) (hn : (L.length : Int) ≤ 9223372036854775807) (h : RoS w v L) :
    Calls Tryd.prog 24 #[v, .int .i64 left] w fun e w' => ∃ r, e = .returned (.int .i64 r) ∧ -1 ≤ r ∧ r ≤ left ∧ (0 ≤ r → L.length ≤ 1048576) ∧ Below w.heap.size w w' := by
  obtain ⟨a, b, o, c, rfl, _, _⟩ := h
  have e1 : IntKind.i64.wrap (left - (L.length : Int)) = left - L.length := by rw [IntKind.wrap_i64]; omega
  by_cases c1 : left - (L.length : Int) < 0
  · have d1 : decide (left - (L.length : Int) < 0) = true := decide_eq_true c1
    go_enter Tryd.func24, Tryd.ntmps24
    go_wp2
    go_ret
    exact ⟨-1, rfl, by omega, by omega, fun h => by omega, Below.refl _ _⟩
  · have d1 : decide (left - (L.length : Int) < 0) = false := decide_eq_false c1
    go_enter Tryd.func24, Tryd.ntmps24
    go_wp2
    go_ret
    exact ⟨left - L.length, rfl, by omega, by omega, fun _ => by omega, Below.refl _ _⟩
end Go.Proofs.YteicpjbeihabnaaDoor

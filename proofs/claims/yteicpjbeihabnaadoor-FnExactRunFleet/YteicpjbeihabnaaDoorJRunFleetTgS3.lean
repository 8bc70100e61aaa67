/-
  The walk of szTargetS.
  Lists of Target: what is walked of them.
  The walk of eqTables, where both read as the same.
  The walk of szTables.
-/
import Derived.Test.YteicpjbeihabnaaDoorJRunFleetIIS0
import Derived.Test.YteicpjbeihabnaaDoorJRunFleetTgS1
import Derived.Test.YteicpjbeihabnaaDoorJRunFleetIIS2
namespace Go.Proofs.YteicpjbeihabnaaDoor
open Go.RowKit

set_option maxHeartbeats 2000000 in
set_option maxRecDepth 1000000 in
theorem szTgS_r {w : World} {v : Value} {L : List Tg} {left : Int} (h0 : 0 ≤ left) (hl : left ≤ 1048576) (hn : TgSL L) (h : TgS w v L) :
    Calls Tryd.prog 38 #[v, .int .i64 left] w fun e w' => ∃ r, e = .returned (.int .i64 r) ∧ -1 ≤ r ∧ r ≤ left ∧ (0 ≤ r → TgSB L) ∧ Below w.heap.size w w' := by
  obtain ⟨a, b, o, c, rfl, ha, hc⟩ := h
  obtain ⟨hn, hz⟩ := hn
  have e1 : IntKind.i64.wrap (left - (L.length : Int)) = left - L.length := by rw [IntKind.wrap_i64]; omega
  have HC := hide hc
  have HZ := hide hz
  clear hc hz
  by_cases c1 : left - (L.length : Int) < 0
  · have d1 : decide (left - (L.length : Int) < 0) = true := decide_eq_true c1
    go_enter Tryd.func38, Tryd.ntmps38
    go_wp2
    go_ret
    exact ⟨-1, rfl, by omega, by omega, fun h => by omega, Below.refl _ _⟩
  · have d1 : decide (left - (L.length : Int) < 0) = false := decide_eq_false c1
    go_enter Tryd.func38, Tryd.ntmps38
    go_wp2
    go_loopw [1, 5] (fun lf ix wr => ∃ (k : Nat) (l : Int), k ≤ L.length ∧ lf = .int .i64 l ∧ ix = .int .i64 k ∧ 0 ≤ l ∧ l ≤ left ∧ (∀ j, j < k → TgB (L.getD j .zero)) ∧ Below w.heap.size w wr) (fun _ ix _ => L.length - (intOf ix).toNat)
    case atStart => exact ⟨0, left - L.length, Nat.zero_le _, rfl, rfl, by omega, by omega, fun j hj => absurd hj (Nat.not_lt_zero _), Below.refl _ _⟩
    case round =>
      obtain ⟨k, l, hk, rfl, rfl, hl0, hl1, hsz, hbl⟩ := hrel
      have HBL := hide hbl
      have HSZ := hide hsz
      by_cases hlt : k < L.length
      · obtain rfl := ha (by omega)
        obtain ⟨v0, hnc, hnv⟩ := HC.out k hlt
        have hzk := HZ.out k hlt
        obtain ⟨d, hd⟩ : ∃ d, L.getD k .zero = d := ⟨_, rfl⟩
        rw [hd] at hnc hnv hzk
        have HD := hide hd
        obtain ⟨g0, g1, g2⟩ := hnc.below hbl
        have HT := hide (szTg_r (w := wr) hl0 (by omega) hzk (hnv.below hbl))
        unfold tgagg at HT
        clear hd hzk hnc hnv
        obtain ⟨x0, x1, x2⟩ := d
        simp only at HT g1 g2
        have hlti : (k : Int) < (L.length : Int) := by omega
        clear hsz hbl
        go_wp2_with fail
        refine HT.out.mono ?_
        rintro e w2 ⟨r, rfl, hm, hr, ho, hb2⟩
        have HB2 : Hid (Below w.heap.size w w2) := HBL.out.trans (hb2.mono HBL.out.size)
        have HO := hide ho
        clear hb2 ho
        by_cases c2 : r < 0
        · have d2 : decide (r < 0) = true := decide_eq_true c2
          go_wp2
          go_ret
          exact ⟨-1, rfl, by omega, by omega, fun h => by omega, HB2.out⟩
        · have d2 : decide (r < 0) = false := decide_eq_false c2
          go_wp2
          go_roundw
          case rel => exact ⟨k + 1, r, by omega, rfl, by go_num, by omega, by omega, fun j hj => by
            by_cases e : j = k
            · rw [e, HD.out]; exact HO.out (by omega)
            · exact HSZ.out j (by omega), HB2.out⟩
          case measure => simp [intOf]; omega
      · have hge : ¬ (k : Int) < (L.length : Int) := by omega
        clear hsz hbl
        go_wp2
        go_ret
        exact ⟨l, rfl, by omega, by omega, fun _ => ⟨by omega, fun j hj => HSZ.out j (by omega)⟩, HBL.out⟩
end Go.Proofs.YteicpjbeihabnaaDoor



namespace Go.Proofs.YteicpjbeihabnaaDoor
open Go.RowKit

set_option maxHeartbeats 2000000 in
set_option maxRecDepth 1000000 in
theorem eqTb_same {w : World} {d : Tb} {p2 p3 p4 q2 q3 q4 : Value} (hb : TbB d) (h1 : TbV w d p2 p3 p4) (h2 : TbV w d q2 q3 q4) :
    Calls Tryd.prog 14 #[tbagg d p2 p3 p4, tbagg d q2 q3 q4] w fun e w' => e = .returned (.bool true) ∧ Below w.heap.size w w' := by
  obtain ⟨x0, x1, x2, x3, x4⟩ := d
  have e0 : (x0 != x0) = false := by simp
  have e1 : (x1 != x1) = false := by simp
  have HB := hide hb
  have H1 := hide h1
  have H2 := hide h2
  clear hb h1 h2
  unfold tbagg
  simp only
  obtain ⟨W0, hW0⟩ : ∃ W, (w.alloc (.cells #[.int .i64 x0, .int .i64 x1, p2, p3, p4] 31)).alloc (.cells #[.int .i64 x0, .int .i64 x1, q2, q3, q4] 31) = W := ⟨_, rfl⟩
  have hb0 : Below w.heap.size w W0 := by rw [← hW0]; exact ((Below.refl _ _).alloc (Nat.le_refl _) _).alloc (by simp) _
  have hA : Blk W0 w.heap.size 31 #[.int .i64 x0, .int .i64 x1, p2, p3, p4] := by rw [← hW0]; exact (Blk.new _ _ _).alloc _
  have hC : Blk W0 (w.heap.size + 1) 31 #[.int .i64 x0, .int .i64 x1, q2, q3, q4] := by
    rw [← hW0]
    have := Blk.new (w.alloc (.cells #[.int .i64 x0, .int .i64 x1, p2, p3, p4] 31)) 31 #[.int .i64 x0, .int .i64 x1, q2, q3, q4]
    simpa using this
  have HA0 := hide hA
  have HC0 := hide hC
  have HB0 := hide hb0
  have HW := hide hW0
  clear hA hC hb0 hW0
  go_enter Tryd.func14, Tryd.ntmps14
  go_wp2_with fail
  rw [HW.out]
  clear HW
  refine (eqTgS_same HB.out.targets (H1.out.targets.below HB0.out) (H2.out.targets.below HB0.out)).mono ?_
  rintro e w2 ⟨rfl, hb2⟩
  have HA2 := hide (HA0.out.below hb2)
  have HC2 := hide (HC0.out.below hb2)
  have HB2 : Hid (Below w.heap.size w w2) := HB0.out.trans (hb2.mono HB0.out.size)
  have a3 := HA2.out.cell 3
  have c3 := HC2.out.cell 3
  have a4 := HA2.out.cell 4
  have c4 := HC2.out.cell 4
  simp only [List.getElem?_toArray, List.getElem?_cons_succ, List.getElem?_cons_zero] at a3 c3 a4 c4
  clear hb2 HA0 HC0 HB0
  go_wp2_with fail
  clear a3 c3 a4 c4
  refine (eqIIS_same HB.out.dist (H1.out.dist.below HB2.out) (H2.out.dist.below HB2.out)).mono ?_
  rintro e w3 ⟨rfl, hb3⟩
  have HA3 := hide (HA2.out.below hb3)
  have HC3 := hide (HC2.out.below hb3)
  have HB3 : Hid (Below w.heap.size w w3) := HB2.out.trans (hb3.mono HB2.out.size)
  have a4 := HA3.out.cell 4
  have c4 := HC3.out.cell 4
  simp only [List.getElem?_toArray, List.getElem?_cons_succ, List.getElem?_cons_zero] at a4 c4
  clear hb3 HA2 HC2 HB2
  go_wp2_with fail
  clear a4 c4
  refine (eqIIS_same HB.out.hop (H1.out.hop.below HB3.out) (H2.out.hop.below HB3.out)).mono ?_
  rintro e w4 ⟨rfl, hb4⟩
  have HA4 := hide (HA3.out.below hb4)
  have HC4 := hide (HC3.out.below hb4)
  have HB4 : Hid (Below w.heap.size w w4) := HB3.out.trans (hb4.mono HB3.out.size)
  clear hb4 HA3 HC3 HB3
  go_wp2
  go_ret
  exact ⟨rfl, HB4.out⟩
end Go.Proofs.YteicpjbeihabnaaDoor

namespace Go.Proofs.YteicpjbeihabnaaDoor
open Go.RowKit

set_option maxHeartbeats 2000000 in
set_option maxRecDepth 1000000 in
theorem szTb_r {w : World} {d : Tb} {v2 v3 v4 : Value} {left : Int} (h0 : 0 ≤ left) (hl : left ≤ 1048576) (hd : TbL d) (h : TbV w d v2 v3 v4) :
    Calls Tryd.prog 9 #[tbagg d v2 v3 v4, .int .i64 left] w fun e w' => ∃ r, e = .returned (.int .i64 r) ∧ -1 ≤ r ∧ r ≤ left ∧ (0 ≤ r → TbB d) ∧ Below w.heap.size w w' := by
  obtain ⟨x0, x1, x2, x3, x4⟩ := d
  have HH := hide h
  have HD := hide hd
  clear h hd
  unfold tbagg
  simp only
  obtain ⟨W0, hW0⟩ : ∃ W, w.alloc (.cells #[.int .i64 x0, .int .i64 x1, v2, v3, v4] 25) = W := ⟨_, rfl⟩
  have HB0 : Hid (Below w.heap.size w W0) := by rw [← hW0]; exact (Below.refl _ _).alloc (Nat.le_refl _) _
  have HA0 : Hid (Blk W0 w.heap.size 25 #[.int .i64 x0, .int .i64 x1, v2, v3, v4]) := by rw [← hW0]; exact Blk.new _ _ _
  have HW := hide hW0
  clear hW0
  go_enter Tryd.func9, Tryd.ntmps9
  go_wp2_with fail
  rw [HW.out]
  clear HW
  refine (szTgS_r h0 hl HD.out.targets (HH.out.targets.below HB0.out)).mono ?_
  rintro e w2 ⟨r0, rfl, hm0, hn0, ho0, hb2⟩
  have HS0 := hide ho0
  have HA2 := hide (HA0.out.below hb2)
  have HB2 : Hid (Below w.heap.size w w2) := HB0.out.trans (hb2.mono HB0.out.size)
  clear hb2 ho0 HA0 HB0
  by_cases g0 : r0 < 0
  · have t0 : decide (r0 < 0) = true := decide_eq_true g0
    go_wp2
    go_ret
    exact ⟨-1, rfl, by omega, by omega, fun h => by omega, HB2.out⟩
  have t0 : decide (r0 < 0) = false := decide_eq_false g0
  have hl0 : 0 ≤ r0 := by omega
  have hu0 : r0 ≤ 1048576 := by omega
  have c1 := HA2.out.cell 3
  simp only [List.getElem?_toArray, List.getElem?_cons_succ, List.getElem?_cons_zero] at c1
  go_wp2_with fail
  clear c1 t0
  refine (szIIS_r hl0 hu0 HD.out.dist (HH.out.dist.below HB2.out)).mono ?_
  rintro e w3 ⟨r1, rfl, hm1, hn1, ho1, hb3⟩
  have HS1 := hide ho1
  have HA3 := hide (HA2.out.below hb3)
  have HB3 : Hid (Below w.heap.size w w3) := HB2.out.trans (hb3.mono HB2.out.size)
  clear hb3 ho1 HA2 HB2
  by_cases g1 : r1 < 0
  · have t1 : decide (r1 < 0) = true := decide_eq_true g1
    go_wp2
    go_ret
    exact ⟨-1, rfl, by omega, by omega, fun h => by omega, HB3.out⟩
  have t1 : decide (r1 < 0) = false := decide_eq_false g1
  have hl1 : 0 ≤ r1 := by omega
  have hu1 : r1 ≤ 1048576 := by omega
  have c1 := HA3.out.cell 4
  simp only [List.getElem?_toArray, List.getElem?_cons_succ, List.getElem?_cons_zero] at c1
  go_wp2_with fail
  clear c1 t1
  refine (szIIS_r hl1 hu1 HD.out.hop (HH.out.hop.below HB3.out)).mono ?_
  rintro e w4 ⟨r2, rfl, hm2, hn2, ho2, hb4⟩
  have HS2 := hide ho2
  have HA4 := hide (HA3.out.below hb4)
  have HB4 : Hid (Below w.heap.size w w4) := HB3.out.trans (hb4.mono HB3.out.size)
  clear hb4 ho2 HA3 HB3
  by_cases g2 : r2 < 0
  · have t2 : decide (r2 < 0) = true := decide_eq_true g2
    go_wp2
    go_ret
    exact ⟨-1, rfl, by omega, by omega, fun h => by omega, HB4.out⟩
  have t2 : decide (r2 < 0) = false := decide_eq_false g2
  have hl2 : 0 ≤ r2 := by omega
  have hu2 : r2 ≤ 1048576 := by omega
  go_wp2
  go_ret
  exact ⟨r2, rfl, by omega, by omega, fun _ => ⟨HS0.out (by omega), HS1.out (by omega), HS2.out (by omega)⟩, HB4.out⟩
end Go.Proofs.YteicpjbeihabnaaDoor

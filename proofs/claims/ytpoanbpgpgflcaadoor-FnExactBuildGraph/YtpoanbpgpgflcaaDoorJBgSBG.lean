/-
  The walk of spec.BuildGraph.
-/
import Derived.Test.YtpoanbpgpgflcaaDoorJBgBGD
import Derived.Test.YtpoanbpgpgflcaaDoorJBgSLG
import Derived.Test.YtpoanbpgpgflcaaDoorJBgSL5
import Derived.BigRegion
import Derived.Deep.RegionLaw
namespace Go.Proofs.YtpoanbpgpgflcaaDoor
open Go.RowKit

set_option maxHeartbeats 4000000 in
set_option maxRecDepth 1000000 in
theorem specBuild_any (d : Ly) (v2 v3 v4 : Value) (w : World) (hb : LyB d) (h : LyV w d v2 v3 v4) :
    Calls Tryd.prog 5 #[lyagg d v2 v3 v4] w fun e w' => ∃ p1 p2 p3 p4, e = .returned (.tuple #[gragg (bgF d) p1 p2 p3 p4, .int .i64 (bgC d)]) ∧ GrV w' (bgF d) p1 p2 p3 p4 ∧ Below w.heap.size w w' := by
  have HVL := hide (fun w2 (hb2 : Below w.heap.size w w2) => specLayout_any d v2 v3 v4 w2 hb (h.below hb2))
  obtain ⟨a2, b2, o2, c2, rfl, ha2, hc2⟩ := h.cost
  obtain ⟨a3, b3, o3, c3, rfl, ha3, hc3⟩ := h.exits
  obtain ⟨a4, c4, rfl⟩ := h.targets.slice
  have HC2 : Hid (∀ w2, Below w.heap.size w w2 → ∀ j, j < d.cost.length → w2.cell? ⟨b2, o2 + j, none⟩ = some (.int .i64 (d.cost.getD j 0))) := fun w2 hb2 j hj => cell_kept (hc2 j hj) hb2
  have HC3 : Hid (∀ w2, Below w.heap.size w w2 → ∀ j, j < d.exits.length → w2.cell? ⟨b3, o3 + j, none⟩ = some (.int .i64 (d.exits.getD j 0))) := fun w2 hb2 j hj => cell_kept (hc3 j hj) hb2
  obtain ⟨W0, hW0⟩ : ∃ W, w.alloc (.cells #[.int .i64 d.w, .int .i64 d.h, .slice a2 d.cost.length c2, .slice a3 d.exits.length c3, .slice a4 d.targets.length c4] 33) = W := ⟨_, rfl⟩
  have HB0 : Hid (Below w.heap.size w W0) := by rw [← hW0]; exact (Below.refl _ _).alloc (Nat.le_refl _) _
  have HA0 : Hid (Blk W0 w.heap.size 33 #[.int .i64 d.w, .int .i64 d.h, .slice a2 d.cost.length c2, .slice a3 d.exits.length c3, .slice a4 d.targets.length c4]) := by rw [← hW0]; exact Blk.new _ _ _
  have HW := hide hW0
  unfold lyagg at HVL ⊢
  clear hW0 h hc2 hc3 hb
  go_enter Tryd.func5, Tryd.ntmps5
  obtain ⟨R, hR⟩ : ∃ R, W0.heap.size = R := ⟨_, rfl⟩
  have hR1 : w.heap.size + 1 = R := by rw [← hR, ← HW.out, World.size_alloc]
  have HR1 := hide hR1
  obtain ⟨W1, hW1⟩ : ∃ W, W0.alloc (.cells #[.int .i64 0, .slice none 0 0, .slice none 0 0, .slice none 0 0, .slice none 0 0] 28) = W := ⟨_, rfl⟩
  have hb1 : Below W0.heap.size W0 W1 := by rw [← hW1]; exact (Below.refl _ _).alloc (Nat.le_refl _) _
  have HB1 : Hid (Below w.heap.size w W1) := HB0.out.trans (hb1.mono HB0.out.size)
  have HA1 := hide (HA0.out.below hb1)
  have HZ1 : Hid (Blk W1 R 28 #[.int .i64 0, .slice none 0 0, .slice none 0 0, .slice none 0 0, .slice none 0 0]) := by rw [← hW1, ← hR]; exact Blk.new _ _ _
  have HW1 := hide hW1
  clear hR hW1 hb1 hR1 HA0
  go_wp2_with fail
  rw [HW.out, HW1.out, HR1.out]
  refine (HVL.out _ HB1.out).mono ?_
  rintro e w2 ⟨⟨r1, rfl, hr1⟩, hb2⟩
  have HA2 := hide (HA1.out.below hb2)
  have HZ2 := hide (HZ1.out.below hb2)
  have HB2 : Hid (Below w.heap.size w w2) := HB1.out.trans (hb2.mono HB1.out.size)
  have HR2 := hide hr1
  clear hb2 hr1 HA1 HB1 HZ1 HW HW1 HB0 HVL
  cases r1 with
  | false =>
    have HNO : Hid (¬ LyOk d) := fun h => by have := HR2.out.2 h; cases this
    have x0 := HZ2.out.frozen 0
    have x1 := HZ2.out.frozen 1
    have x2 := HZ2.out.frozen 2
    have x3 := HZ2.out.frozen 3
    have x4 := HZ2.out.frozen 4
    have y0 := HZ2.out.cell 0
    have y1 := HZ2.out.cell 1
    have y2 := HZ2.out.cell 2
    have y3 := HZ2.out.cell 3
    have y4 := HZ2.out.cell 4
    simp only [List.getElem?_toArray, List.getElem?_cons_succ, List.getElem?_cons_zero] at y0 y1 y2 y3 y4
    have HBK : Hid (Blk (set5 w2 R (.int .i64 0) (.slice none 0 0) (.slice none 0 0) (.slice none 0 0) (.slice none 0 0)) R 28 #[.int .i64 0, .slice none 0 0, .slice none 0 0, .slice none 0 0, .slice none 0 0]) := ((((HZ2.out.set 0 _).set 1 _).set 2 _).set 3 _).set 4 _
    have HFB : Hid (Below w.heap.size w (set5 w2 R (.int .i64 0) (.slice none 0 0) (.slice none 0 0) (.slice none 0 0) (.slice none 0 0))) := below_set5 HB2.out (by have := HR1.out; omega) _ _ _ _ _
    go_wp2
    refine bodyPost_ret (results_gr_tmp rfl _ _ _ R 28 #[.int .i64 0, .slice none 0 0, .slice none 0 0, .slice none 0 0, .slice none 0 0] (0, 0) rfl HBK.out Tryd.underlying28 (by kernel_rfl)) rfl ?_
    rw [bgF_no HNO.out, bgC_no HNO.out]
    exact ⟨_, _, _, _, rfl, ⟨is_nil _ _, is_nil _ _, is_nil _ _, is_nil _ _⟩, HFB.out⟩
  | true =>
    have HOK := hide (HR2.out.1 rfl)
    clear HR2
    obtain ⟨n, hn⟩ : ∃ n : Nat, d.exits.length = n := ⟨_, rfl⟩
    have hXY : d.w * d.h = (n : Int) := by have := HOK.out.el; omega
    have hnb : n ≤ 1600 := by rw [← hn]; exact HOK.out.el16
    have HN := hide hn
    have HCN : Hid (d.cost.length = n) := by have := HOK.out.cl; show _ = _; omega
    have hX0 := HOK.out.w0
    have hX1 := HOK.out.w1
    have hY0 := HOK.out.h0
    have hY1 := HOK.out.h1
    clear hn
    go_wp2
    rename World => V3
    go_loopw [4, 5] (fun out cx wr => ∃ c : Nat, c ≤ n ∧ cx = .int .i64 c ∧ EsOw wr V3.heap.size out (bgS d c) ∧ Below V3.heap.size V3 wr) (fun _ cx _ => n - (intOf cx).toNat)
    case atStart => exact ⟨0, Nat.zero_le _, rfl, EsOw.nil _ _, Below.refl _ _⟩
    case round =>
      obtain ⟨c, hc, rfl, how, hbl⟩ := hrel
      rename World => Y
      have hlb := bgS_le d c
      obtain ⟨av, cv, hv⟩ := how.slc
      subst hv
      have HO := hide how
      have HB := hide hbl
      have HBW : Hid (Below w.heap.size w Y) := HB2.out.trans (hbl.mono HB2.out.size)
      have hbk := HA2.out.below hbl
      have z0 := hbk.cell 0
      have z1 := hbk.cell 1
      have z2 := hbk.cell 2
      have z3 := hbk.cell 3
      have z4 := hbk.cell 4
      simp only [List.getElem?_toArray, List.getElem?_cons_succ, List.getElem?_cons_zero] at z0 z1 z2 z3 z4
      clear how hbl hbk
      by_cases hlt : c < n
      · have hci : (c : Int) < (n : Int) := by omega
        have hcE : c < d.exits.length := by rw [HN.out]; exact hlt
        have hcEi : (c : Int) < (d.exits.length : Int) := by omega
        obtain rfl := ha3 (by omega)
        have f3 := HC3.out _ HBW.out c hcE
        have HCL := hide (HOK.out.cells c (by rw [HCN.out]; exact hlt))
        have HL4 := hide (fun W => l4bits_blk (d.exits.getD c 0) W HCL.out.e0 (by have := HCL.out.e1; omega))
        obtain ⟨ex, hex⟩ : ∃ x, d.exits.getD c 0 = x := ⟨_, rfl⟩
        rw [hex] at f3 HL4
        have HEX := hide hex
        clear hex
        go_wp2_with fail
        refine (HL4.out _).mono ?_
        rintro e w4 ⟨gw, cw, cur, rfl, hgw, hcur, hb4⟩
        have HGW := hide hgw
        have HCUR := hide hcur
        have HO4 := hide (HO.out.kept hb4)
        have HB4 : Hid (Below V3.heap.size V3 w4) := HB.out.trans (hb4.mono HB.out.size)
        clear hgw hcur hb4 z0 z1 z2 z3 z4 f3 HL4 HO HB HBW
        go_wp2
        rename World => Y4
        go_loopw [4, 7] (fun out kx wr => ∃ k : Nat, k ≤ 4 ∧ kx = .int .i64 k ∧ EsOw wr V3.heap.size out (bgS d c ++ bgK d c k) ∧ Below V3.heap.size V3 wr ∧ Blk wr gw 4 cur) (fun _ kx _ => 4 - (intOf kx).toNat)
        case atStart => exact ⟨0, Nat.zero_le _, rfl, by rw [show bgK d c 0 = [] from rfl, List.append_nil]; exact HO4.out, HB4.out, HGW.out⟩
        case round =>
          clear HO4 HB4 HGW
          obtain ⟨k, hk, rfl, how, hbl, hgw⟩ := hrel
          rename World => Q
          obtain ⟨L, hL⟩ : ∃ L, bgS d c ++ bgK d c k = L := ⟨_, rfl⟩
          have hLl : L.length ≤ 10000 := by
            have h1 := bgK_le d c k
            rw [← hL, List.length_append]
            omega
          rw [hL] at how
          have HLL := hide hL
          obtain ⟨aq, cq, hv⟩ := how.slc
          subst hv
          have HO := hide how
          have HB := hide hbl
          have HGW := hide hgw
          have HBW : Hid (Below w.heap.size w Q) := HB2.out.trans (hbl.mono HB2.out.size)
          have hbk := HA2.out.below hbl
          have z0 := hbk.cell 0
          have z1 := hbk.cell 1
          have z2 := hbk.cell 2
          have z3 := hbk.cell 3
          have z4 := hbk.cell 4
          simp only [List.getElem?_toArray, List.getElem?_cons_succ, List.getElem?_cons_zero] at z0 z1 z2 z3 z4
          clear how hbl hbk hgw hL
          by_cases hk4 : k < 4
          · have hki : (k : Int) < 4 := by omega
            have g0 := HGW.out.cell k
            rw [HCUR.out k hk4] at g0
            cases hbit : bitAt ex k with
            | false =>
              rw [hbit] at g0
              have HNX : Hid (L = bgS d c ++ bgK d c (k + 1)) := by
                show _ = bgS d c ++ (bgK d c k ++ _)
                rw [HEX.out, hbit, ← HLL.out]
                simp
              clear hbit
              go_wp2
              go_roundw
              case rel => exact ⟨k + 1, by omega, by go_num, by rw [← HNX.out]; exact HO.out, HB.out, HGW.out⟩
              case measure => simp [intOf]; omega
            | true =>
              rw [hbit] at g0
              have HWY := hide (HCL.out.way k hk4 (by rw [HEX.out]; exact hbit))
              have htl := toC_lt hX0 (by omega : (0 : Int) ≤ (c : Int)) (by rw [hXY]; exact hci) k (h := d.h)
              rw [hXY] at htl
              have HTO := hide (fun W => l4to_any d.w d.h c k W hX0 hX1 hY0 hY1 (by omega) (by rw [hXY]; exact hci) hk4)
              obtain ⟨t, ht⟩ : ∃ t : Nat, toC d.w d.h c k = (t : Int) := ⟨(toC d.w d.h c k).toNat, by have := HWY.out.1; omega⟩
              have HNX : Hid (L ++ [⟨(c : Int), (t : Int), (k : Int), d.cost.getD t 0⟩] = bgS d c ++ bgK d c (k + 1)) := by
                show _ = bgS d c ++ (bgK d c k ++ _)
                rw [HEX.out, hbit, ← HLL.out, List.append_assoc]
                unfold bgE
                rw [ht, Int.toNat_natCast]
                rfl
              rw [ht] at HTO htl
              have htn : t < n := by omega
              have htC : t < d.cost.length := by rw [HCN.out]; exact htn
              have htCi : (t : Int) < (d.cost.length : Int) := by omega
              obtain rfl := ha2 (by omega)
              obtain ⟨y, hy⟩ : ∃ y, d.cost.getD t 0 = y := ⟨_, rfl⟩
              rw [hy] at HNX
              clear hbit ht htl
              go_wp2_with fail
              refine (HTO.out _).mono ?_
              rintro e w5 ⟨rfl, hw5⟩
              have hb5 : Below Q.heap.size Q w5 := by rw [hw5]; exact Below.refl _ _
              clear hw5
              have HO5 := hide (HO.out.kept hb5)
              have HB5 : Hid (Below V3.heap.size V3 w5) := HB.out.trans (hb5.mono HB.out.size)
              have HBW5 : Hid (Below w.heap.size w w5) := HBW.out.trans (hb5.mono HBW.out.size)
              have HGW5 := hide (HGW.out.below hb5)
              have hbk := HA2.out.below HB5.out
              clear z0 z1 z2 z3 z4 g0 hb5
              have z0 := hbk.cell 0
              have z1 := hbk.cell 1
              have z2 := hbk.cell 2
              have z3 := hbk.cell 3
              have z4 := hbk.cell 4
              simp only [List.getElem?_toArray, List.getElem?_cons_succ, List.getElem?_cons_zero] at z0 z1 z2 z3 z4
              have f2 := HC2.out _ HBW5.out t htC
              rw [hy] at f2
              clear hy hbk
              obtain ⟨ZA, hZA⟩ : ∃ W, w5.alloc (.cells #[.int .i64 (c : Nat), .int .i64 (t : Nat), .int .i64 (k : Nat), .int .i64 y] 48) = W := ⟨_, rfl⟩
              have hbA : Below w5.heap.size w5 ZA := by rw [← hZA]; exact (Below.refl _ _).alloc (Nat.le_refl _) _
              have HOA := hide (HO5.out.kept hbA)
              have HBA : Hid (Below V3.heap.size V3 ZA) := HB5.out.trans (hbA.mono HB5.out.size)
              have HBZ : Hid (V3.heap.size ≤ ZA.heap.size) := HBA.out.size
              have HGA := hide (HGW5.out.below hbA)
              have HNW : Hid (∀ j, j < 4 → ZA.cell? ⟨w5.heap.size, j, none⟩ = (edc ⟨(c : Int), (t : Int), (k : Int), y⟩)[j]?) := fun j hj => by
                rw [← hZA]
                exact ((Blk.new w5 48 #[.int .i64 (c : Nat), .int .i64 (t : Nat), .int .i64 (k : Nat), .int .i64 y]).cell j).trans (by rw [List.getElem?_toArray]; rfl)
              have HZA := hide hZA
              clear hZA hbA
              go_wp2_with (at_builtin; rw [HZA.out]; refine wp_appEsA rfl (.tmp 43) (.tmp 53) rfl V3.heap.size (.slice aq L.length cq) L rfl HOA.out w5.heap.size 1 ⟨(c : Int), (t : Int), (k : Int), y⟩ rfl HNW.out (by omega) HBZ.out ?_)
              intro v' W' ap
              have HNN : Hid (EsOw W' V3.heap.size v' (bgS d c ++ bgK d c (k + 1)) ∧ Below V3.heap.size V3 W' ∧ Blk W' gw 4 cur) := ⟨by rw [← HNX.out]; exact ap.own, EsOw.below HOA.out HBA.out HBZ.out ap.gr, app_typed HGA.out (by decide) HOA.out ap.gr⟩
              clear ap z0 z1 z2 z3 z4 f2
              go_wp2
              go_roundw
              case rel => exact ⟨k + 1, by omega, by go_num, HNN.out⟩
              case measure => simp [intOf]; omega
          · have hki : ¬ (k : Int) < 4 := by omega
            obtain rfl : k = 4 := by omega
            have HNX : Hid (L = bgS d (c + 1)) := HLL.out.symm
            go_wp2
            go_roundw
            case rel => exact ⟨c + 1, by omega, by go_num, by rw [← HNX.out]; exact HO.out, HB.out⟩
            case measure => simp [intOf]; omega
      · have hci : ¬ (c : Int) < (n : Int) := by omega
        obtain rfl : c = n := by omega
        have HES := hide HO.out.rd
        have HZY := hide (HZ2.out.below HB.out)
        have HF0 := hide (bgS_from d c)
        go_wp2_with fail
        refine (l5graph_any c (bgS d c) (.slice av (bgS d c).length cv) Y hnb (by omega) HF0.out HES.out).mono ?_
        rintro e w4 ⟨p1, p2, p3, p4, bl, rfl, hf, hfr, hb4⟩
        have hv := hf.rd
        obtain ⟨b1, d1, rfl⟩ := hv.start.slice
        obtain ⟨b2', d2, rfl⟩ := hv.to.slice
        obtain ⟨b3', d3, rfl⟩ := hv.dir.slice
        obtain ⟨b4, d4, rfl⟩ := hv.cost.slice
        have HZ4 := hide (HZY.out.below hb4)
        have HFB : Hid (Below w.heap.size w (set5 w4 R (.int .i64 c) (.slice b1 (grOf c (bgS d c)).start.length d1) (.slice b2' (grOf c (bgS d c)).to.length d2) (.slice b3' (grOf c (bgS d c)).dir.length d3) (.slice b4 (grOf c (bgS d c)).cost.length d4))) := below_set5 (HBW.out.trans (hb4.mono HBW.out.size)) (by have := HR1.out; omega) _ _ _ _ _
        have HV4 : Hid (GrV (set5 w4 R (.int .i64 c) (.slice b1 (grOf c (bgS d c)).start.length d1) (.slice b2' (grOf c (bgS d c)).to.length d2) (.slice b3' (grOf c (bgS d c)).dir.length d3) (.slice b4 (grOf c (bgS d c)).cost.length d4)) (grOf c (bgS d c)) (.slice b1 (grOf c (bgS d c)).start.length d1) (.slice b2' (grOf c (bgS d c)).to.length d2) (.slice b3' (grOf c (bgS d c)).dir.length d3) (.slice b4 (grOf c (bgS d c)).cost.length d4)) := (hf.set5 (fun q hq => by have h1 := hfr.lo q hq; have h2 := HZY.out.lt; omega) (.int .i64 c) (.slice b1 (grOf c (bgS d c)).start.length d1) (.slice b2' (grOf c (bgS d c)).to.length d2) (.slice b3' (grOf c (bgS d c)).dir.length d3) (.slice b4 (grOf c (bgS d c)).cost.length d4)).rd
        have HBK : Hid (Blk (set5 w4 R (.int .i64 c) (.slice b1 (grOf c (bgS d c)).start.length d1) (.slice b2' (grOf c (bgS d c)).to.length d2) (.slice b3' (grOf c (bgS d c)).dir.length d3) (.slice b4 (grOf c (bgS d c)).cost.length d4)) R 28 #[.int .i64 c, .slice b1 (grOf c (bgS d c)).start.length d1, .slice b2' (grOf c (bgS d c)).to.length d2, .slice b3' (grOf c (bgS d c)).dir.length d3, .slice b4 (grOf c (bgS d c)).cost.length d4]) := ((((HZ4.out.set 0 _).set 1 _).set 2 _).set 3 _).set 4 _
        have x0 := HZ4.out.frozen 0
        have x1 := HZ4.out.frozen 1
        have x2 := HZ4.out.frozen 2
        have x3 := HZ4.out.frozen 3
        have x4 := HZ4.out.frozen 4
        have y0 := HZ4.out.cell 0
        have y1 := HZ4.out.cell 1
        have y2 := HZ4.out.cell 2
        have y3 := HZ4.out.cell 3
        have y4 := HZ4.out.cell 4
        simp only [List.getElem?_toArray, List.getElem?_cons_succ, List.getElem?_cons_zero] at y0 y1 y2 y3 y4
        have HEQ : Hid (bgF d = grOf c (bgS d c)) := by show _ = _; rw [bgF_yes HOK.out, HN.out]
        unfold gragg
        have hgo : (grOf c (bgS d c)).n = (c : Int) := rfl
        rw [hgo]
        obtain ⟨r, hr⟩ : ∃ r, grOf c (bgS d c) = r := ⟨_, rfl⟩
        rw [hr] at HEQ HV4 HFB HBK ⊢
        have HRR := hide hr
        clear hv hb4 hgo hr hf hfr z0 z1 z2 z3 z4
        go_wp2
        refine bodyPost_ret (results_gr_tmp rfl _ _ _ R 28 _ (0, 0) rfl HBK.out Tryd.underlying28 (by kernel_rfl)) rfl ?_
        rw [HEQ.out, bgC_yes HOK.out]
        have hrn : r.n = (c : Int) := by rw [← HRR.out]; rfl
        exact ⟨_, _, _, _, by unfold gragg; rw [hrn]; rfl, HV4.out, HFB.out⟩
end Go.Proofs.YtpoanbpgpgflcaaDoor

/-
  The walk of spec.Reverse.
-/
import Derived.Test.YtohilccbfdienaaJCoRVP
import Derived.Test.YtohilccbfdienaaJCoSLG
import Derived.Test.YtohilccbfdienaaJCoSED
import Derived.Test.YtohilccbfdienaaJCoSG
namespace Go.Proofs.Ytohilccbfdienaa
open Go.RowKit

set_option maxHeartbeats 4000000 in
set_option maxRecDepth 1000000 in
theorem specReverse_any (g : Gr) (v1 v2 v3 v4 : Value) (w : World) (hb : GrB g) (h : GrV w g v1 v2 v3 v4) :
    Calls Try.prog 16 #[gragg g v1 v2 v3 v4] w fun e w' => ∃ p1 p2 p3 p4, e = .returned (.tuple #[gragg (rvF g) p1 p2 p3 p4, .int .i64 (rvC g)]) ∧ GrV w' (rvF g) p1 p2 p3 p4 ∧ Below w.heap.size w w' := by
  have HVG := hide (fun w2 (h2 : Below w.heap.size w w2) => specGraph_any g v1 v2 v3 v4 w2 hb (h.below h2))
  have HED := hide (fun w2 (h2 : Below w.heap.size w w2) (hok : GrOk g) => l5edges_any g v1 v2 v3 v4 w2 hok (h.below h2))
  obtain ⟨a1, c1, rfl⟩ := h.start.slice
  obtain ⟨a2, c2, rfl⟩ := h.to.slice
  obtain ⟨a3, c3, rfl⟩ := h.dir.slice
  obtain ⟨a4, c4, rfl⟩ := h.cost.slice
  obtain ⟨W0, hW0⟩ : ∃ W, w.alloc (.cells #[.int .i64 g.n, .slice a1 g.start.length c1, .slice a2 g.to.length c2, .slice a3 g.dir.length c3, .slice a4 g.cost.length c4] 28) = W := ⟨_, rfl⟩
  have HB0 : Hid (Below w.heap.size w W0) := by rw [← hW0]; exact (Below.refl _ _).alloc (Nat.le_refl _) _
  have HA0 : Hid (Blk W0 w.heap.size 28 #[.int .i64 g.n, .slice a1 g.start.length c1, .slice a2 g.to.length c2, .slice a3 g.dir.length c3, .slice a4 g.cost.length c4]) := by rw [← hW0]; exact Blk.new _ _ _
  have HW := hide hW0
  clear hW0
  unfold gragg at HVG HED ⊢
  clear hb h
  go_enter Try.func16, Try.ntmps16
  obtain ⟨R, hR⟩ : ∃ R, W0.heap.size = R := ⟨_, rfl⟩
  have hR1 : w.heap.size + 1 = R := by rw [← hR, ← HW.out, World.size_alloc]
  have HR1 := hide hR1
  obtain ⟨W1, hW1⟩ : ∃ W, W0.alloc (.cells #[.int .i64 0, .slice none 0 0, .slice none 0 0, .slice none 0 0, .slice none 0 0] 28) = W := ⟨_, rfl⟩
  have hb1 : Below W0.heap.size W0 W1 := by rw [← hW1]; exact (Below.refl _ _).alloc (Nat.le_refl _) _
  have HB1 : Hid (Below w.heap.size w W1) := HB0.out.trans (hb1.mono HB0.out.size)
  have HA1 := hide (HA0.out.below hb1)
  have HZ1 : Hid (Blk W1 R 28 #[.int .i64 0, .slice none 0 0, .slice none 0 0, .slice none 0 0, .slice none 0 0]) := by rw [← hW1, ← hR]; exact Blk.new _ _ _
  have HW1 := hide hW1
  clear hR hW1 hb1 hR1 HA0
  go_wp2_with fail
  rw [HW.out, HW1.out, HR1.out]
  refine (HVG.out _ HB1.out).mono ?_
  rintro e w2 ⟨⟨r1, rfl, hr1⟩, hb2⟩
  have HA2 := hide (HA1.out.below hb2)
  have HZ2 := hide (HZ1.out.below hb2)
  have HB2 : Hid (Below w.heap.size w w2) := HB1.out.trans (hb2.mono HB1.out.size)
  have HR2 := hide hr1
  clear hb2 hr1 HA1 HB1 HZ1 HW HW1 HB0 HVG
  cases r1 with
  | false =>
    have HNO : Hid (¬ GrOk g) := fun h => by have := HR2.out.2 h; cases this
    have x0 := HZ2.out.frozen 0
    have x1 := HZ2.out.frozen 1
    have x2 := HZ2.out.frozen 2
    have x3 := HZ2.out.frozen 3
    have x4 := HZ2.out.frozen 4
    have y0 := HZ2.out.cell 0
    have y1 := HZ2.out.cell 1
    have y2 := HZ2.out.cell 2
    have y3 := HZ2.out.cell 3
    have y4 := HZ2.out.cell 4
    simp only [List.getElem?_toArray, List.getElem?_cons_succ, List.getElem?_cons_zero] at y0 y1 y2 y3 y4
    have HBK : Hid (Blk (set5 w2 R (.int .i64 0) (.slice none 0 0) (.slice none 0 0) (.slice none 0 0) (.slice none 0 0)) R 28 #[.int .i64 0, .slice none 0 0, .slice none 0 0, .slice none 0 0, .slice none 0 0]) := ((((HZ2.out.set 0 _).set 1 _).set 2 _).set 3 _).set 4 _
    have HFB : Hid (Below w.heap.size w (set5 w2 R (.int .i64 0) (.slice none 0 0) (.slice none 0 0) (.slice none 0 0) (.slice none 0 0))) := below_set5 HB2.out (by have := HR1.out; omega) _ _ _ _ _
    go_wp2
    refine bodyPost_ret (results_gr_tmp rfl _ _ _ R 28 #[.int .i64 0, .slice none 0 0, .slice none 0 0, .slice none 0 0, .slice none 0 0] (0, 0) rfl HBK.out Try.underlying28 (by kernel_rfl)) rfl ?_
    rw [rvF_no HNO.out, rvC_no HNO.out]
    exact ⟨_, _, _, _, rfl, ⟨is_nil _ _, is_nil _ _, is_nil _ _, is_nil _ _⟩, HFB.out⟩
  | true =>
    have HOK := hide (HR2.out.1 rfl)
    clear HR2
    have z0 := HA2.out.cell 0
    have z1 := HA2.out.cell 1
    have z2 := HA2.out.cell 2
    have z3 := HA2.out.cell 3
    have z4 := HA2.out.cell 4
    simp only [List.getElem?_toArray, List.getElem?_cons_succ, List.getElem?_cons_zero] at z0 z1 z2 z3 z4
    go_wp2_with fail
    refine (HED.out _ HB2.out HOK.out).mono ?_
    rintro e w3 ⟨v, rfl, hes, hb3⟩
    have HB3 : Hid (Below w.heap.size w w3) := HB2.out.trans (hb3.mono HB2.out.size)
    have HA3 := hide (HA2.out.below hb3)
    have HZ3 := hide (HZ2.out.below hb3)
    have HES := hide hes
    obtain ⟨a5, b5, o5, c5, rfl, ha5, hc5⟩ := hes
    have HC5 : Hid (∀ w4, Below w3.heap.size w3 w4 → ∀ j, j < (eds g).length → ∀ p, (eds g)[j]? = some p → w4.cell? ⟨b5, o5 + j * 4, none⟩ = some (.int .i64 p.f) ∧ w4.cell? ⟨b5, o5 + j * 4 + 1, none⟩ = some (.int .i64 p.t) ∧ w4.cell? ⟨b5, o5 + j * 4 + 2, none⟩ = some (.int .i64 p.d) ∧ w4.cell? ⟨b5, o5 + j * 4 + 3, none⟩ = some (.int .i64 p.c)) := fun w4 h4 j hj p hp => by
      obtain ⟨k0, k1, k2, k3⟩ := hc5 j hj p hp
      exact ⟨cell_kept k0 h4, cell_kept k1 h4, cell_kept k2 h4, cell_kept k3 h4⟩
    obtain ⟨N, hN⟩ : ∃ N, (eds g).length = N := ⟨_, rfl⟩
    have HN := hide hN
    rw [hN] at ha5 ⊢
    have hm : N ≤ 6400 := by rw [← HN.out, eds_length]; exact HOK.out.m
    clear hN hb3 z0 z1 z2 z3 z4 HA2 HZ2 HB2 hc5 HES
    go_wp2
    rename World => V3
    go_loopw [5, 6] (fun bx ix wr => ∃ k : Nat, ix = .int .i64 k ∧ k ≤ N ∧ EsOw wr V3.heap.size bx (((eds g).take k).map Ed.turn) ∧ Below V3.heap.size V3 wr) (fun _ ix _ => N - (intOf ix).toNat)
    case atStart => exact ⟨0, rfl, Nat.zero_le _, EsOw.nil _ _, Below.refl _ _⟩
    case round =>
      obtain ⟨k, rfl, hk, how, hbl⟩ := hrel
      rename World => Z
      obtain ⟨a6, c6, hv6⟩ := how.slc
      have hlk : (((eds g).take k).map Ed.turn).length = k := by rw [List.length_map, List.length_take, HN.out, Nat.min_eq_left hk]
      rw [hlk] at hv6
      have HLK := hide hlk
      subst hv6
      have HO := hide how
      have HB := hide hbl
      clear hlk
      by_cases hlt : k < N
      · have hki : (k : Int) < (N : Int) := by omega
        obtain rfl := ha5 (by omega)
        have hkS : k < (eds g).length := by rw [HN.out]; exact hlt
        obtain ⟨x, hx⟩ : ∃ x, (eds g)[k]? = some x := ⟨_, List.getElem?_eq_getElem hkS⟩
        obtain ⟨p0, p1, p2, p3⟩ := HC5.out Z hbl k hkS x hx
        have HX := hide hx
        have hEB := Blk.new Z 53 #[.int .i64 x.f, .int .i64 x.t, .int .i64 x.d, .int .i64 x.c]
        have e0 := hEB.cell 0
        have e1 := hEB.cell 1
        have e2 := hEB.cell 2
        have e3 := hEB.cell 3
        simp only [List.getElem?_toArray, List.getElem?_cons_succ, List.getElem?_cons_zero] at e0 e1 e2 e3
        obtain ⟨ZA, hZA⟩ : ∃ W, ((Z.alloc (.cells #[.int .i64 x.f, .int .i64 x.t, .int .i64 x.d, .int .i64 x.c] 53)).alloc (.cells #[.int .i64 x.t, .int .i64 x.f, .int .i64 x.d, .int .i64 x.c] 53)) = W := ⟨_, rfl⟩
        have hbA : Below Z.heap.size Z ZA := by rw [← hZA]; exact ((Below.refl _ _).alloc (Nat.le_refl _) _).alloc (by rw [World.size_alloc]; omega) _
        have HOA := hide (how.kept hbA)
        have HBA : Hid (Below V3.heap.size V3 ZA) := hbl.trans (hbA.mono hbl.size)
        have HBZ : Hid (V3.heap.size ≤ ZA.heap.size) := HBA.out.size
        have HNW : Hid (∀ j, j < 4 → ZA.cell? ⟨Z.heap.size + 1, j, none⟩ = (edc x.turn)[j]?) := fun j hj => by
          have h1 := (Blk.new (Z.alloc (.cells #[.int .i64 x.f, .int .i64 x.t, .int .i64 x.d, .int .i64 x.c] 53)) 53 #[.int .i64 x.t, .int .i64 x.f, .int .i64 x.d, .int .i64 x.c]).cell j
          rw [World.size_alloc] at h1
          rw [← hZA]
          exact h1.trans (by rw [List.getElem?_toArray]; rfl)
        have HZA := hide hZA
        clear how hbl hx hEB hZA hbA
        go_wp2_with (at_builtin; rw [HZA.out]; refine wp_appEsA rfl (.tmp 24) (.tmp 34) rfl V3.heap.size (.slice a6 k c6) (((eds g).take k).map Ed.turn) rfl HOA.out (Z.heap.size + 1) 1 x.turn rfl HNW.out (by rw [HLK.out]; omega) HBZ.out ?_)
        intro v' W' ap
        have HNX : Hid (EsOw W' V3.heap.size v' (((eds g).take (k + 1)).map Ed.turn) ∧ Below V3.heap.size V3 W') := by
          refine ⟨?_, EsOw.below HOA.out HBA.out HBZ.out ap.gr⟩
          rw [List.take_add_one, HX.out, List.map_append]
          first | exact ap.own | (have h1 := ap.own; rw [← List.map_take] at h1; exact h1)
        clear ap e0 e1 e2 e3
        go_wp2
        go_roundw
        case rel => exact ⟨k + 1, by first | rfl | (congr 1; omega), by omega, HNX.out⟩
        case measure =>
          show _ < _
          simp only [intOf]
          omega
      · have hki : ¬ (k : Int) < (N : Int) := by omega
        obtain rfl : k = N := by omega
        have HER : Hid (EdS Z (.slice a6 k c6) (rvS g)) := by
          have h1 := how.rd
          rw [← HN.out, List.take_length] at h1
          rw [← HN.out]
          exact h1
        have HA := hide (HA3.out.below hbl)
        have HZ := hide (HZ3.out.below hbl)
        have HBB : Hid (Below w.heap.size w Z) := HB3.out.trans (hbl.mono HB3.out.size)
        clear how hbl
        have z0 := HA.out.cell 0
        simp only [List.getElem?_toArray, List.getElem?_cons_zero] at z0
        go_wp2_with fail
        have hgn : g.n = (g.n.toNat : Int) := by have := HOK.out.n0; omega
        obtain ⟨n, hnn⟩ : ∃ n, g.n.toNat = n := ⟨_, rfl⟩
        rw [hnn] at hgn
        have hn16 : n ≤ 1600 := by have := HOK.out.n1; omega
        have HNN := hide hnn
        rw [hgn]
        clear hgn hnn z0
        refine (l5graph_any n (rvS g) (.slice a6 k c6) Z hn16 (by rw [rvS_length]; exact HOK.out.m) (by rw [← HNN.out]; exact rvS_in HOK.out) HER.out).mono ?_
        rintro e w4 ⟨p1, p2, p3, p4, bl, rfl, hf, hfr, hb4⟩
        have hv := hf.rd
        obtain ⟨b1, d1, rfl⟩ := hv.start.slice
        obtain ⟨b2, d2, rfl⟩ := hv.to.slice
        obtain ⟨b3, d3, rfl⟩ := hv.dir.slice
        obtain ⟨b4, d4, rfl⟩ := hv.cost.slice
        have HZ4 := hide (HZ.out.below hb4)
        have HFB : Hid (Below w.heap.size w (set5 w4 R (.int .i64 n) (.slice b1 (grOf n (rvS g)).start.length d1) (.slice b2 (grOf n (rvS g)).to.length d2) (.slice b3 (grOf n (rvS g)).dir.length d3) (.slice b4 (grOf n (rvS g)).cost.length d4))) := below_set5 (HBB.out.trans (hb4.mono HBB.out.size)) (by have := HR1.out; omega) _ _ _ _ _
        have HV4 : Hid (GrV (set5 w4 R (.int .i64 n) (.slice b1 (grOf n (rvS g)).start.length d1) (.slice b2 (grOf n (rvS g)).to.length d2) (.slice b3 (grOf n (rvS g)).dir.length d3) (.slice b4 (grOf n (rvS g)).cost.length d4)) (grOf n (rvS g)) (.slice b1 (grOf n (rvS g)).start.length d1) (.slice b2 (grOf n (rvS g)).to.length d2) (.slice b3 (grOf n (rvS g)).dir.length d3) (.slice b4 (grOf n (rvS g)).cost.length d4)) := (hf.set5 (fun q hq => by have h1 := hfr.lo q hq; have h2 := HZ.out.lt; omega) (.int .i64 n) (.slice b1 (grOf n (rvS g)).start.length d1) (.slice b2 (grOf n (rvS g)).to.length d2) (.slice b3 (grOf n (rvS g)).dir.length d3) (.slice b4 (grOf n (rvS g)).cost.length d4)).rd
        have HBK : Hid (Blk (set5 w4 R (.int .i64 n) (.slice b1 (grOf n (rvS g)).start.length d1) (.slice b2 (grOf n (rvS g)).to.length d2) (.slice b3 (grOf n (rvS g)).dir.length d3) (.slice b4 (grOf n (rvS g)).cost.length d4)) R 28 #[.int .i64 n, .slice b1 (grOf n (rvS g)).start.length d1, .slice b2 (grOf n (rvS g)).to.length d2, .slice b3 (grOf n (rvS g)).dir.length d3, .slice b4 (grOf n (rvS g)).cost.length d4]) := ((((HZ4.out.set 0 _).set 1 _).set 2 _).set 3 _).set 4 _
        have x0 := HZ4.out.frozen 0
        have x1 := HZ4.out.frozen 1
        have x2 := HZ4.out.frozen 2
        have x3 := HZ4.out.frozen 3
        have x4 := HZ4.out.frozen 4
        have y0 := HZ4.out.cell 0
        have y1 := HZ4.out.cell 1
        have y2 := HZ4.out.cell 2
        have y3 := HZ4.out.cell 3
        have y4 := HZ4.out.cell 4
        simp only [List.getElem?_toArray, List.getElem?_cons_succ, List.getElem?_cons_zero] at y0 y1 y2 y3 y4
        have HEQ : Hid (rvF g = grOf n (rvS g)) := by show _ = _; rw [rvF_yes HOK.out, HNN.out]
        unfold gragg
        have hgo : (grOf n (rvS g)).n = (n : Int) := rfl
        rw [hgo]
        obtain ⟨r, hr⟩ : ∃ r, grOf n (rvS g) = r := ⟨_, rfl⟩
        rw [hr] at HEQ HV4 HFB HBK ⊢
        have HRR := hide hr
        clear hv hb4 hgo hr hf hfr
        go_wp2
        refine bodyPost_ret (results_gr_tmp rfl _ _ _ R 28 _ (0, 0) rfl HBK.out Try.underlying28 (by kernel_rfl)) rfl ?_
        rw [HEQ.out, rvC_yes HOK.out]
        have hrn : r.n = (n : Int) := by rw [← HRR.out]; rfl
        exact ⟨_, _, _, _, by rw [hrn]; rfl, HV4.out, HFB.out⟩
end Go.Proofs.Ytohilccbfdienaa

/-
  The walk of spec.LayoutDecls.
-/
import Derived.Test.YtaapababeecmeaaDoorJLayoutDeclsSLD0
import Derived.BigQuiet
import Derived.Deep.QuietTactic
import Derived.Deep.RegionWith
import Derived.Deep.RegionHeld3
import Derived.Deep.AppendLies
namespace Go.Proofs.YtaapababeecmeaaDoor
open Go.RowKit

set_option maxHeartbeats 8000000 in
set_option maxRecDepth 1000000 in
theorem specLD_any (d : Ly) (v2 v3 v4 : Value) (w : World) (hb : LyB d) (h : LyV w d v2 v3 v4) :
    Calls Tryd.prog 11 #[lyagg d v2 v3 v4] w fun e w' => ∃ v, e = .returned v ∧ DcS w' v (layD d) ∧ Below w.heap.size w w' := by
  have HV := hide h
  have HVL := hide (fun w2 (hb2 : Below w.heap.size w w2) => specLayout_any d v2 v3 v4 w2 hb (h.below hb2))
  obtain ⟨a2, b2, o2, c2, rfl, ha2, hc2⟩ := h.cost
  obtain ⟨a3, b3, o3, c3, rfl, ha3, hc3⟩ := h.exits
  obtain ⟨a4, b4, o4, c4, rfl, ha4, hc4⟩ := h.targets
  have HC2 : Hid (∀ w2, Below w.heap.size w w2 → ∀ j, j < d.cost.length → w2.cell? ⟨b2, o2 + j, none⟩ = some (.int .i64 (d.cost.getD j 0))) := fun w2 hb2 j hj => cell_kept (hc2 j hj) hb2
  have HC3 : Hid (∀ w2, Below w.heap.size w w2 → ∀ j, j < d.exits.length → w2.cell? ⟨b3, o3 + j, none⟩ = some (.int .i64 (d.exits.getD j 0))) := fun w2 hb2 j hj => cell_kept (hc3 j hj) hb2
  have HC4 : Hid (∀ w2, Below w.heap.size w w2 → ∀ j, j < d.targets.length → ∃ v0, TgC w2 b4 (o4 + j * 3) (d.targets.getD j .zero) v0 ∧ TgV w2 (d.targets.getD j .zero) v0) := fun w2 hb2 j hj => by
    obtain ⟨v0, h1, h2⟩ := hc4 j hj
    exact ⟨v0, h1.below hb2, h2.below hb2⟩
  clear h hc2 hc3 hc4
  obtain ⟨D, hD⟩ : ∃ D, d = D := ⟨_, rfl⟩
  have HD := hide hD
  unfold lyagg at HVL ⊢
  obtain ⟨X, Y, C, E, T⟩ := d
  simp only at HV HVL ha2 ha3 ha4 HC2 HC3 HC4 ⊢
  have hbl := hb.cost
  simp only at hbl
  clear hb hD
  obtain ⟨W0, hW0⟩ : ∃ W, w.alloc (.cells #[.int .i64 X, .int .i64 Y, .slice a2 C.length c2, .slice a3 E.length c3, .slice a4 T.length c4] 30) = W := ⟨_, rfl⟩
  have hB0 : Below w.heap.size w W0 := by rw [← hW0]; exact (Below.refl _ _).alloc (Nat.le_refl _) _
  have hA0 : Blk W0 w.heap.size 30 #[.int .i64 X, .int .i64 Y, .slice a2 C.length c2, .slice a3 E.length c3, .slice a4 T.length c4] := by rw [← hW0]; exact Blk.new _ _ _
  have HB0 := hide hB0
  have HA0 := hide hA0
  have HW := hide hW0
  clear hB0 hA0 hW0
  go_enter Tryd.func11, Tryd.ntmps11
  go_wp2_with fail
  rw [HW.out]
  refine (HVL.out _ HB0.out).mono ?_
  rintro e w1 ⟨⟨b1, rfl, hi1⟩, hb1⟩
  have HA1 := hide (HA0.out.below hb1)
  have HB1 : Hid (Below w.heap.size w w1) := HB0.out.trans (hb1.mono HB0.out.size)
  rw [HD.out] at hi1
  clear hb1 HA0 HB0 HW HVL
  cases b1 with
  | false =>
    have HR : Hid (layD D = []) := by
      show _ = _
      unfold layD
      exact if_neg (fun h => by have := hi1.2 h; cases this)
    clear hi1
    go_wp2
    go_ret
    refine ⟨_, rfl, ?_, HB1.out⟩
    rw [HD.out, HR.out]
    exact ⟨none, 0, 0, 0, rfl, fun h => absurd h (by decide), fun j hj => absurd hj (Nat.not_lt_zero _)⟩
  | true =>
  have HOK := hide (hi1.1 rfl)
  have HR : Hid (layD D = tgsTo D D.targets.length) := by
    show _ = _
    unfold layD
    exact if_pos HOK.out
  have HXY : Hid (1 ≤ X ∧ X ≤ 40 ∧ 1 ≤ Y ∧ Y ≤ 40 ∧ (C.length : Int) = X * Y ∧ (E.length : Int) = X * Y) := by
    have := HOK.out
    rw [← HD.out] at this
    exact ⟨this.w0, this.w1, this.h0, this.h1, this.cl, this.el⟩
  obtain ⟨hX0, hX1, hY0, hY1, hCl, hEl⟩ := HXY.out
  have hn1 : X * Y ≤ 1600 := by
    have : X * Y ≤ 40 * 40 := Int.mul_le_mul (by omega) (by omega) (by omega) (by omega)
    omega
  obtain ⟨n, hn⟩ : ∃ n : Nat, C.length = n := ⟨_, rfl⟩
  have hXY : X * Y = (n : Int) := by omega
  have hnb : n ≤ 1600 := by omega
  have HN := hide hn
  have HEN : Hid (E.length = n) := by show _ = _; omega
  have HDF : Hid (D.w = X ∧ D.h = Y ∧ D.cost = C ∧ D.exits = E ∧ D.targets = T) := by rw [← HD.out]; exact ⟨rfl, rfl, rfl, rfl, rfl⟩
  clear hi1 hn1 hCl hEl hn
  have z0 := HA1.out.cell 0
  have z1 := HA1.out.cell 1
  simp only [List.getElem?_toArray, List.getElem?_cons_succ, List.getElem?_cons_zero] at z0 z1
  go_wp2
  clear z0 z1
  have HAT := hide (fun (kind : Int) (c : Nat) w2 (hc : c ≤ 100000) => l4at_any X Y (.slice a2 C.length c2) (.slice a3 E.length c3) (.slice a4 T.length c4) kind c a2 a3 a4 _ _ _ c2 c3 c4 rfl rfl rfl w2 hX0 hc)
  obtain ⟨B, hB⟩ : ∃ B, w1.heap.size = B := ⟨_, rfl⟩
  have HWB : Hid (w.heap.size < B) := by show _ < _; rw [← hB]; exact HA1.out.lt
  have HI0 : Hid (∃ LV, DcOw (w1.alloc (.cells #[.int .i64 7, .int .i64 X, .int .i64 Y, .int .i64 X, .int .i64 Y, .int .i64 0, .int .i64 0, .slice none 0 0, .int .i64 0] 59)) B (.slice (some ⟨w1.heap.size, 0, none⟩) 1 1) LV ∧ LV.map (·.1) = cellsTo D 0 ∧ ∀ p ∈ LV, p.2 = .slice none 0 0) := by
    refine ⟨[(gridD D, .slice none 0 0)], ?_, rfl, fun p hp => by rw [List.mem_singleton.1 hp]⟩
    obtain ⟨e1, e2, _⟩ := HDF.out
    have e : gridD D = ⟨7, X, Y, X, Y, 0, 0, .empty, 0⟩ := by unfold gridD; rw [e1, e2]
    rw [e]
    exact dcOw_new w1 ⟨7, X, Y, X, Y, 0, 0, .empty, 0⟩ (.slice none 0 0) B (by rw [hB]; exact Nat.le_refl _)
  have HZ1 : Hid (B ≤ w1.heap.size) := by rw [hB]; exact Nat.le_refl _
  clear hB
  have HLE := hide (fun c => cellsTo_le D c)
  go_loopw [3, 4] (fun out cx wr => ∃ (c : Nat) (LV : List (Dc × Value)), c ≤ n ∧ cx = .int .i64 c ∧ DcOw wr B out LV ∧ LV.map (·.1) = cellsTo D c ∧ (∀ p ∈ LV, p.2 = .slice none 0 0) ∧ Blk wr w.heap.size 30 #[.int .i64 X, .int .i64 Y, .slice a2 C.length c2, .slice a3 E.length c3, .slice a4 T.length c4] ∧ Below w.heap.size w wr ∧ B ≤ wr.heap.size) (fun _ cx _ => n - (intOf cx).toNat)
  case atStart =>
    obtain ⟨LV, h1, h2, h3⟩ := HI0.out
    exact ⟨0, LV, Nat.zero_le _, rfl, h1, h2, h3, HA1.out.alloc _, HB1.out.alloc HB1.out.size _, by rw [World.size_alloc]; have := HZ1.out; omega⟩
  case round =>
    clear HI0 HA1 HB1 HZ1
    obtain ⟨c, LV, hc, rfl, hown, hmap, hnil, hbk, hbl2, hBz⟩ := hrel
    have HO := hide hown
    have HMP := hide hmap
    have HNL := hide hnil
    have HBK := hide hbk
    have HB := hide hbl2
    have hlen : LV.length ≤ 8001 := by
      have h1 := HLE.out c
      rw [← hmap, List.length_map] at h1
      omega
    have z0 := hbk.cell 0
    have z1 := hbk.cell 1
    have z2 := hbk.cell 2
    have z3 := hbk.cell 3
    have z4 := hbk.cell 4
    simp only [List.getElem?_toArray, List.getElem?_cons_succ, List.getElem?_cons_zero] at z0 z1 z2 z3 z4
    clear hown hmap hnil hbk
    by_cases hlt : c < n
    · have hlti : (c : Int) < (n : Int) := by omega
      have hcC : c < C.length := by have := HN.out; omega
      have hcl : (c : Int) < (C.length : Int) := by omega
      obtain rfl := ha2 (by omega)
      have f2 := HC2.out _ hbl2 c hcC
      obtain ⟨g, hg⟩ : ∃ g, C.getD c 0 = g := ⟨_, rfl⟩
      rw [hg] at f2
      have hgC := hg
      have HG : Hid (D.cost.getD c 0 = g) := by show _ = _; rw [HDF.out.2.2.1]; exact hg
      clear hg
      have HGC := hide hgC
      clear hgC
      by_cases q0 : g = 0
      · have t0 : (g == 0) = true := by rw [beq_iff_eq]; exact q0
        have HCD : Hid (cellsTo D (c + 1) = cellsTo D c ++ [dAt 8 X c]) := by
          show cellsTo D c ++ cellD D c = _
          unfold cellD
          rw [HG.out, if_pos q0, HDF.out.1]
        clear q0
        go_wp2_with (first
          | (go_at_call 36; refine (HAT.out _ _ _ (by omega)).mono ?_; rintro e w2 ⟨rfl, hb2⟩; have HO2 := hide (HO.out.kept hb2); have HBK2 := hide (HBK.out.below hb2); have HB2 : Hid (Below w.heap.size w w2) := HB.out.trans (hb2.mono HB.out.size); have hBz2 : B ≤ w2.heap.size := Nat.le_trans hBz hb2.size; clear hb2)
          | (at_builtin; refine wp_app1Dc rfl _ _ rfl B _ LV rfl HO2.out (dAt 8 X c) (.slice none 0 0) _ rfl rfl rfl (by omega) hBz2 ?_; intro v' w4 l hl hown4 hb4 _ _; have HL := hl; have HO4 := hide hown4; have HB4 := hide hb4; clear hl hown4 hb4))
        go_roundw
        case rel =>
          refine ⟨c + 1, l, by omega, by go_num, HO4.out, ?_, ?_, ?_, HB2.out.trans (HB4.out.mono (by have := HWB.out; omega)), by have := HB4.out.size; omega⟩
          · rw [HL.out, List.map_append, HMP.out, HCD.out]; rfl
          · intro p hp
            rw [HL.out] at hp
            rcases List.mem_append.1 hp with h | h
            · exact HNL.out p h
            · rw [List.mem_singleton.1 h]
          · exact (HB4.out.block _ HWB.out).trans HBK2.out
        case measure => simp [intOf]; omega
      · have t0 : (g == 0) = false := by rw [beq_eq_false_iff_ne]; exact q0
        have hcE : c < E.length := by have := HEN.out; omega
        have hcel : (c : Int) < (E.length : Int) := by omega
        obtain rfl := ha3 (by omega)
        have HCK : Hid (0 ≤ E.getD c 0 ∧ E.getD c 0 ≤ 15) := by
          have h1 := HOK.out.cells c (by rw [HDF.out.2.2.1]; exact hcC)
          have e0 := h1.e0; have e1 := h1.e1
          rw [HDF.out.2.2.2.1] at e0 e1
          exact ⟨e0, e1⟩
        have HF3 := hide (fun w2 hb2 => HC3.out w2 hb2 c hcE)
        obtain ⟨y, hy⟩ : ∃ y, E.getD c 0 = y := ⟨_, rfl⟩
        rw [hy] at HCK HF3
        obtain ⟨hy0, hy1⟩ := HCK.out
        have HYD : Hid (D.exits.getD c 0 = y) := by show _ = _; rw [HDF.out.2.2.2.1]; exact hy
        have HBT := hide (fun w2 => l4bits_blk y w2 hy0 (by omega))
        have HCD : Hid (cellD D c = costD D c ++ barsTo D c 4) := by show _ = _; unfold cellD; rw [HG.out, if_neg q0]
        clear hy q0
        by_cases q1 : g = 1
        case' pos =>
          have t1 : (g != 1) = false := by rw [bne_eq_false_iff_eq]; exact q1
          obtain ⟨l, hl⟩ : ∃ l, l = LV := ⟨_, rfl⟩
          have HM5 : Hid (l.map (·.1) = cellsTo D c ++ costD D c) := by
            show _ = _
            unfold costD
            rw [HG.out, if_pos q1, List.append_nil, hl]
            exact HMP.out
          have f3 := HF3.out _ hbl2
          have HN5 : Hid (∀ p ∈ l, p.2 = .slice none 0 0) := by rw [hl]; exact HNL.out
          have hl5 : l.length ≤ 8002 := by rw [hl]; omega
          rw [← hl] at HO
          clear hl q1 HNL HMP
          go_wp2_with fail
          refine (HBT.out _).mono ?_
          rintro e w5 ⟨gl, cl, cur, rfl, hgl, hcur, hb5⟩
          have HO5 := hide (HO.out.kept hb5)
          have HBK5 := hide (HBK.out.below hb5)
          have HB5 : Hid (Below w.heap.size w w5) := HB.out.trans (hb5.mono HB.out.size)
          have hBz5 : B ≤ w5.heap.size := Nat.le_trans hBz hb5.size
          clear hb5 f3 t1
        case' neg =>
          have t1 : (g != 1) = true := by rw [bne_iff_ne]; exact q1
          have HCO : Hid (costD D c = [⟨13, (c : Int) % X, (c : Int) / X, (c : Int) % X, (c : Int) / X, 0, g, .empty, 0⟩]) := by
            show _ = _
            unfold costD dAt
            rw [HG.out, if_neg q1, HDF.out.1]
          clear q1
          go_wp2_with (first
            | (go_at_call 36; refine (HAT.out _ _ _ (by omega)).mono ?_; rintro e w2 ⟨rfl, hb2⟩; have HO2 := hide (HO.out.kept hb2); have HBK2 := hide (HBK.out.below hb2); have HB2 : Hid (Below w.heap.size w w2) := HB.out.trans (hb2.mono HB.out.size); have hBz2 : B ≤ w2.heap.size := Nat.le_trans hBz hb2.size; clear hb2; have f2' : ∀ o, (w2.alloc o).cell? ⟨b2, o2 + c, none⟩ = some (.int .i64 g) := fun o => (HC2.out _ (HB2.out.alloc HB2.out.size o) c hcC).trans (by rw [HGC.out]); have y2 : ∀ o, (w2.alloc o).cell? ⟨w.heap.size, 2, none⟩ = some (.slice (some ⟨b2, o2, none⟩) C.length c2) := fun o => (HBK2.out.alloc o).cell 2)
            | (at_builtin; refine wp_app1Dc rfl _ _ rfl B _ _ rfl (HO2.out.kept ((Below.refl _ _).alloc (Nat.le_refl _) _)) ⟨13, (c : Int) % X, (c : Int) / X, (c : Int) % X, (c : Int) / X, 0, g, .empty, 0⟩ (.slice none 0 0) _ rfl (World.size_alloc _ _) rfl (by omega) (by rw [World.size_alloc]; omega) ?_; intro v' w4 l hl hown4 hb4 hk4 _; have HL := hl; have HO4 := hide hown4; have hb4' : Below B w2 w4 := ((Below.refl _ w2).alloc hBz2 _).trans hb4; have HB4 : Hid (Below w.heap.size w w4) := HB2.out.trans (hb4'.mono (by have := HWB.out; omega)); have HBK4 : Hid (Blk w4 w.heap.size 30 #[.int .i64 X, .int .i64 Y, .slice (some ⟨b2, o2, none⟩) C.length c2, .slice (some ⟨b3, o3, none⟩) E.length c3, .slice a4 T.length c4]) := (hb4'.block _ HWB.out).trans HBK2.out; have hBz4 : B ≤ w4.heap.size := Nat.le_trans hBz2 hb4'.size; have f3 := HF3.out _ HB4.out; have y3 := HBK4.out.cell 3; simp only [List.getElem?_toArray, List.getElem?_cons_succ, List.getElem?_cons_zero] at y3; clear hl hown4 hb4 hk4 hb4'))
          have HM5 : Hid (l.map (·.1) = cellsTo D c ++ costD D c) := by
            show _ = _
            rw [HL.out, List.map_append, HMP.out, HCO.out]
            rfl
          have HN5 : Hid (∀ p ∈ l, p.2 = .slice none 0 0) := fun p hp => by
            rw [HL.out] at hp
            rcases List.mem_append.1 hp with h | h
            · exact HNL.out p h
            · rw [List.mem_singleton.1 h]
          have hl5 : l.length ≤ 8002 := by rw [HL.out, List.length_append]; simp only [List.length_cons, List.length_nil]; omega
          clear HL HNL HMP HO2 HBK2 HB2 f2' y2
          refine (HBT.out _).mono ?_
          rintro e w5 ⟨gl, cl, cur, rfl, hgl, hcur, hb5⟩
          have HO5 := hide (HO4.out.kept hb5)
          have HBK5 := hide (HBK4.out.below hb5)
          have HB5 : Hid (Below w.heap.size w w5) := HB4.out.trans (hb5.mono HB4.out.size)
          have hBz5 : B ≤ w5.heap.size := Nat.le_trans hBz4 hb5.size
          clear hb5 f3 t1 y3 HO4 HBK4 HB4 HCO hBz4 hBz2
        all_goals
          have HGL := hide hgl
          have HCU := hide hcur
          clear hgl hcur z0 z1 z2 z3 z4 f2 t0 hlti HB HBK HO hbl2 hBz hlen HBT HF3 HGC HCK
          go_wp2
          go_loopw [3, 7] (fun out jx wq => ∃ (k : Nat) (LK : List (Dc × Value)), k ≤ 4 ∧ jx = .int .i64 k ∧ DcOw wq B out LK ∧ LK.map (·.1) = cellsTo D c ++ costD D c ++ barsTo D c k ∧ (∀ p ∈ LK, p.2 = .slice none 0 0) ∧ LK.length ≤ 8002 + k ∧ Blk wq gl 4 cur ∧ Blk wq w.heap.size 30 #[.int .i64 X, .int .i64 Y, .slice (some ⟨b2, o2, none⟩) C.length c2, .slice (some ⟨b3, o3, none⟩) E.length c3, .slice a4 T.length c4] ∧ Below w.heap.size w wq ∧ B ≤ wq.heap.size) (fun _ jx _ => 4 - (intOf jx).toNat)
          case atStart => exact ⟨0, l, Nat.zero_le _, rfl, HO5.out, by rw [HM5.out]; exact (List.append_nil _).symm, HN5.out, hl5, HGL.out, HBK5.out, HB5.out, hBz5⟩
          case round =>
            clear HO5 HM5 HN5 HGL HBK5 HB5 hBz5 hl5
            obtain ⟨k, LK, hk, rfl, hown, hmap, hnil, hlk, hgl, hbk, hbq, hBq⟩ := hrel
            have HOQ := hide hown
            have HMQ := hide hmap
            have HNQ := hide hnil
            have HGQ := hide hgl
            have HBKQ := hide hbk
            have HBQ := hide hbq
            have z0 := hbk.cell 0
            have z1 := hbk.cell 1
            have z2 := hbk.cell 2
            simp only [List.getElem?_toArray, List.getElem?_cons_succ, List.getElem?_cons_zero] at z0 z1 z2
            clear hown hmap hnil hbk
            rename World => wk
            by_cases hk4 : k < 4
            · have hk4i : (k : Int) < 4 := by omega
              have hbit := (hgl.cell k).trans (HCU.out k hk4)
              have HTO := hide (l4to_any X Y c k wk hX0 hX1 hY0 hY1 (by omega) (by rw [hXY]; omega) hk4)
              have htl := toC_lt (w := X) (h := Y) (c := c) hX0 (by omega) (by rw [hXY]; omega) k
              have HBD : Hid (barD D c k = if 0 ≤ toC X Y c k ∧ 0 < C.getD (toC X Y c k).toNat 0 ∧ bitAt y k = false then [⟨12, (c : Int) % X, (c : Int) / X, (c : Int) % X, (c : Int) / X, k, 0, .empty, 0⟩] else []) := by
                obtain ⟨e1, e2, e3, _⟩ := HDF.out
                show _ = _
                unfold barD dAt
                rw [HYD.out, e1, e2, e3]
              obtain ⟨t, ht⟩ : ∃ t, toC X Y c k = t := ⟨_, rfl⟩
              obtain ⟨bt, hbt⟩ : ∃ bt, bitAt y k = bt := ⟨_, rfl⟩
              rw [ht] at HTO htl HBD
              rw [hbt] at hbit HBD
              clear ht hbt hgl
              by_cases p0 : 0 ≤ t
              · have s0 : decide (0 ≤ t) = true := decide_eq_true p0
                obtain ⟨m, rfl⟩ : ∃ m : Nat, t = m := ⟨t.toNat, by omega⟩
                have hmC : m < C.length := by have := HN.out; omega
                have hmc : (m : Int) < (C.length : Int) := by omega
                have fm := HC2.out _ hbq m hmC
                rw [Int.toNat_natCast] at HBD
                obtain ⟨h, hh⟩ : ∃ h, C.getD m 0 = h := ⟨_, rfl⟩
                rw [hh] at fm HBD
                clear hh htl
                by_cases p1 : 0 < h
                · have s1 : decide (0 < h) = true := decide_eq_true p1
                  cases bt with
                  | true =>
                    have HNO : Hid (¬ ((0 : Int) ≤ (m : Int) ∧ 0 < h ∧ true = false)) := fun h => by cases h.2.2
                    have HBN : Hid (barsTo D c (k + 1) = barsTo D c k) := by
                      show barsTo D c k ++ barD D c k = _
                      rw [HBD.out, if_neg HNO.out, List.append_nil]
                    clear p1 p0
                    go_wp2_with (go_at_call 26; refine HTO.out.mono ?_; rintro e w6 ⟨rfl, hw6⟩; subst hw6)
                    go_roundw
                    case rel => exact ⟨k + 1, LK, by omega, by go_num, HOQ.out, by rw [HBN.out]; exact HMQ.out, HNQ.out, by omega, HGQ.out, HBKQ.out, HBQ.out, hBq⟩
                    case measure => simp [intOf]; omega
                  | false =>
                    have HBN : Hid (barsTo D c (k + 1) = barsTo D c k ++ [⟨12, (c : Int) % X, (c : Int) / X, (c : Int) % X, (c : Int) / X, k, 0, .empty, 0⟩]) := by
                      show barsTo D c k ++ barD D c k = _
                      rw [HBD.out, if_pos ⟨p0, p1, rfl⟩]
                    clear p1 p0
                    have HAT' := hide (HAT.out 12 c)
                    have z3 := HBKQ.out.cell 3
                    have z4 := HBKQ.out.cell 4
                    simp only [List.getElem?_toArray, List.getElem?_cons_succ, List.getElem?_cons_zero] at z3 z4
                    go_wp2_with (first
                      | (go_at_call 26; refine HTO.out.mono ?_; rintro e w6 ⟨rfl, hw6⟩; subst hw6)
                      | (go_at_call 36; refine (HAT'.out _ (by omega)).mono ?_; rintro e w2 ⟨rfl, hb2⟩; have HO2 := hide (HOQ.out.kept hb2); have HBK2 := hide (HBKQ.out.below hb2); have HG2 := hide (HGQ.out.below hb2); have HB2 : Hid (Below w.heap.size w w2) := HBQ.out.trans (hb2.mono HBQ.out.size); have hBz2 : B ≤ w2.heap.size := Nat.le_trans hBq hb2.size; clear hb2)
                      | (at_builtin; refine wp_app1Dc rfl _ _ rfl B _ _ rfl (HO2.out.kept ((Below.refl _ _).alloc (Nat.le_refl _) _)) ⟨12, (c : Int) % X, (c : Int) / X, (c : Int) % X, (c : Int) / X, k, 0, .empty, 0⟩ (.slice none 0 0) _ rfl (World.size_alloc _ _) rfl (by omega) (by rw [World.size_alloc]; omega) ?_; intro v' w4 l4 hl4 hown4 hb4 hk4' _; have HL := hl4; have HO4 := hide hown4; have hb4' : Below B w2 w4 := ((Below.refl _ w2).alloc hBz2 _).trans hb4; have HB4 : Hid (Below w.heap.size w w4) := HB2.out.trans (hb4'.mono (by have := HWB.out; omega)); have HBK4 : Hid (Blk w4 w.heap.size 30 #[.int .i64 X, .int .i64 Y, .slice (some ⟨b2, o2, none⟩) C.length c2, .slice (some ⟨b3, o3, none⟩) E.length c3, .slice a4 T.length c4]) := (hb4'.block _ HWB.out).trans HBK2.out; have HG4 : Hid (Blk w4 gl 4 cur) := hk4'.out gl 4 cur (by decide) (HG2.out.alloc _); have hBz4 : B ≤ w4.heap.size := Nat.le_trans hBz2 hb4'.size; clear hl4 hown4 hb4 hk4' hb4'))
                    go_roundw
                    case rel =>
                      refine ⟨k + 1, l4, by omega, by go_num, HO4.out, ?_, ?_, ?_, HG4.out, HBK4.out, HB4.out, hBz4⟩
                      · rw [HL.out, List.map_append, HMQ.out, HBN.out]
                        simp only [List.map_cons, List.map_nil, List.append_assoc]
                      · intro p hp
                        rw [HL.out] at hp
                        rcases List.mem_append.1 hp with h | h
                        · exact HNQ.out p h
                        · rw [List.mem_singleton.1 h]
                      · rw [HL.out, List.length_append]; simp only [List.length_cons, List.length_nil]; omega
                    case measure => simp [intOf]; omega
                · have s1 : decide (0 < h) = false := decide_eq_false p1
                  have HNO : Hid (¬ ((0 : Int) ≤ (m : Int) ∧ 0 < h ∧ bt = false)) := fun h => p1 h.2.1
                  have HBN : Hid (barsTo D c (k + 1) = barsTo D c k) := by
                    show barsTo D c k ++ barD D c k = _
                    rw [HBD.out, if_neg HNO.out, List.append_nil]
                  clear p1 p0
                  go_wp2_with (go_at_call 26; refine HTO.out.mono ?_; rintro e w6 ⟨rfl, hw6⟩; subst hw6)
                  go_roundw
                  case rel => exact ⟨k + 1, LK, by omega, by go_num, HOQ.out, by rw [HBN.out]; exact HMQ.out, HNQ.out, by omega, HGQ.out, HBKQ.out, HBQ.out, hBq⟩
                  case measure => simp [intOf]; omega
              · have s0 : decide (0 ≤ t) = false := decide_eq_false p0
                have HNO : Hid (¬ (0 ≤ t ∧ 0 < C.getD t.toNat 0 ∧ bt = false)) := fun h => p0 h.1
                have HBN : Hid (barsTo D c (k + 1) = barsTo D c k) := by
                  show barsTo D c k ++ barD D c k = _
                  rw [HBD.out, if_neg HNO.out, List.append_nil]
                clear p0
                go_wp2_with (go_at_call 26; refine HTO.out.mono ?_; rintro e w6 ⟨rfl, hw6⟩; subst hw6)
                go_roundw
                case rel => exact ⟨k + 1, LK, by omega, by go_num, HOQ.out, by rw [HBN.out]; exact HMQ.out, HNQ.out, by omega, HGQ.out, HBKQ.out, HBQ.out, hBq⟩
                case measure => simp [intOf]; omega
            · have hk4i : ¬ (k : Int) < 4 := by omega
              obtain rfl : k = 4 := by omega
              have HMC : Hid (LK.map (·.1) = cellsTo D (c + 1)) := by
                show _ = cellsTo D c ++ cellD D c
                rw [HMQ.out, HCD.out, List.append_assoc]
              clear hgl
              go_wp2
              go_roundw
              case rel => exact ⟨c + 1, LK, by omega, by go_num, HOQ.out, HMC.out, HNQ.out, HBKQ.out, HBQ.out, hBq⟩
              case measure => simp [intOf]; omega
    · have hge : ¬ (c : Int) < (n : Int) := by omega
      obtain rfl : c = n := by omega
      have HM0 : Hid (LV.map (·.1) = tgsTo D 0) := by
        show _ = cellsTo D D.cost.length
        rw [HMP.out, HDF.out.2.2.1, HN.out]
      have HT30 : Hid (T.length ≤ 30 ∧ ∀ i, i < T.length → TgOk (X * Y) (T.getD i .zero)) := by
        have h1 := HOK.out.tg
        rw [← HD.out] at h1
        exact ⟨h1.len, h1.each⟩
      have ht30 := HT30.out.1
      have HLT := hide (fun i => tgsTo_le D i)
      have HEM := hide (cellsTo_name D c)
      go_wp2
      go_loopw [3, 10] (fun out ix wr => ∃ (i : Nat) (LK : List (Dc × Value)), i ≤ T.length ∧ ix = .int .i64 i ∧ DcOw wr B out LK ∧ LK.map (·.1) = tgsTo D i ∧ (∀ p ∈ LK, NmOk wr p.2 p.1.name) ∧ Blk wr w.heap.size 30 #[.int .i64 X, .int .i64 Y, .slice a2 C.length c2, .slice a3 E.length c3, .slice a4 T.length c4] ∧ Below w.heap.size w wr ∧ B ≤ wr.heap.size) (fun _ ix _ => T.length - (intOf ix).toNat)
      case atStart => exact ⟨0, LV, Nat.zero_le _, rfl, HO.out, HM0.out, fun p hp => by
          have he : p.1.name = .empty := HEM.out p.1 (by rw [← HMP.out]; exact List.mem_map.2 ⟨p, hp, rfl⟩)
          exact .inl ⟨HNL.out p hp, he⟩, HBK.out, HB.out, hBz⟩
      case round =>
        clear z0 z1 z2 z3 z4 HO HMP HNL HBK HB hbl2 hBz HM0 hge
        obtain ⟨i, LK, hi, rfl, hown, hmap, hnam, hbk, hbq, hBq⟩ := hrel
        have HOQ := hide hown
        have HMQ := hide hmap
        have HNQ := hide hnam
        have HBKQ := hide hbk
        have HBQ := hide hbq
        have z0 := hbk.cell 0
        have z1 := hbk.cell 1
        have z2 := hbk.cell 2
        have z3 := hbk.cell 3
        have z4 := hbk.cell 4
        simp only [List.getElem?_toArray, List.getElem?_cons_succ, List.getElem?_cons_zero] at z0 z1 z2 z3 z4
        clear hown hmap hnam hbk
        rename World => wk
        by_cases hlt : i < T.length
        · have hlti : (i : Int) < (T.length : Int) := by omega
          obtain rfl := ha4 (by omega)
          obtain ⟨v0, hnc, hnv⟩ := HC4.out _ hbq i hlt
          have htk := HT30.out.2 i hlt
          obtain ⟨t, ht⟩ : ∃ t, T.getD i .zero = t := ⟨_, rfl⟩
          rw [ht] at hnc hnv htk
          have HTD := hide ht
          obtain ⟨g0, g1, g2⟩ := hnc
          obtain ⟨nb, no, nc, hv0, hnm⟩ : ∃ nb no nc, v0 = .slice (some ⟨nb, no, none⟩) t.name.size nc ∧ ∀ j, j < t.name.size → wk.cell? ⟨nb, no + j, none⟩ = some (bts t.name j) := by
            obtain ⟨a, b, o, c, h1, h2, h3⟩ := hnv.name
            have := h2 (by have := htk.s0; omega)
            subst this
            exact ⟨b, o, c, h1, h3⟩
          subst hv0
          obtain ⟨m, hm⟩ : ∃ m : Nat, t.cell = m := ⟨t.cell.toNat, by have := htk.c0; omega⟩
          have hmb : m ≤ 100000 := by have := htk.c1; rw [hm, hXY] at this; omega
          rw [hm] at g2
          have HCM := hide hm
          have hkd0 := htk.k0
          have hkd1 := htk.k1
          have HAT' := hide (fun kd w2 => HAT.out kd m w2 hmb)
          have hne1 := World.new_ne wk _ z0
          have hne2 := World.new_ne wk _ g1
          simp only at hne1 hne2
          have hwr14 : IntKind.i64.wrap (14 + t.kind) = 14 + t.kind := by rw [IntKind.wrap_i64]; omega
          have hmx : Tryd.prog.follows .mixedOrders = true := by kernel_rfl
          clear ht hnv
          go_wp2_with fail
          go_region_held3 (fun w' => w'.cell? ⟨w.heap.size, 0, none⟩ = some (.int .i64 X) ∧ w'.cell? ⟨w.heap.size, 1, none⟩ = some (.int .i64 Y) ∧ w'.cell? ⟨w.heap.size, 2, none⟩ = some (.slice a2 C.length c2) ∧ w'.cell? ⟨w.heap.size, 3, none⟩ = some (.slice a3 E.length c3) ∧ w'.cell? ⟨w.heap.size, 4, none⟩ = some (.slice (some ⟨b4, o4, none⟩) T.length c4) ∧ w'.cell? ⟨b4, o4 + i * 3 + 1, none⟩ = some (.int .i64 t.kind) ∧ w'.cell? ⟨b4, o4 + i * 3 + 2, none⟩ = some (.int .i64 (m : Nat))) (go_keep) (first
            | (go_at_call 36; refine (HAT'.out _ wk.drew).mono ?_; rintro e w2 ⟨rfl, hb2⟩; have hb2' : Below wk.heap.size wk w2 := (Below.refl _ _).drew.trans hb2; have HB2 := hide hb2'; have hne3 : w2.heap.size ≠ w.heap.size := (by have h1 := hb2'.size; have h2 := World.block_lt_of_cell? _ _ z0; have h3 : w.heap.size < wk.heap.size := h2; omega); have hne4 : w2.heap.size ≠ b4 := (by have h1 := hb2'.size; have h2 := World.block_lt_of_cell? _ _ g1; have h3 : b4 < wk.heap.size := h2; omega); have q0 := cell_kept z0 hb2'; have q1 := cell_kept z1 hb2'; have q2 := cell_kept z2 hb2'; have q3 := cell_kept z3 hb2'; have q4 := cell_kept z4 hb2'; have q5 := cell_kept g1 hb2'; have q6 := cell_kept g2 hb2'; clear hb2 hb2')
            | (go_at_call 36; refine (HAT'.out _ (wk.alloc (.cells #[.int .i64 0, .int .i64 0, .int .i64 0, .int .i64 0, .int .i64 0, .int .i64 0, .int .i64 0, .slice none 0 0, .int .i64 0] 59)).drew).mono ?_; rintro e w2 ⟨rfl, hb2⟩; have hbx : Blk w2 wk.heap.size 59 #[.int .i64 0, .int .i64 0, .int .i64 0, .int .i64 0, .int .i64 0, .int .i64 0, .int .i64 0, .slice none 0 0, .int .i64 0] := Blk.below (w := (wk.alloc (.cells #[.int .i64 0, .int .i64 0, .int .i64 0, .int .i64 0, .int .i64 0, .int .i64 0, .int .i64 0, .slice none 0 0, .int .i64 0] 59)).drew) (Blk.new wk _ _) hb2; have r0 := hbx.cell 0; have s0 := hbx.frozen 0; have r1 := hbx.cell 1; have s1 := hbx.frozen 1; have r2 := hbx.cell 2; have s2 := hbx.frozen 2; have r3 := hbx.cell 3; have s3 := hbx.frozen 3; have r4 := hbx.cell 4; have s4 := hbx.frozen 4; have r5 := hbx.cell 5; have s5 := hbx.frozen 5; have r6 := hbx.cell 6; have s6 := hbx.frozen 6; have r7 := hbx.cell 7; have s7 := hbx.frozen 7; have r8 := hbx.cell 8; have s8 := hbx.frozen 8; simp only [List.getElem?_toArray, List.getElem?_cons_succ, List.getElem?_cons_zero] at r0 r1 r2 r3 r4 r5 r6 r7 r8; have HBX := hide hbx; have hb2' : Below wk.heap.size wk w2 := (((Below.refl _ _).alloc (Nat.le_refl _) _).drew).trans (hb2.mono (by show wk.heap.size ≤ (wk.alloc _).heap.size; rw [World.size_alloc]; omega)); have HB2 := hide hb2'; have q0 := cell_kept z0 hb2'; have q1 := cell_kept z1 hb2'; have q2 := cell_kept z2 hb2'; have q3 := cell_kept z3 hb2'; have q4 := cell_kept z4 hb2'; have q5 := cell_kept g1 hb2'; have q6 := cell_kept g2 hb2'; clear hb2 hb2' hbx))
          all_goals first
            | (have _h := hne3; obtain ⟨W3, hW3⟩ : ∃ W, w2.alloc (.cells #[.int .i64 (14 + t.kind), .int .i64 ((m : Int) % X), .int .i64 ((m : Int) / X), .int .i64 ((m : Int) % X), .int .i64 ((m : Int) / X), .int .i64 0, .int .i64 0, .slice none 0 0, .int .i64 0] 59) = W := ⟨_, rfl⟩; have HX3 : Hid (Blk W3 w2.heap.size 59 #[.int .i64 (14 + t.kind), .int .i64 ((m : Int) % X), .int .i64 ((m : Int) / X), .int .i64 ((m : Int) % X), .int .i64 ((m : Int) / X), .int .i64 0, .int .i64 0, .slice none 0 0, .int .i64 0]) := (by rw [← hW3]; exact Blk.new _ _ _); have HB3 : Hid (Below wk.heap.size wk W3) := (by rw [← hW3]; exact HB2.out.alloc HB2.out.size _); rw [hW3]; obtain ⟨Bd, hBd⟩ : ∃ B, w2.heap.size = B := ⟨_, rfl⟩; have HBd : Hid (wk.heap.size ≤ Bd) := (by rw [← hBd]; exact HB2.out.size); rw [hBd] at HX3 ⊢; clear _h hW3 hBd HB2 hne3 hne4 q0 q1 q2 q3 q4 q5 q6)
            | (have _h := HBX.out; obtain ⟨W3, hW3⟩ : ∃ W, (((((((((w2.setCell ⟨wk.heap.size, 0, none⟩ (.int .i64 (14 + t.kind))).setCell ⟨wk.heap.size, 1, none⟩ (.int .i64 ((m : Int) % X))).setCell ⟨wk.heap.size, 2, none⟩ (.int .i64 ((m : Int) / X))).setCell ⟨wk.heap.size, 3, none⟩ (.int .i64 ((m : Int) % X))).setCell ⟨wk.heap.size, 4, none⟩ (.int .i64 ((m : Int) / X))).setCell ⟨wk.heap.size, 5, none⟩ (.int .i64 0)).setCell ⟨wk.heap.size, 6, none⟩ (.int .i64 0)).setCell ⟨wk.heap.size, 7, none⟩ (.slice none 0 0)).setCell ⟨wk.heap.size, 8, none⟩ (.int .i64 0)) = W := ⟨_, rfl⟩; have HX3 : Hid (Blk W3 wk.heap.size 59 #[.int .i64 (14 + t.kind), .int .i64 ((m : Int) % X), .int .i64 ((m : Int) / X), .int .i64 ((m : Int) % X), .int .i64 ((m : Int) / X), .int .i64 0, .int .i64 0, .slice none 0 0, .int .i64 0]) := (by rw [← hW3]; have h := (((((((((HBX.out.set 0 (.int .i64 (14 + t.kind))).set 1 (.int .i64 ((m : Int) % X))).set 2 (.int .i64 ((m : Int) / X))).set 3 (.int .i64 ((m : Int) % X))).set 4 (.int .i64 ((m : Int) / X))).set 5 (.int .i64 0)).set 6 (.int .i64 0)).set 7 (.slice none 0 0)).set 8 (.int .i64 0)); simp only [List.setIfInBounds_toArray, List.set_cons_zero, List.set_cons_succ] at h; exact h); have HB3 : Hid (Below wk.heap.size wk W3) := (by rw [← hW3]; exact (((((((((HB2.out.setCell (p := ⟨wk.heap.size, 0, none⟩) (Nat.le_refl _) (.int .i64 (14 + t.kind))).setCell (p := ⟨wk.heap.size, 1, none⟩) (Nat.le_refl _) (.int .i64 ((m : Int) % X))).setCell (p := ⟨wk.heap.size, 2, none⟩) (Nat.le_refl _) (.int .i64 ((m : Int) / X))).setCell (p := ⟨wk.heap.size, 3, none⟩) (Nat.le_refl _) (.int .i64 ((m : Int) % X))).setCell (p := ⟨wk.heap.size, 4, none⟩) (Nat.le_refl _) (.int .i64 ((m : Int) / X))).setCell (p := ⟨wk.heap.size, 5, none⟩) (Nat.le_refl _) (.int .i64 0)).setCell (p := ⟨wk.heap.size, 6, none⟩) (Nat.le_refl _) (.int .i64 0)).setCell (p := ⟨wk.heap.size, 7, none⟩) (Nat.le_refl _) (.slice none 0 0)).setCell (p := ⟨wk.heap.size, 8, none⟩) (Nat.le_refl _) (.int .i64 0))); rw [hW3]; obtain ⟨Bd, hBd⟩ : ∃ B, wk.heap.size = B := ⟨_, rfl⟩; have HBd : Hid (wk.heap.size ≤ Bd) := (by rw [← hBd]; exact Nat.le_refl _); rw [hBd] at HX3 ⊢; clear _h hW3 hBd HB2 HBX r0 s0 r1 s1 r2 s2 r3 s3 r4 s4 r5 s5 r6 s6 r7 s7 r8 s8 q0 q1 q2 q3 q4 q5 q6)
          all_goals
            have x7 := HX3.out.cell 7
            have x7f := HX3.out.frozen 7
            simp only [List.getElem?_toArray, List.getElem?_cons_succ, List.getElem?_cons_zero] at x7
            have k4 := cell_kept z4 HB3.out
            have k0 := cell_kept g0 HB3.out
            have HNM3 : Hid (∀ j u, ((List.range t.name.size).map (bts t.name))[j]? = some u → W3.drew.cell? ((⟨nb, no, none⟩ : Addr).add j) = some u) := fun j u hj => by
              have hjl : j < t.name.size := by
                rcases Nat.lt_or_ge j t.name.size with h | h
                · exact h
                · rw [List.getElem?_eq_none (by simp; exact h)] at hj; cases hj
              have e : (⟨nb, no, none⟩ : Addr).add j = ⟨nb, no + j, none⟩ := by unfold Addr.add; split <;> simp_all
              rw [e]
              rw [List.getElem?_map, List.getElem?_range hjl] at hj
              rw [← hj]
              exact cell_kept (hnm j hjl) HB3.out.drew
            obtain ⟨i5, hi5, hz5, hs5, hy5⟩ := info_partsDc Tryd.info5n
            have hnz1 := htk.s0
            have hnz2 := htk.s1
            clear z0 z1 z2 z3 z4 g0 g1 g2 hnm hne1 hne2 hwr14
            go_wp2_with fail
            go_region_law (refine step_append_lies (w := W3.drew) rfl (.tmp 131) (.tmp 137) 39 rfl W3.heap.size 5 i5 (.int .u8 0) 1 1 Tryd.underlying39 hi5 hz5 hs5 hy5 rfl (by decide) (.slice none 0 0) 0 [] rfl (World.ownsRow_nil _ _ _ _) ⟨nb, no, none⟩ t.name.size nc ((List.range t.name.size).map (bts t.name)) rfl (by simp) HNM3.out ?o1 (by omega) (by unfold maxLen; omega) (by omega) (Nat.le_refl _) W3.heap.size rfl ?_; (case o1 => (intro u hu; obtain ⟨j, _, rfl⟩ := List.mem_map.1 hu; rfl)); intro g cap w4 hown4 hgrow4 hat4 hlt4; have hb4 : Below W3.heap.size W3 w4 := (by have h := (⟨hgrow4.os, hgrow4.tape, hgrow4.output, hgrow4.size, fun k hk => hgrow4.block k hk (by simp [Value.ownBlock])⟩ : Below W3.heap.size W3.drew w4); exact (Below.refl _ _).drew.trans h); have HN4 := hide (nmOk_new hown4); have HB4 := hide hb4; have y7 := cell_kept x7 hb4; have y7f := (HX3.out.below hb4).frozen 7; have HX4 := hide (HX3.out.below hb4); clear hown4 hgrow4 hat4 hlt4 hb4)
            all_goals
              obtain ⟨W5, hW5⟩ : ∃ W, w4.setCell ⟨Bd, 7, none⟩ (.slice (some ⟨g, 0, none⟩) t.name.size cap) = W := ⟨_, rfl⟩
              have HX5 : Hid (Blk W5 Bd 59 #[.int .i64 (14 + t.kind), .int .i64 ((m : Int) % X), .int .i64 ((m : Int) / X), .int .i64 ((m : Int) % X), .int .i64 ((m : Int) / X), .int .i64 0, .int .i64 0, .slice (some ⟨g, 0, none⟩) t.name.size cap, .int .i64 0]) := by
                rw [← hW5]
                have h := HX4.out.set 7 (.slice (some ⟨g, 0, none⟩) t.name.size cap)
                simp only [List.setIfInBounds_toArray, List.set_cons_zero, List.set_cons_succ] at h
                exact h
              have HB5 : Hid (Below wk.heap.size wk W5) := by rw [← hW5]; exact (HB3.out.trans (HB4.out.mono HB3.out.size)).setCell (p := ⟨Bd, 7, none⟩) HBd.out _
              have HN5 : Hid (NmOk W5 (.slice (some ⟨g, 0, none⟩) t.name.size cap) t.name) := by
                rw [← hW5]
                exact HN4.out.keep (fun g' cur hg' => hg'.other _ _ (fun e => by
                  subst e
                  exact absurd (blk_ty hg' HX4.out) (by decide)))
              have HO5 := hide (HOQ.out.kept HB5.out)
              have HNK5 : Hid (∀ p ∈ LK, NmOk W5 p.2 p.1.name) := fun p hp => (HNQ.out p hp).keep (fun g' cur hg' => hg'.below HB5.out)
              have HBK5 := hide (HBKQ.out.below HB5.out)
              have hBz5 : B ≤ W5.heap.size := Nat.le_trans hBq HB5.out.size
              have HW5 : Hid (Below w.heap.size w W5) := HBQ.out.trans (HB5.out.mono HBQ.out.size)
              rw [hW5]
              clear hW5 HX4 HB4 HN4 y7 y7f x7 x7f k4 k0 HX3 HB3 HNM3
              have x0 := HX5.out.cell 0
              have x1 := HX5.out.cell 1
              have x2 := HX5.out.cell 2
              have x3 := HX5.out.cell 3
              have x4 := HX5.out.cell 4
              have x5 := HX5.out.cell 5
              have x6 := HX5.out.cell 6
              have x7 := HX5.out.cell 7
              have x8 := HX5.out.cell 8
              simp only [List.getElem?_toArray, List.getElem?_cons_succ, List.getElem?_cons_zero] at x0 x1 x2 x3 x4 x5 x6 x7 x8
              have HTG : Hid (tgsTo D (i + 1) = tgsTo D i ++ [⟨14 + t.kind, (m : Int) % X, (m : Int) / X, (m : Int) % X, (m : Int) / X, 0, 0, t.name, 0⟩]) := by
                show tgsTo D i ++ [tgD D (D.targets.getD i .zero)] = _
                rw [HDF.out.2.2.2.2, HTD.out]
                unfold tgD dAt
                rw [HDF.out.1, HCM.out]
              have hlk : LK.length ≤ 9000 := by
                have h1 := HLT.out i
                rw [← HMQ.out, List.length_map, HDF.out.2.2.1, HN.out] at h1
                omega
              go_wp2_with (at_builtin; refine wp_app1Dc rfl _ _ rfl B _ _ rfl HO5.out ⟨14 + t.kind, (m : Int) % X, (m : Int) / X, (m : Int) % X, (m : Int) / X, 0, 0, t.name, 0⟩ (.slice (some ⟨g, 0, none⟩) t.name.size cap) _ rfl rfl rfl (by omega) hBz5 ?_; intro v' w6 l6 hl6 hown6 hb6 hk6 _; have HL6 := hl6; have HO6 := hide hown6; have HB6 := hide hb6; have HK6 := hk6; clear hl6 hown6 hb6 hk6)
              go_roundw
              case rel =>
                refine ⟨i + 1, l6, by omega, by go_num, HO6.out, ?_, ?_, ?_, HW5.out.trans (HB6.out.mono (by have := HWB.out; omega)), by have := HB6.out.size; omega⟩
                · rw [HL6.out, List.map_append, HMQ.out, HTG.out]; rfl
                · intro p hp
                  rw [HL6.out] at hp
                  rcases List.mem_append.1 hp with h | h
                  · exact (HNK5.out p h).keep (fun g' cur hg' => HK6.out g' 5 cur (by decide) hg')
                  · rw [List.mem_singleton.1 h]
                    exact HN5.out.keep (fun g' cur hg' => HK6.out g' 5 cur (by decide) hg')
                · exact (HB6.out.block _ HWB.out).trans HBK5.out
              case measure => simp [intOf]; omega
        · have hge : ¬ (i : Int) < (T.length : Int) := by omega
          obtain rfl : i = T.length := by omega
          clear hbq
          go_wp2
          go_ret
          refine ⟨_, rfl, ?_, HBQ.out⟩
          rw [HD.out, HR.out, HDF.out.2.2.2.2, ← HMQ.out]
          exact HOQ.out.rd (fun p hp => (HNQ.out p hp).bs)
end Go.Proofs.YtaapababeecmeaaDoor

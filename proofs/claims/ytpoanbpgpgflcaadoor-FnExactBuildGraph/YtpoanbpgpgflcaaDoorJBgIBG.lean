/-
  The walk of impl.BuildGraph.
-/
import Derived.Test.YtpoanbpgpgflcaaDoorJBgIBM
import Derived.Test.YtpoanbpgpgflcaaDoorJBgIGO
import Derived.Test.YtpoanbpgpgflcaaDoorJBgIL5
import Derived.Test.YtpoanbpgpgflcaaDoorJBgIL5
import Derived.BigRegion
namespace Go.Proofs.YtpoanbpgpgflcaaDoor
open Go.RowKit Go.Shelf

attribute [local go_sem] Oper.semAt_some

set_option maxHeartbeats 4000000 in
set_option maxRecDepth 1000000 in
theorem implBuild_any (d : Ly) (v2 v3 v4 : Value) (w : World) (hb : LyB d) (hd : LyL d) (hmv : MvOk w) (hT : Lib.Utf8Tabs 2 3 w) (h : LyV w d v2 v3 v4) :
    Calls Tryd.prog 7 #[lyagg d v2 v3 v4] w fun e w' => ∃ p1 p2 p3 p4 bl, e = .returned (.tuple #[gragg (bgF d) p1 p2 p3 p4, .int .i64 (bgC d)]) ∧ GrF w' (bgF d) p1 p2 p3 p4 bl ∧ Fr w w' bl ∧ Below w.heap.size w w' := by
  have HVL := hide (fun w2 (hb2 : Below w.heap.size w w2) => implLayout_any d v2 v3 v4 w2 hb hd (hmv.below hb2) (Utf8Tabs_below hT hb2) (h.below hb2))
  obtain ⟨a2, b2, o2, c2, rfl, ha2, hc2⟩ := h.cost
  obtain ⟨a3, b3, o3, c3, rfl, ha3, hc3⟩ := h.exits
  obtain ⟨a4, c4, rfl⟩ := h.targets.slice
  have HC2 : Hid (∀ w2, Below w.heap.size w w2 → ∀ j, j < d.cost.length → w2.cell? ⟨b2, o2 + j, none⟩ = some (.int .i64 (d.cost.getD j 0))) := fun w2 hb2 j hj => cell_kept (hc2 j hj) hb2
  have HC3 : Hid (∀ w2, Below w.heap.size w w2 → ∀ j, j < d.exits.length → w2.cell? ⟨b3, o3 + j, none⟩ = some (.int .i64 (d.exits.getD j 0))) := fun w2 hb2 j hj => cell_kept (hc3 j hj) hb2
  obtain ⟨W0, hW0⟩ : ∃ W, w.alloc (.cells #[.int .i64 d.w, .int .i64 d.h, .slice a2 d.cost.length c2, .slice a3 d.exits.length c3, .slice a4 d.targets.length c4] 33) = W := ⟨_, rfl⟩
  have HB0 : Hid (Below w.heap.size w W0) := by rw [← hW0]; exact (Below.refl _ _).alloc (Nat.le_refl _) _
  have HA0 : Hid (Blk W0 w.heap.size 33 #[.int .i64 d.w, .int .i64 d.h, .slice a2 d.cost.length c2, .slice a3 d.exits.length c3, .slice a4 d.targets.length c4]) := by rw [← hW0]; exact Blk.new _ _ _
  have HW := hide hW0
  unfold lyagg at HVL ⊢
  clear hW0 h hc2 hc3 hb
  have HMV := hide (fun w2 (hb2 : Below w.heap.size w w2) => hmv.below hb2)
  clear hd hmv hT
  obtain ⟨R, hR⟩ : ∃ R, W0.heap.size = R := ⟨_, rfl⟩
  have hR1 : w.heap.size + 1 = R := by rw [← hR, ← HW.out, World.size_alloc]
  have HR1 := hide hR1
  obtain ⟨W1, hW1⟩ : ∃ W, W0.alloc (.cells #[.int .i64 0, .slice none 0 0, .slice none 0 0, .slice none 0 0, .slice none 0 0] 28) = W := ⟨_, rfl⟩
  have hb1 : Below W0.heap.size W0 W1 := by rw [← hW1]; exact (Below.refl _ _).alloc (Nat.le_refl _) _
  have HB1 : Hid (Below w.heap.size w W1) := HB0.out.trans (hb1.mono HB0.out.size)
  have HA1 := hide (HA0.out.below hb1)
  have HZ1 : Hid (Blk W1 R 28 #[.int .i64 0, .slice none 0 0, .slice none 0 0, .slice none 0 0, .slice none 0 0]) := by rw [← hW1, ← hR]; exact Blk.new _ _ _
  have HW1 := hide hW1
  clear hR hW1 hb1 hR1 HA0
  refine (callsIn_wide (n := 3)).1 ?_
  refine callsIn_of_wp_marks Tryd.func7 rfl trivial ?_ rfl
  simp only [Tryd.ntmps7, List.size_toArray, List.length_cons, List.length_nil, Nat.reduceAdd, Nat.reduceSub, Array.replicate_succ, Array.replicate_zero, List.push_toArray, List.append_toArray, List.nil_append, List.cons_append]
  gi_wp2_with fail
  rw [HW.out, HW1.out, HR1.out]
  refine ⟨trivial, (callsIn_wide.2 (HVL.out _ HB1.out)).mono ?_⟩
  rintro e w2 ⟨⟨r1, rfl, hr1⟩, hb2⟩
  have HA2 := hide (HA1.out.below hb2)
  have HZ2 := hide (HZ1.out.below hb2)
  have HB2 : Hid (Below w.heap.size w w2) := HB1.out.trans (hb2.mono HB1.out.size)
  have HR2 := hide hr1
  clear hb2 hr1 HA1 HB1 HZ1 HW HW1 HB0 HVL
  cases r1 with
  | false =>
    have HNO : Hid (¬ LyOk d) := fun h => by have := HR2.out.2 h; cases this
    have x0 := HZ2.out.frozen 0
    have x1 := HZ2.out.frozen 1
    have x2 := HZ2.out.frozen 2
    have x3 := HZ2.out.frozen 3
    have x4 := HZ2.out.frozen 4
    have y0 := HZ2.out.cell 0
    have y1 := HZ2.out.cell 1
    have y2 := HZ2.out.cell 2
    have y3 := HZ2.out.cell 3
    have y4 := HZ2.out.cell 4
    simp only [List.getElem?_toArray, List.getElem?_cons_succ, List.getElem?_cons_zero] at y0 y1 y2 y3 y4
    have HBK : Hid (Blk (set5 w2 R (.int .i64 0) (.slice none 0 0) (.slice none 0 0) (.slice none 0 0) (.slice none 0 0)) R 28 #[.int .i64 0, .slice none 0 0, .slice none 0 0, .slice none 0 0, .slice none 0 0]) := ((((HZ2.out.set 0 _).set 1 _).set 2 _).set 3 _).set 4 _
    have HFB : Hid (Below w.heap.size w (set5 w2 R (.int .i64 0) (.slice none 0 0) (.slice none 0 0) (.slice none 0 0) (.slice none 0 0))) := below_set5 HB2.out (by have := HR1.out; omega) _ _ _ _ _
    gi_wp2
    refine ⟨_, results_gr_tmp rfl _ _ _ R 28 #[.int .i64 0, .slice none 0 0, .slice none 0 0, .slice none 0 0, .slice none 0 0] (0, 0) rfl HBK.out Tryd.underlying28 (by kernel_rfl), ?_⟩
    rw [bgF_no HNO.out, bgC_no HNO.out]
    have hg : ∃ bl, GrF (set5 w2 R (.int .i64 0) (.slice none 0 0) (.slice none 0 0) (.slice none 0 0) (.slice none 0 0)) ⟨0, [], [], [], []⟩ (.slice none 0 0) (.slice none 0 0) (.slice none 0 0) (.slice none 0 0) bl ∧ Fr w (set5 w2 R (.int .i64 0) (.slice none 0 0) (.slice none 0 0) (.slice none 0 0) (.slice none 0 0)) bl := ⟨[], ⟨[], [], [], [], rfl, if_nil _ _, if_nil _ _, if_nil _ _, if_nil _ _⟩, Fr.nil _ _⟩
    obtain ⟨bl, h1, h2⟩ := hg
    first | exact ⟨_, _, _, _, bl, rfl, h1, h2, HFB.out⟩ | exact ⟨_, _, _, _, rfl, bl, h1, h2, HFB.out⟩ | exact ⟨_, _, _, _, rfl, ⟨bl, h1, h2⟩, HFB.out⟩
  | true =>
    have HOK := hide (HR2.out.1 rfl)
    clear HR2
    obtain ⟨n, hn⟩ : ∃ n : Nat, d.exits.length = n := ⟨_, rfl⟩
    have hXY : d.w * d.h = (n : Int) := by have := HOK.out.el; omega
    have hnb : n ≤ 1600 := by rw [← hn]; exact HOK.out.el16
    have HN := hide hn
    have HCN : Hid (d.cost.length = n) := by have := HOK.out.cl; show _ = _; omega
    have hX0 := HOK.out.w0
    have hX1 := HOK.out.w1
    have hY0 := HOK.out.h0
    have hY1 := HOK.out.h1
    clear hn
    have hbE : Below w2.heap.size w2 (w2.alloc (.cells #[.slice none 0 0] 52)) := (Below.refl _ _).alloc (Nat.le_refl _) _
    have hA3 := HA2.out.below hbE
    have z0 := hA3.cell 0
    have z1 := hA3.cell 1
    have z2 := hA3.cell 2
    have z3 := hA3.cell 3
    have z4 := hA3.cell 4
    simp only [List.getElem?_toArray, List.getElem?_cons_succ, List.getElem?_cons_zero] at z0 z1 z2 z3 z4
    have HI0 : Hid (Blk (w2.alloc (.cells #[.slice none 0 0] 52)) w.heap.size 33 #[.int .i64 d.w, .int .i64 d.h, .slice a2 d.cost.length c2, .slice a3 d.exits.length c3, .slice a4 d.targets.length c4] ∧ Blk (w2.alloc (.cells #[.slice none 0 0] 52)) (w.heap.size + 1) 28 #[.int .i64 0, .slice none 0 0, .slice none 0 0, .slice none 0 0, .slice none 0 0] ∧ Boxed (w2.alloc (.cells #[.slice none 0 0] 52)) w2.heap.size 52 (.slice none 0 0) ∧ Below w.heap.size w (w2.alloc (.cells #[.slice none 0 0] 52))) := ⟨hA3, by rw [HR1.out]; exact HZ2.out.below hbE, Boxed.new _ _ _, HB2.out.trans (hbE.mono HB2.out.size)⟩
    obtain ⟨EB, hEB⟩ : ∃ E, w2.heap.size = E := ⟨_, rfl⟩
    have HER : Hid (w.heap.size + 1 < EB) := by show _ < _; rw [← hEB, HR1.out]; exact HZ2.out.lt
    have HEB := hide hEB
    clear hA3 hbE hEB
    gi_wp2
    obtain ⟨W3, hW3⟩ : ∃ W, w2.alloc (.cells #[.slice none 0 0] 52) = W := ⟨_, rfl⟩
    rw [hW3, HEB.out] at HI0
    rw [hW3, HEB.out]
    clear hW3 z0 z1 z2 z3 z4 HA2 HZ2 HB2 HEB
    refine wpIn_loop (fun a W => ∃ (c : Nat) (ds : List Nat) (u5 u6 u18 u19 u20 u21 u22 u23 u47 : Value), c ≤ n ∧ a = { tmps := #[.agg #[.int .i64 d.w, .int .i64 d.h, .slice a2 d.cost.length c2, .slice a3 d.exits.length c3, .slice a4 d.targets.length c4], .pointer (some ⟨w.heap.size, 0, none⟩), .pointer (some ⟨R, 0, none⟩), .int .i64 0, .pointer (some ⟨EB, 0, none⟩), u5, u6, undef, undef, undef, .agg #[.int .i64 d.w, .int .i64 d.h, .slice a2 d.cost.length c2, .slice a3 d.exits.length c3, .slice a4 d.targets.length c4], .bool true, .bool false, undef, .pointer (some ⟨w.heap.size, 3, none⟩), .slice a3 d.exits.length c3, .int .i64 (d.exits.length : Nat), .int .i64 (c : Nat), u18, u19, u20, u21, u22, u23, undef, undef, undef, undef, undef, undef, undef, undef, undef, undef, undef, undef, undef, undef, undef, undef, undef, undef, undef, undef, undef, undef, undef, u47, undef, undef, undef, undef, undef], defers := mks ds } ∧ BgO d (.slice a2 d.cost.length c2) (.slice a3 d.exits.length c3) (.slice a4 d.targets.length c4) c w EB ds W) (fun a _ => n - (intOf (a.tmps.getD 17 undef)).toNat) ?start ?round
    case start => exact ⟨0, [], undef, undef, undef, undef, undef, undef, undef, undef, undef, Nat.zero_le _, rfl, ⟨_, HI0.out.1, HI0.out.2.1, HI0.out.2.2.1, World.ownsRow_nil _ _ _ _⟩, HI0.out.2.2.2, Mks.nil _, fun D h => by cases h⟩
    case round =>
      clear HI0
      rintro a Z ⟨c, ds, u5, u6, u18, u19, u20, u21, u22, u23, u47, hc, rfl, hinv⟩
      obtain ⟨⟨v, hL, hG, hE, hO⟩, hB, hM, hMB⟩ := hinv
      have HL := hide hL
      have HG := hide hG
      have HE := hide hE
      have HO := hide hO
      have HB := hide hB
      have HM := hide hM
      have HMB := hide hMB
      have hEL : d.exits.length ≤ 1600 := by rw [HN.out]; exact hnb
      by_cases hlt : c < n
      · have hcE : c < d.exits.length := by rw [HN.out]; exact hlt
        have hci : (c : Int) < (d.exits.length : Int) := by omega
        obtain rfl := ha3 (by omega)
        have f3 := HC3.out _ hB c hcE
        have HCL := hide (HOK.out.cells c (by rw [HCN.out]; exact hlt))
        have HBB := hide (bits_ex HCL.out.e0 HCL.out.e1)
        obtain ⟨ex, hex⟩ : ∃ x, d.exits.getD c 0 = x := ⟨_, rfl⟩
        rw [hex] at f3 HBB
        have HEX := hide hex
        clear hex hL hG hE hO hB hM hMB
        gi_wp2_with fail
        refine ⟨trivial, (waysIn_in 2 ex _).mono ?_⟩
        rintro e w5 ⟨rfl, rfl⟩
        rw [World.size_alloc]
        obtain ⟨CB, hCB⟩ : ∃ n, Z.heap.size = n := ⟨_, rfl⟩
        obtain ⟨WL, hWL⟩ : ∃ W, (Z.alloc (.cells #[.int .i64 (c : Nat)] 3)).alloc (.cells #[.int .i64 ex] 3) = W := ⟨_, rfl⟩
        have hbZ : Below Z.heap.size Z WL := by rw [← hWL]; exact ((Below.refl _ _).alloc (Nat.le_refl _) _).alloc (by rw [World.size_alloc]; omega) _
        have hsz : WL.heap.size = CB + 1 + 1 := by rw [← hWL, World.size_alloc, World.size_alloc, hCB]
        have hEZ : EB < CB := by rw [← hCB]; exact HE.out.lt
        have HPR : Hid (BgR (P := bitAt ex) d (.slice a2 d.cost.length c2) (.slice (some ⟨b3, o3, none⟩) d.exits.length c3) (.slice a4 d.targets.length c4) c w EB CB (CB + 1) ex (bgS d c) ds [] WL) := by
          refine ⟨⟨v, HL.out.below hbZ, HG.out.below hbZ, ?_, HE.out.kept (below_grown hbZ) (by simp), ?_, ?_⟩, HB.out.trans (hbZ.mono HB.out.size), HM.out.below hbZ⟩
          · rw [← hWL, ← hCB]; exact (Boxed.new _ _ _).alloc _
          · have := Boxed.new (Z.alloc (.cells #[.int .i64 (c : Nat)] 3)) 3 (.int .i64 ex)
            rw [World.size_alloc, hCB] at this
            rw [← hWL]; exact this
          · have := EiOw.kept HO.out hbZ
            rw [List.map_nil]
            unfold bgW
            rw [List.map_nil, List.append_nil]; exact this
        have HBN : Hid (WL.cell? ⟨CB + 1, 0, none⟩ = some (.int .i64 ex)) := by
          obtain ⟨⟨v, h1, h2, h3, h4, h5, _⟩, _⟩ := HPR.out
          exact h5.cell
        have HBL := hide HPR.out.2.1
        rw [hWL, hCB]
        have hMlt : ∀ D ∈ ds, D < WL.heap.size := fun D hD => by have h1 := HM.out.lt D hD; have h2 := hbZ.size; omega
        have HMLT := hide hMlt
        clear hWL hCB hbZ hMlt
        gi_wp2_with fail
        have hTW : w.heap.size ≤ WL.heap.size := HBL.out.size
        have hTW2 : CB + 1 < WL.heap.size := by omega
        obtain ⟨hP0, hP1, hP2, hP3⟩ := HBB.out
        refine wpIn_rangeFunc_ownG rfl (by omega) (gf := 38) (lb := #[.pointer (some ⟨CB + 1, 0, none⟩)]) rfl trivial (enters_of Tryd.func38 (by kernel_rfl) rfl)
          (wayv_stops (3 - 1) (by omega) (CB + 1) ex (bitAt ex) hP0 hP1 hP2 hP3 WL w HBN.out HBL.out) kpB_t (kpB_b hTW hTW2) (Below.refl _ _) (fun _ => rfl)
          (BgR (P := bitAt ex) d (.slice a2 d.cost.length c2) (.slice (some ⟨b3, o3, none⟩) d.exits.length c3) (.slice a4 d.targets.length c4) c w EB CB (CB + 1) ex (bgS d c) ds) (fun _ _ _ => False) (bgR_own d _ _ _ c w EB CB (CB + 1) ex _ ds _ hTW HMLT.out) (fun _ _ _ _ _ h _ _ => h) HPR.out
          (fun x => { tmps := #[.agg #[.int .i64 d.w, .int .i64 d.h, .slice a2 d.cost.length c2, .slice (some ⟨b3, o3, none⟩) d.exits.length c3, .slice a4 d.targets.length c4], .pointer (some ⟨w.heap.size, 0, none⟩), .pointer (some ⟨R, 0, none⟩), .int .i64 0, .pointer (some ⟨EB, 0, none⟩), .pointer (some ⟨CB, 0, none⟩), .int .i64 ex, .int .i64 (x.1.1 : Nat), undef, undef, .agg #[.int .i64 d.w, .int .i64 d.h, .slice a2 d.cost.length c2, .slice (some ⟨b3, o3, none⟩) d.exits.length c3, .slice a4 d.targets.length c4], .bool true, .bool false, undef, .pointer (some ⟨w.heap.size, 3, none⟩), .slice (some ⟨b3, o3, none⟩) d.exits.length c3, .int .i64 (d.exits.length : Nat), .int .i64 (c : Nat), .bool true, .int .i64 (c : Nat), .pointer (some ⟨b3, o3 + c, none⟩), .int .i64 ex, .int .i64 ex, .func (.func 38) #[] #[.pointer (some ⟨CB + 1, 0, none⟩)], .int .i64 (x.1.1 : Nat), undef, undef, undef, undef, undef, undef, undef, undef, undef, undef, undef, undef, undef, undef, undef, undef, undef, undef, undef, undef, undef, undef, u47, undef, undef, undef, undef, undef], defers := [] }) ?assign ?body ?done ?stop
        case assign =>
          intro l x W K hK
          dsimp only [encV]
          gi_wp2
          exact hK
        case body =>
          rintro l pre x W ⟨⟨v, hL, hG, hX, hE, hN, hO⟩, hB, hM⟩ hltx
          have HWY := hide (HCL.out.way x.1.1 x.1.2 (by rw [HEX.out]; exact x.2))
          have htl := toC_lt hX0 (by omega : (0 : Int) ≤ (c : Int)) (by rw [hXY]; omega) x.1.1 (h := d.h)
          rw [hXY] at htl
          obtain ⟨t, ht⟩ : ∃ t : Nat, toC d.w d.h c x.1.1 = (t : Int) := ⟨(toC d.w d.h c x.1.1).toNat, by have := HWY.out.1; omega⟩
          have HNB := hide (fun W' (hW' : Below w.heap.size w W') => neighbor_any d.w d.h c x.1.1 W' (HMV.out W' hW') hX0 hX1 hY1 (by omega) (by rw [hXY]; omega) x.1.2)
          rw [(insd_toC hX0 (by omega : (0 : Int) ≤ (c : Int)) (by rw [hXY]; omega) x.1.2).2 HWY.out.1, ht] at HNB
          rw [ht] at htl
          obtain ⟨L, hLL⟩ : ∃ L, bgS d c ++ bgW d c (pre.map fun x => x.1) = L := ⟨_, rfl⟩
          have hLb : L.length ≤ 10000 := by
            have h1 := bgS_le d c
            have h2 : (wyv (bitAt ex) 0).length ≤ 4 := by
              have := congrArg List.length (wyv_map (bitAt ex))
              rw [List.length_map] at this
              have h3 : ∀ q, (wy1 (bitAt ex) q).length ≤ 1 := fun q => by unfold wy1; split <;> simp
              have k0 := h3 0
              have k1 := h3 1
              have k2 := h3 2
              have k3 := h3 3
              rw [this]
              simp only [wyr, List.length_append, List.length_nil]
              omega
            rw [← hLL, List.length_append]
            unfold bgW
            rw [List.length_map, List.length_map]
            omega
          rw [hLL] at hO
          have htC : t < d.cost.length := by rw [HCN.out]; omega
          have htCi : (t : Int) < (d.cost.length : Int) := by omega
          obtain rfl := ha2 (by omega)
          obtain ⟨y, hy⟩ : ∃ y, d.cost.getD t 0 = y := ⟨_, rfl⟩
          have HNX : Hid (L ++ [⟨(c : Int), (t : Int), (x.1.1 : Nat), y⟩] = bgS d c ++ bgW d c ((pre ++ [x]).map fun x => x.1)) := by
            show _ = _
            rw [List.map_append, List.map_cons, List.map_nil, bgW_snoc, ← List.append_assoc, hLL]
            unfold bgE
            rw [ht, Int.toNat_natCast, hy]
          obtain ⟨kw, hkw⟩ : ∃ k : Nat, x.1.1 = k := ⟨_, rfl⟩
          rw [hkw] at HNB HNX ⊢
          obtain ⟨va, vc, rfl⟩ := own_slc hO
          have HR := hide (fun w5 (hb5 : Below W.heap.size W w5) => (⟨hL.below hb5, hG.below hb5, hX.kept (below_grown hb5) (by simp), hE.kept (below_grown hb5) (by simp), hN.kept (below_grown hb5) (by simp), EiOw.kept hO hb5, hB.trans (hb5.mono hB.size), hM.below hb5, KeepsOthers.of_grownBy (below_grown hb5) (fun j o e => by cases e), hb5.mono hB.size⟩ : Blk w5 _ _ _ ∧ Blk w5 _ _ _ ∧ Boxed w5 _ _ _ ∧ Boxed w5 _ _ _ ∧ Boxed w5 _ _ _ ∧ EiOw w5 _ _ _ ∧ Below w.heap.size w w5 ∧ Mks w5 ds ∧ KeepsOthers W w5 ∧ Below w.heap.size W w5))
          have HN5 := hide hN.cell
          have HBW := hide hB
          have z0 := hL.cell 0
          have z1 := hL.cell 1
          simp only [List.getElem?_toArray, List.getElem?_cons_succ, List.getElem?_cons_zero] at z0 z1
          have xc := hX.cell
          have HYY := hide hy
          clear hL hG hX hE hN hO hB hM hltx ht htl hLL hkw hy
          have hmx : Tryd.prog.follows .mixedOrders = true := by kernel_rfl
          gi_wp2_with (first
            | (refine ⟨trivial, ?_⟩; gi_at_call 23; refine (CallsIn.inRound l (callsIn_wide.2 (HNB.out _ HBW.out))).mono ?_; rintro e w5 ⟨rfl, hb5⟩; have HB5 := hide hb5; clear hb5 z0 z1 xc))
          have hWd : Below W.heap.size W w5.drew := HB5.out.drew
          have hWa : Below W.heap.size W (w5.alloc (.cells #[.int .i64 (c : Nat), .int .i64 (t : Nat), .int .i64 (kw : Nat), .int .i64 y] 59)).drew := (HB5.out.alloc HB5.out.size _).drew
          have HSM : Hid (∀ V, Below W.heap.size W V → V.cell? ⟨w.heap.size, 2, none⟩ = some (.slice (some ⟨b2, o2, none⟩) d.cost.length c2) ∧ V.cell? ⟨CB, 0, none⟩ = some (.int .i64 (c : Nat)) ∧ V.cell? ⟨b2, o2 + t, none⟩ = some (.int .i64 y)) := fun V hV => by
            have h1 := (HR.out V hV).1.cell 2
            have h2 := (HR.out V hV).2.2.1.cell
            have h3 := HC2.out V (HR.out V hV).2.2.2.2.2.2.1 t htC
            rw [HYY.out] at h3
            exact ⟨h1, h2, h3⟩
          have hS0 := hide (HSM.out _ hWd)
          have hS1 := hide (HSM.out _ hWa)
          have e5 := (HR.out _ hWd).2.2.2.1.cell
          have e6 := (HR.out _ hWa).2.2.2.1.cell
          have HO1 := hide (HR.out _ hWa).2.2.2.2.2.1
          have HG1 : Hid (w.heap.size ≤ (w5.alloc (.cells #[.int .i64 (c : Nat), .int .i64 (t : Nat), .int .i64 (kw : Nat), .int .i64 y] 59)).drew.heap.size) := (HR.out _ hWa).2.2.2.2.2.2.1.size
          have HNW : Hid (∀ j, j < 4 → (w5.alloc (.cells #[.int .i64 (c : Nat), .int .i64 (t : Nat), .int .i64 (kw : Nat), .int .i64 y] 59)).drew.cell? ⟨w5.heap.size, j, none⟩ = (edc ⟨(c : Int), (t : Int), (kw : Nat), y⟩)[j]?) := fun j hj => ((Blk.new w5 59 #[.int .i64 (c : Nat), .int .i64 (t : Nat), .int .i64 (kw : Nat), .int .i64 y]).cell j).trans (by rw [List.getElem?_toArray]; rfl)
          refine wpIn_region_any hmx (any_in (S := (fun w' => Hid (w'.cell? ⟨w.heap.size, 2, none⟩ = some (.slice (some ⟨b2, o2, none⟩) d.cost.length c2) ∧ w'.cell? ⟨CB, 0, none⟩ = some (.int .i64 (c : Nat)) ∧ w'.cell? ⟨b2, o2 + t, none⟩ = some (.int .i64 y)))) (fun i o h => match i, h with
            | 0, h => by injection h with h; subst h; exact ⟨fun c h => (by cases h), fun _ _ => rfl, fun ρ w => pl_value _ _⟩
            | 1, h => by injection h with h; subst h; exact ⟨fun c h => (by cases h), fun _ _ => rfl, fun ρ w => pl_value _ _⟩
            | 2, h => by injection h with h; subst h; exact ⟨fun c h => (by cases h), fun _ _ => rfl, fun ρ w => trivial⟩
            | 3, h => by injection h with h; subst h; exact ⟨fun c h => (by cases h), fun _ _ => rfl, fun ρ w => trivial⟩
            | 4, h => by injection h with h; subst h; exact ⟨fun c h => (by cases h), fun _ _ => rfl, fun ρ w => pl_value _ _⟩
            | 5, h => by injection h with h; subst h; exact ⟨fun c h => (by cases h), fun _ _ => rfl, fun ρ w => pl_value _ _⟩
            | 6, h => by injection h with h; subst h; exact ⟨fun c h => (by cases h), fun _ _ => rfl, fun ρ w => trivial⟩
            | 7, h => by injection h with h; subst h; exact ⟨fun c h => (by cases h), fun _ _ => rfl, fun ρ w => pl_value _ _⟩
            | 8, h => by injection h with h; subst h; exact ⟨fun c h => (by cases h), fun _ _ => rfl, fun ρ w => pl_value _ _⟩
            | 9, h => by injection h with h; subst h; exact ⟨fun c h => (by cases h), fun _ _ => rfl, fun ρ w => pl_value _ _⟩
            | 10, h => by injection h with h; subst h; exact ⟨fun c h => (by cases h), fun _ _ => rfl, fun ρ w => pl_value _ _⟩
            | 11, h => by injection h with h; subst h; exact pl_append _ rfl
            | 12, h => by injection h with h; subst h; exact ⟨fun c h => (by cases h), fun _ _ => rfl, fun ρ w => pl_unit _ _⟩
            | i + 13, h => by simp at h) (fun ⟨_, _, h⟩ => h) _ _ _ _ ?_)
          change wpAnyH _ _ _ _ _ _ _ _ (World.drew _)
          have hHeld := hS0
          refine wpAnyH_take (i := 1) (oi := { dst := some 36, op := Op.load 3 (Operand.tmp 5), type := 3, pos := "l5_graph.go:82", after := #[], guard := none }) (v := .int .i64 (c : Nat)) rfl (by kernel_rfl) (by kernel_rfl) (by kernel_rfl) (fun _ _ _ h => h) (Or.inl ⟨by rfl, ?_⟩) hHeld ?_
          · intro W hSW
            obtain ⟨q1, q2, q3⟩ := hSW.out
            clear hHeld hSW
            go_simp
          try simp only [Act.put, List.setIfInBounds_toArray, List.set_cons_zero, List.set_cons_succ]
          refine wpAnyH_take (i := 2) (oi := { dst := some 37, op := Op.move (Operand.tmp 8), type := 3, pos := "l5_graph.go:82", after := #[], guard := none }) (v := .int .i64 (t : Nat)) rfl (by kernel_rfl) (by kernel_rfl) (by kernel_rfl) (fun _ _ _ h => h) (Or.inl ⟨by rfl, ?_⟩) hHeld ?_
          · intro W hSW
            clear hHeld hSW
            go_simp
          try simp only [Act.put, List.setIfInBounds_toArray, List.set_cons_zero, List.set_cons_succ]
          refine wpAnyH_take (i := 3) (oi := { dst := some 38, op := Op.move (Operand.tmp 7), type := 3, pos := "l5_graph.go:82", after := #[], guard := none }) (v := .int .i64 (kw : Nat)) rfl (by kernel_rfl) (by kernel_rfl) (by kernel_rfl) (fun _ _ _ h => h) (Or.inl ⟨by rfl, ?_⟩) hHeld ?_
          · intro W hSW
            clear hHeld hSW
            go_simp
          try simp only [Act.put, List.setIfInBounds_toArray, List.set_cons_zero, List.set_cons_succ]
          refine wpAnyH_take (i := 4) (oi := { dst := some 39, op := Op.fieldAddr 33 (Operand.tmp 1) 2, type := 0, pos := "l5_graph.go:82", after := #[], guard := none }) (v := .pointer (some ⟨w.heap.size, 2, none⟩)) rfl (by kernel_rfl) (by kernel_rfl) (by kernel_rfl) (fun _ _ _ h => h) (Or.inl ⟨by rfl, ?_⟩) hHeld ?_
          · intro W hSW
            clear hHeld hSW
            go_simp
          try simp only [Act.put, List.setIfInBounds_toArray, List.set_cons_zero, List.set_cons_succ]
          refine wpAnyH_take (i := 5) (oi := { dst := some 40, op := Op.load 22 (Operand.tmp 39), type := 22, pos := "l5_graph.go:82", after := #[{ on := 4, ground := Ground.data }], guard := none }) (v := .slice (some ⟨b2, o2, none⟩) d.cost.length c2) rfl (by kernel_rfl) (by kernel_rfl) (by kernel_rfl) (fun _ _ _ h => h) (Or.inl ⟨by rfl, ?_⟩) hHeld ?_
          · intro W hSW
            obtain ⟨q1, q2, q3⟩ := hSW.out
            clear hHeld hSW
            go_simp
          try simp only [Act.put, List.setIfInBounds_toArray, List.set_cons_zero, List.set_cons_succ]
          refine wpAnyH_take (i := 6) (oi := { dst := some 41, op := Op.move (Operand.tmp 8), type := 3, pos := "l5_graph.go:82", after := #[], guard := none }) (v := .int .i64 (t : Nat)) rfl (by kernel_rfl) (by kernel_rfl) (by kernel_rfl) (fun _ _ _ h => h) (Or.inl ⟨by rfl, ?_⟩) hHeld ?_
          · intro W hSW
            clear hHeld hSW
            go_simp
          try simp only [Act.put, List.setIfInBounds_toArray, List.set_cons_zero, List.set_cons_succ]
          refine wpAnyH_take (i := 7) (oi := { dst := some 42, op := Op.indexAddr 22 (Operand.tmp 40) (Operand.tmp 41), type := 0, pos := "l5_graph.go:82", after := #[{ on := 5, ground := Ground.data }, { on := 6, ground := Ground.data }], guard := none }) (v := .pointer (some ⟨b2, o2 + t, none⟩)) rfl (by kernel_rfl) (by kernel_rfl) (by kernel_rfl) (fun _ _ _ h => h) (Or.inl ⟨by rfl, ?_⟩) hHeld ?_
          · intro W hSW
            clear hHeld hSW
            go_simp
          try simp only [Act.put, List.setIfInBounds_toArray, List.set_cons_zero, List.set_cons_succ]
          refine wpAnyH_take (i := 8) (oi := { dst := some 43, op := Op.load 3 (Operand.tmp 42), type := 3, pos := "l5_graph.go:82", after := #[{ on := 7, ground := Ground.data }], guard := none }) (v := .int .i64 y) rfl (by kernel_rfl) (by kernel_rfl) (by kernel_rfl) (fun _ _ _ h => h) (Or.inl ⟨by rfl, ?_⟩) hHeld ?_
          · intro W hSW
            obtain ⟨q1, q2, q3⟩ := hSW.out
            clear hHeld hSW
            go_simp
          try simp only [Act.put, List.setIfInBounds_toArray, List.set_cons_zero, List.set_cons_succ]
          refine wpAnyH_take (i := 9) (oi := { dst := some 44, op := Op.build 59 #[(0, Operand.tmp 36), (1, Operand.tmp 37), (2, Operand.tmp 38), (3, Operand.tmp 43)], type := 59, pos := "l5_graph.go:82", after := #[{ on := 1, ground := Ground.data }, { on := 2, ground := Ground.data }, { on := 3, ground := Ground.data }, { on := 8, ground := Ground.data }], guard := none }) (v := .agg #[.int .i64 (c : Nat), .int .i64 (t : Nat), .int .i64 (kw : Nat), .int .i64 y]) rfl (by kernel_rfl) (by kernel_rfl) (by kernel_rfl) (fun _ _ _ h => h) (Or.inl ⟨by rfl, ?_⟩) hHeld ?_
          · intro W hSW
            clear hHeld hSW
            go_simp
          try simp only [Act.put, List.setIfInBounds_toArray, List.set_cons_zero, List.set_cons_succ]
          refine wpAnyH_ready (rs := [0, 10]) (by kernel_rfl) (by simp) ?_
          refine AllReadyH.cons (o := { dst := some 35, op := Op.load 52 (Operand.tmp 4), type := 52, pos := "l5_graph.go:82", after := #[], guard := none }) rfl (fun K hK => ?_) (AllReadyH.cons (o := { dst := some 45, op := Op.buildSlice 52 1 #[(0, Operand.tmp 44)], type := 52, pos := "l5_graph.go:82", after := #[{ on := 9, ground := Ground.data }], guard := none }) rfl (fun K hK => ?_) AllReadyH.nil)
          · go_simp
            refine hK.out _ _ hS0 (fun hHeld => ?_)
            clear hK K
            try simp only [Act.put, List.setIfInBounds_toArray, List.set_cons_zero, List.set_cons_succ]
            refine wpAnyH_ready (rs := [10]) (by kernel_rfl) (by simp) ?_
            refine AllReadyH.cons (o := { dst := some 45, op := Op.buildSlice 52 1 #[(0, Operand.tmp 44)], type := 52, pos := "l5_graph.go:82", after := #[{ on := 9, ground := Ground.data }], guard := none }) rfl (fun K hK => ?_) AllReadyH.nil
            go_simp
            refine hK.out _ _ hS1 (fun hHeld => ?_)
            clear hK K
            try simp only [Act.put, List.setIfInBounds_toArray, List.set_cons_zero, List.set_cons_succ]
            refine wpAnyH_ready (rs := [11]) (by kernel_rfl) (by simp) ?_
            refine AllReadyH.cons (o := { dst := some 46, op := Op.call { callee := Callee.builtin Builtin.append, args := #[Operand.tmp 35, Operand.tmp 45], argTypes := #[52, 52] }, type := 52, pos := "l5_graph.go:82", after := #[{ on := 0, ground := Ground.data }, { on := 10, ground := Ground.data }], guard := none }) rfl (fun K hK => ?_) AllReadyH.nil
            refine step_appEiOw rfl (.tmp 35) (.tmp 45) rfl w.heap.size (.slice va L.length vc) L rfl HO1.out w5.heap.size 1 ⟨(c : Int), (t : Int), (kw : Nat), y⟩ rfl HNW.out (by omega) HG1.out ?_
            intro v8 w8 l8 hl8 ho8 hg8
            obtain ⟨a8, c8, rfl⟩ := own_slc ho8
            have HS7 := hide (bgR_step (HR.out _ hWd).2.2.2.2.2.2.1.size HER.out (by omega) (by omega) (HR.out _ hWd).1 (HR.out _ hWd).2.1 (HR.out _ hWd).2.2.1 (HR.out _ hWd).2.2.2.1 (HR.out _ hWd).2.2.2.2.1 (HR.out _ hWd).2.2.2.2.2.1 ho8 hg8)
            have hMK8 : Mks w8 ds := Mks.grown (HR.out _ hWa).2.2.2.2.2.2.2.1 HO1.out hg8
            have HMK8 := hide hMK8
            have HE8 : Hid (Blk w8 EB 52 #[.slice va L.length vc]) := HS7.out.2.1
            have hS8 : Hid (w8.cell? ⟨w.heap.size, 2, none⟩ = some (.slice (some ⟨b2, o2, none⟩) d.cost.length c2) ∧ w8.cell? ⟨CB, 0, none⟩ = some (.int .i64 (c : Nat)) ∧ w8.cell? ⟨b2, o2 + t, none⟩ = some (.int .i64 y)) := by
              have h1 := (app_typed (HR.out _ hWa).1 (by decide) HO1.out hg8).cell 2
              have h2 := ((HR.out _ hWa).2.2.1.kept hg8 ((HR.out _ hWa).2.2.1.not_row (by decide) HO1.out)).cell
              have h3 := HC2.out w8 (EiOw.below HO1.out (HR.out _ hWa).2.2.2.2.2.2.1 HG1.out hg8) t htC
              rw [HYY.out] at h3
              exact ⟨h1, h2, h3⟩
            have ec7 := HS7.out.2.1.cell
            have ef7 := HS7.out.2.1.frozen
            have hS9 : Hid ((w8.setCell ⟨EB, 0, none⟩ (.slice a8 l8.length c8)).cell? ⟨w.heap.size, 2, none⟩ = some (.slice (some ⟨b2, o2, none⟩) d.cost.length c2) ∧ (w8.setCell ⟨EB, 0, none⟩ (.slice a8 l8.length c8)).cell? ⟨CB, 0, none⟩ = some (.int .i64 (c : Nat)) ∧ (w8.setCell ⟨EB, 0, none⟩ (.slice a8 l8.length c8)).cell? ⟨b2, o2 + t, none⟩ = some (.int .i64 y)) := by
              have h1 := HS7.out.1.1.cell 2
              have h2 := HS7.out.1.2.2.1.cell
              have h3 := HC2.out _ ((HR.out _ hWd).2.2.2.2.2.2.1.trans HS7.out.2.2.2) t htC
              rw [HYY.out] at h3
              exact ⟨h1, h2, h3⟩
            have HL8 := hide hl8.out
            refine hK.out _ _ hS8 (fun hHeld => ?_)
            clear hK K ho8 hg8 hl8 hMK8
            try simp only [Act.put, List.setIfInBounds_toArray, List.set_cons_zero, List.set_cons_succ]
            refine wpAnyH_ready (rs := [12]) (by kernel_rfl) (by simp) ?_
            refine AllReadyH.cons (o := { dst := none, op := Op.store 52 (Operand.tmp 4) (Operand.tmp 46), type := 0, pos := "l5_graph.go:82", after := #[{ on := 11, ground := Ground.data }, { on := 11, ground := Ground.chain }, { on := 0, ground := Ground.phase }, { on := 1, ground := Ground.phase }, { on := 2, ground := Ground.phase }, { on := 3, ground := Ground.phase }, { on := 4, ground := Ground.phase }, { on := 5, ground := Ground.phase }, { on := 6, ground := Ground.phase }, { on := 7, ground := Ground.phase }, { on := 8, ground := Ground.phase }, { on := 9, ground := Ground.phase }, { on := 10, ground := Ground.phase }, { on := 11, ground := Ground.phase }], guard := none }) rfl (fun K hK => ?_) AllReadyH.nil
            go_simp
            refine hK.out _ _ hS9 (fun hHeld => ?_)
            clear hK K
            refine wpAnyH_done (by kernel_rfl) ?_ _
            obtain ⟨⟨q1, q0, q2, q3, q4, q5⟩, _, q6, q7⟩ := HS7.out
            obtain ⟨_, _, _, _, _, _, r1, _, r2, r3⟩ := HR.out _ hWd
            refine ⟨(r2.trans q6).from _, ⟨r3.trans q7, q4.cell.trans HN5.out.symm⟩, ⟨_, q1, q0, q2, q3, q4, ?_⟩, r1.trans q7, HMK8.out.set HE8.out⟩
            rw [← HNX.out, ← HL8.out]
            exact q5
          · go_simp
            refine hK.out _ _ hS1 (fun hHeld => ?_)
            clear hK K
            try simp only [Act.put, List.setIfInBounds_toArray, List.set_cons_zero, List.set_cons_succ]
            refine wpAnyH_ready (rs := [0]) (by kernel_rfl) (by simp) ?_
            refine AllReadyH.cons (o := { dst := some 35, op := Op.load 52 (Operand.tmp 4), type := 52, pos := "l5_graph.go:82", after := #[], guard := none }) rfl (fun K hK => ?_) AllReadyH.nil
            go_simp
            refine hK.out _ _ hS1 (fun hHeld => ?_)
            clear hK K
            try simp only [Act.put, List.setIfInBounds_toArray, List.set_cons_zero, List.set_cons_succ]
            refine wpAnyH_ready (rs := [11]) (by kernel_rfl) (by simp) ?_
            refine AllReadyH.cons (o := { dst := some 46, op := Op.call { callee := Callee.builtin Builtin.append, args := #[Operand.tmp 35, Operand.tmp 45], argTypes := #[52, 52] }, type := 52, pos := "l5_graph.go:82", after := #[{ on := 0, ground := Ground.data }, { on := 10, ground := Ground.data }], guard := none }) rfl (fun K hK => ?_) AllReadyH.nil
            refine step_appEiOw rfl (.tmp 35) (.tmp 45) rfl w.heap.size (.slice va L.length vc) L rfl HO1.out w5.heap.size 1 ⟨(c : Int), (t : Int), (kw : Nat), y⟩ rfl HNW.out (by omega) HG1.out ?_
            intro v8 w8 l8 hl8 ho8 hg8
            obtain ⟨a8, c8, rfl⟩ := own_slc ho8
            have HS7 := hide (bgR_step (HR.out _ hWd).2.2.2.2.2.2.1.size HER.out (by omega) (by omega) (HR.out _ hWd).1 (HR.out _ hWd).2.1 (HR.out _ hWd).2.2.1 (HR.out _ hWd).2.2.2.1 (HR.out _ hWd).2.2.2.2.1 (HR.out _ hWd).2.2.2.2.2.1 ho8 hg8)
            have hMK8 : Mks w8 ds := Mks.grown (HR.out _ hWa).2.2.2.2.2.2.2.1 HO1.out hg8
            have HMK8 := hide hMK8
            have HE8 : Hid (Blk w8 EB 52 #[.slice va L.length vc]) := HS7.out.2.1
            have hS8 : Hid (w8.cell? ⟨w.heap.size, 2, none⟩ = some (.slice (some ⟨b2, o2, none⟩) d.cost.length c2) ∧ w8.cell? ⟨CB, 0, none⟩ = some (.int .i64 (c : Nat)) ∧ w8.cell? ⟨b2, o2 + t, none⟩ = some (.int .i64 y)) := by
              have h1 := (app_typed (HR.out _ hWa).1 (by decide) HO1.out hg8).cell 2
              have h2 := ((HR.out _ hWa).2.2.1.kept hg8 ((HR.out _ hWa).2.2.1.not_row (by decide) HO1.out)).cell
              have h3 := HC2.out w8 (EiOw.below HO1.out (HR.out _ hWa).2.2.2.2.2.2.1 HG1.out hg8) t htC
              rw [HYY.out] at h3
              exact ⟨h1, h2, h3⟩
            have ec7 := HS7.out.2.1.cell
            have ef7 := HS7.out.2.1.frozen
            have hS9 : Hid ((w8.setCell ⟨EB, 0, none⟩ (.slice a8 l8.length c8)).cell? ⟨w.heap.size, 2, none⟩ = some (.slice (some ⟨b2, o2, none⟩) d.cost.length c2) ∧ (w8.setCell ⟨EB, 0, none⟩ (.slice a8 l8.length c8)).cell? ⟨CB, 0, none⟩ = some (.int .i64 (c : Nat)) ∧ (w8.setCell ⟨EB, 0, none⟩ (.slice a8 l8.length c8)).cell? ⟨b2, o2 + t, none⟩ = some (.int .i64 y)) := by
              have h1 := HS7.out.1.1.cell 2
              have h2 := HS7.out.1.2.2.1.cell
              have h3 := HC2.out _ ((HR.out _ hWd).2.2.2.2.2.2.1.trans HS7.out.2.2.2) t htC
              rw [HYY.out] at h3
              exact ⟨h1, h2, h3⟩
            have HL8 := hide hl8.out
            refine hK.out _ _ hS8 (fun hHeld => ?_)
            clear hK K ho8 hg8 hl8 hMK8
            try simp only [Act.put, List.setIfInBounds_toArray, List.set_cons_zero, List.set_cons_succ]
            refine wpAnyH_ready (rs := [12]) (by kernel_rfl) (by simp) ?_
            refine AllReadyH.cons (o := { dst := none, op := Op.store 52 (Operand.tmp 4) (Operand.tmp 46), type := 0, pos := "l5_graph.go:82", after := #[{ on := 11, ground := Ground.data }, { on := 11, ground := Ground.chain }, { on := 0, ground := Ground.phase }, { on := 1, ground := Ground.phase }, { on := 2, ground := Ground.phase }, { on := 3, ground := Ground.phase }, { on := 4, ground := Ground.phase }, { on := 5, ground := Ground.phase }, { on := 6, ground := Ground.phase }, { on := 7, ground := Ground.phase }, { on := 8, ground := Ground.phase }, { on := 9, ground := Ground.phase }, { on := 10, ground := Ground.phase }, { on := 11, ground := Ground.phase }], guard := none }) rfl (fun K hK => ?_) AllReadyH.nil
            go_simp
            refine hK.out _ _ hS9 (fun hHeld => ?_)
            clear hK K
            refine wpAnyH_done (by kernel_rfl) ?_ _
            obtain ⟨⟨q1, q0, q2, q3, q4, q5⟩, _, q6, q7⟩ := HS7.out
            obtain ⟨_, _, _, _, _, _, r1, _, r2, r3⟩ := HR.out _ hWd
            refine ⟨(r2.trans q6).from _, ⟨r3.trans q7, q4.cell.trans HN5.out.symm⟩, ⟨_, q1, q0, q2, q3, q4, ?_⟩, r1.trans q7, HMK8.out.set HE8.out⟩
            rw [← HNX.out, ← HL8.out]
            exact q5
        case done =>
          rintro D ys W hD rfl ⟨⟨v, hL, hG, hX, hE, hN, hO⟩, hB, hM⟩ hK
          have hnD : D ∉ ds := fun h => by have h1 := HMLT.out D h; omega
          have hNX : bgS d c ++ bgW d c ((wyv (bitAt ex) 0).map fun x => x.1) = bgS d (c + 1) := by
            rw [wyv_map, ← HEX.out, bgW_all]
            rfl
          rw [hNX] at hO
          have HFN : Hid (BgO d (.slice a2 d.cost.length c2) (.slice (some ⟨b3, o3, none⟩) d.exits.length c3) (.slice a4 d.targets.length c4) (c + 1) w EB (D :: ds) W) := ⟨⟨v, hL, hG, hE, hO⟩, hB, hM.cons hK hnD, fun E hE => by
            rcases List.mem_cons.1 hE with rfl | hE
            · omega
            · exact HMB.out E hE⟩
          clear hL hG hX hE hN hO hB hM hK hNX hnD
          gi_wp2
          refine ⟨⟨c + 1, D :: ds, _, _, _, _, _, _, _, _, _, by omega, rfl, HFN.out⟩, ?_⟩
          simp [intOf]
          omega
        case stop =>
          rintro D cc pre W _ _ h _
          exact h.elim
      · have hci : ¬ (c : Int) < (d.exits.length : Int) := by rw [HN.out]; omega
        obtain rfl : c = n := by omega
        obtain ⟨av, cv, rfl⟩ := own_slc hO
        have z3 := hL.cell 3
        simp only [List.getElem?_toArray, List.getElem?_cons_succ, List.getElem?_cons_zero] at z3
        have ec := hE.cell
        clear hL hG hE hO hB hM hMB
        gi_wp2_with fail
        obtain ⟨m, hm⟩ : ∃ m, d.exits.length = m := ⟨_, rfl⟩
        have HMC : Hid (m = c) := hm.symm.trans HN.out
        rw [hm]
        have HMM := hide hm
        clear hm z3 ec hEL hci
        have hm16 : m ≤ 1600 := by have := HMC.out; omega
        obtain ⟨D0, hD0, her⟩ := ed_of_own HO.out
        obtain ⟨D', hD', ha', hE'⟩ := her.give (by have := HG.out.lt; omega)
        have hbl : (bgS d c).length ≤ 6400 := by have := bgS_le d c; omega
        refine ⟨trivial, (callsIn_wide.2 (graphOf_any m D' cv (bgS d c) av hm16 hbl (by rw [HMC.out]; exact bgS_from d c) ha' Z hD' hE')).mono ?_⟩
        rintro e w4 ⟨p1, p2, p3, p4, bl, rfl, hf, hfr, hb4⟩
        have hv := hf.rd
        obtain ⟨b1, d1, rfl⟩ := hv.start.slice
        obtain ⟨b2', d2, rfl⟩ := hv.to.slice
        obtain ⟨b3', d3, rfl⟩ := hv.dir.slice
        obtain ⟨b4, d4, rfl⟩ := hv.cost.slice
        have hGR := HG.out
        rw [HR1.out] at hGR
        have HZ4 := hide (hGR.below hb4)
        have HRB : Hid (∀ q ∈ bl, q ≠ R ∧ q ∉ ds) := fun q hq => by
          have h1 := hfr.lo q hq
          have h2 := hGR.lt
          refine ⟨by omega, fun h => ?_⟩
          have h3 := HM.out.lt q h
          omega
        have HF4 := hide (hf.set5 (fun q hq => (HRB.out q hq).1) (.int .i64 m) (.slice b1 (grOf m (bgS d c)).start.length d1) (.slice b2' (grOf m (bgS d c)).to.length d2) (.slice b3' (grOf m (bgS d c)).dir.length d3) (.slice b4 (grOf m (bgS d c)).cost.length d4))
        have HFB : Hid (Below w.heap.size w (set5 w4 R (.int .i64 m) (.slice b1 (grOf m (bgS d c)).start.length d1) (.slice b2' (grOf m (bgS d c)).to.length d2) (.slice b3' (grOf m (bgS d c)).dir.length d3) (.slice b4 (grOf m (bgS d c)).cost.length d4))) := below_set5 (HB.out.trans (hb4.mono HB.out.size)) (by have := HR1.out; omega) _ _ _ _ _
        have HFR : Hid (Fr w (set5 w4 R (.int .i64 m) (.slice b1 (grOf m (bgS d c)).start.length d1) (.slice b2' (grOf m (bgS d c)).to.length d2) (.slice b3' (grOf m (bgS d c)).dir.length d3) (.slice b4 (grOf m (bgS d c)).cost.length d4)) bl) := ⟨hfr.nd, fun q hq => by have h1 := hfr.lo q hq; have h2 := HB.out.size; omega, fun q hq => HF4.out.lt q hq⟩
        have HBK : Hid (Blk (set5 w4 R (.int .i64 m) (.slice b1 (grOf m (bgS d c)).start.length d1) (.slice b2' (grOf m (bgS d c)).to.length d2) (.slice b3' (grOf m (bgS d c)).dir.length d3) (.slice b4 (grOf m (bgS d c)).cost.length d4)) R 28 #[.int .i64 m, .slice b1 (grOf m (bgS d c)).start.length d1, .slice b2' (grOf m (bgS d c)).to.length d2, .slice b3' (grOf m (bgS d c)).dir.length d3, .slice b4 (grOf m (bgS d c)).cost.length d4]) := ((((HZ4.out.set 0 _).set 1 _).set 2 _).set 3 _).set 4 _
        have HMK : Hid (Mks (set5 w4 R (.int .i64 m) (.slice b1 (grOf m (bgS d c)).start.length d1) (.slice b2' (grOf m (bgS d c)).to.length d2) (.slice b3' (grOf m (bgS d c)).dir.length d3) (.slice b4 (grOf m (bgS d c)).cost.length d4)) ds) := by
          have h0 := HM.out.below hb4
          have h1 := h0.set (v := .int .i64 (m : Nat)) (k := 0) HZ4.out
          have h2 := h1.set (v := .slice b1 (grOf m (bgS d c)).start.length d1) (k := 1) (HZ4.out.set 0 _)
          have h3 := h2.set (v := .slice b2' (grOf m (bgS d c)).to.length d2) (k := 2) ((HZ4.out.set 0 _).set 1 _)
          have h4 := h3.set (v := .slice b3' (grOf m (bgS d c)).dir.length d3) (k := 3) (((HZ4.out.set 0 _).set 1 _).set 2 _)
          exact h4.set (v := .slice b4 (grOf m (bgS d c)).cost.length d4) (k := 4) ((((HZ4.out.set 0 _).set 1 _).set 2 _).set 3 _)
        have x0 := HZ4.out.frozen 0
        have x1 := HZ4.out.frozen 1
        have x2 := HZ4.out.frozen 2
        have x3 := HZ4.out.frozen 3
        have x4 := HZ4.out.frozen 4
        have y0 := HZ4.out.cell 0
        have y1 := HZ4.out.cell 1
        have y2 := HZ4.out.cell 2
        have y3 := HZ4.out.cell 3
        have y4 := HZ4.out.cell 4
        simp only [List.getElem?_toArray, List.getElem?_cons_succ, List.getElem?_cons_zero] at y0 y1 y2 y3 y4
        have HEQ : Hid (bgF d = (grOf m (bgS d c))) := by show _ = _; rw [bgF_yes HOK.out, HMM.out, HMC.out]
        unfold gragg
        have hgo : (grOf m (bgS d c)).n = (m : Int) := rfl
        rw [hgo]
        obtain ⟨r, hr⟩ : ∃ r, (grOf m (bgS d c)) = r := ⟨_, rfl⟩
        rw [hr] at HEQ HF4 HFB HFR HBK HMK ⊢
        have HRR := hide hr
        clear hf hfr hb4 hv hgo hr hGR her hE' ha' hD' hD0 hbl
        gi_wp2
        refine leaves_marks (B := w.heap.size) ds _ HMK.out HMB.out (fun W' h1 h2 h3 => ?_)
        have hRD : R ∉ ds := fun h => by
          have h4 := HMK.out.ne HBK.out R h
          exact h4 rfl
        refine ⟨_, results_gr_tmp rfl _ _ _ R 28 _ (0, 0) rfl ((h3 R hRD).trans HBK.out) Tryd.underlying28 (by kernel_rfl), ?_⟩
        rw [HEQ.out, bgC_yes HOK.out]
        have hrn : r.n = (m : Int) := by rw [← HRR.out]; rfl
        have hF5 := HF4.out.keep (fun q hq => h3 q (HRB.out q hq).2)
        have hFR5 : Fr w W' bl := ⟨HFR.out.nd, HFR.out.lo, fun q hq => hF5.lt q hq⟩
        have hFB5 := HFB.out.trans h1
        first | exact ⟨_, _, _, _, bl, by unfold gragg; rw [hrn]; rfl, hF5, hFR5, hFB5⟩ | exact ⟨_, _, _, _, by unfold gragg; rw [hrn]; rfl, bl, hF5, hFR5, hFB5⟩ | exact ⟨_, _, _, _, by unfold gragg; rw [hrn]; rfl, ⟨bl, hF5, hFR5⟩, hFB5⟩
end Go.Proofs.YtpoanbpgpgflcaaDoor

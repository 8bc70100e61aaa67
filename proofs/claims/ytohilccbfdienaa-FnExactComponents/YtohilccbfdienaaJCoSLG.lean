/-
  The walk of spec.l5graph.
-/
import Derived.Test.YtohilccbfdienaaJCoSGI
import Derived.Test.YtohilccbfdienaaJCoSGI
import Derived.BigRegion
import Derived.Deep.RegionLaw
namespace Go.Proofs.Ytohilccbfdienaa
open Go.RowKit

theorem Try.infoSl : (Try.prog.info? 36).map (fun i => (i.zero, i.size, i.bytes)) = some (some (.slice none 0 0), 1, 24) := by kernel_rfl

set_option maxHeartbeats 4000000 in
set_option maxRecDepth 1000000 in
theorem l5graph_any (n : Nat) (S : List Ed) (v : Value) (w : World) (hn : n ≤ 1600) (hm : S.length ≤ 6400) (hk : ∀ e ∈ S, 0 ≤ e.f ∧ e.f < n) (h : EdS w v S) :
    Calls Try.prog 26 #[.int .i64 n, v] w fun e w' => ∃ v1 v2 v3 v4 bl, e = .returned (gragg (grOf n S) v1 v2 v3 v4) ∧ GrF w' (grOf n S) v1 v2 v3 v4 bl ∧ Fr w w' bl ∧ Below w.heap.size w w' := by
  have HK := hide hk
  have HE := hide h
  obtain ⟨a, b, o, c, rfl, ha, hc⟩ := h
  have HC : Hid (∀ w2, Below w.heap.size w w2 → ∀ j, j < S.length → ∀ p, S[j]? = some p → w2.cell? ⟨b, o + j * 4, none⟩ = some (.int .i64 p.f) ∧ w2.cell? ⟨b, o + j * 4 + 1, none⟩ = some (.int .i64 p.t) ∧ w2.cell? ⟨b, o + j * 4 + 2, none⟩ = some (.int .i64 p.d) ∧ w2.cell? ⟨b, o + j * 4 + 3, none⟩ = some (.int .i64 p.c)) := fun w2 h2 j hj p hp => by
    obtain ⟨k0, k1, k2, k3⟩ := hc j hj p hp
    exact ⟨cell_kept k0 h2, cell_kept k1 h2, cell_kept k2 h2, cell_kept k3 h2⟩
  obtain ⟨N, hN⟩ : ∃ N, S.length = N := ⟨_, rfl⟩
  have HN := hide hN
  rw [hN] at hm ha ⊢
  clear hk hc hN HE
  obtain ⟨w0, hw0⟩ : ∃ W, w.alloc (.cells #[.int .i64 0, .slice none 0 0, .slice none 0 0, .slice none 0 0, .slice none 0 0] 28) = W := ⟨_, rfl⟩
  have hb0 : Below w.heap.size w w0 := by rw [← hw0]; exact (Below.refl _ _).alloc (Nat.le_refl _) _
  have HR0 : Hid (Blk w0 w.heap.size 28 #[.int .i64 0, .slice none 0 0, .slice none 0 0, .slice none 0 0, .slice none 0 0]) := by rw [← hw0]; exact Blk.new _ _ _
  obtain ⟨G, hG⟩ : ∃ G, w0.heap.size = G := ⟨_, rfl⟩
  obtain ⟨w1, hw1⟩ : ∃ W, w0.alloc (.cells #[.int .i64 n, .slice none 0 0, .slice none 0 0, .slice none 0 0, .slice none 0 0] 28) = W := ⟨_, rfl⟩
  have hb1 : Below w0.heap.size w0 w1 := by rw [← hw1]; exact (Below.refl _ _).alloc (Nat.le_refl _) _
  have HR1 := hide (HR0.out.below hb1)
  have HG1 : Hid (Blk w1 G 28 #[.int .i64 n, .slice none 0 0, .slice none 0 0, .slice none 0 0, .slice none 0 0]) := by rw [← hw1, ← hG]; exact Blk.new _ _ _
  have HB1 : Hid (Below w.heap.size w w1) := hb0.trans (hb1.mono hb0.size)
  have HRG : Hid (w.heap.size + 1 = G) := by show _ = _; rw [← hG, ← hw0, World.size_alloc]
  have hmk := run_make_row' (P := Try.prog) 63 36 (.slice none 0 0) 24 Try.underlying63 Try.infoSl rfl .i64 .i64 n (by omega) (by omega) w1
  have HM0 := hide (World.rowIs_made w1 (.slice none 0 0) n 36)
  obtain ⟨W2, hW2⟩ : ∃ W, w1.alloc (.cells (madeCells #[.slice none 0 0] n) 36) = W := ⟨_, rfl⟩
  have hb2 : Below w1.heap.size w1 W2 := by rw [← hW2]; exact (Below.refl _ _).alloc (Nat.le_refl _) _
  obtain ⟨RB, hRB⟩ : ∃ B, w1.heap.size = B := ⟨_, rfl⟩
  have HRBB : Hid (w.heap.size ≤ RB) := by rw [← hRB]; exact HB1.out.size
  rw [hW2, hRB] at hmk HM0
  rw [← hw1, ← hw0] at hmk
  have HR2 := hide (HR1.out.below hb2)
  have HG2 := hide (HG1.out.below hb2)
  have HB2 : Hid (Below w.heap.size w W2) := HB1.out.trans (hb2.mono HB1.out.size)
  have HRW : Hid (Rws W2 w.heap.size RB n (fun _ => .slice none 0 0) (rwL [])) := Rws.made HM0.out
  have HQ0 := hide hw0
  have HQ1 := hide hw1
  have HQG := hide hG
  clear hw0 hb0 hG hw1 hb1 hW2 hb2 hRB HR0 HR1 HG1 HB1 HM0
  go_enter Try.func26, Try.ntmps26
  go_wp2
  rw [HRG.out]
  clear hmk
  go_loopw [7] (fun ix wr => ∃ (k : Nat) (V : Nat → Value), ix = .int .i64 k ∧ k ≤ N ∧ Rws wr w.heap.size RB n V (rwL (S.take k)) ∧ Blk wr w.heap.size 28 #[.int .i64 0, .slice none 0 0, .slice none 0 0, .slice none 0 0, .slice none 0 0] ∧ Blk wr G 28 #[.int .i64 n, .slice none 0 0, .slice none 0 0, .slice none 0 0, .slice none 0 0] ∧ Below w.heap.size w wr) (fun ix _ => N - (intOf ix).toNat)
  case atStart => exact ⟨0, _, rfl, Nat.zero_le _, HRW.out, HR2.out, HG2.out, HB2.out⟩
  case round =>
    clear HRW HR2 HG2 HB2
    obtain ⟨k, V, rfl, hkN, hrw, hR, hG, hB⟩ := hrel
    rename World => Z
    by_cases hlt : k < N
    · have hki : (k : Int) < (N : Int) := by omega
      obtain rfl := ha (by omega)
      have hkS : k < S.length := by rw [HN.out]; exact hlt
      obtain ⟨x, hx⟩ : ∃ x, S[k]? = some x := ⟨_, List.getElem?_eq_getElem hkS⟩
      obtain ⟨p0, p1, p2, p3⟩ := HC.out Z hB k hkS x hx
      have hxm : x ∈ S := List.mem_of_getElem? hx
      have hxk := HK.out x hxm
      obtain ⟨i, hi⟩ : ∃ i : Nat, x.f = (i : Int) := ⟨x.f.toNat, by omega⟩
      have hin : i < n := by omega
      have hini : (i : Int) < (n : Int) := by omega
      rw [hi] at p0
      obtain ⟨s1, s2⟩ := hrw.cell hin
      have HOW := hide (hrw.ow i hin)
      obtain ⟨L, hL⟩ : ∃ L, rwL (S.take k) i = L := ⟨_, rfl⟩
      have hLl : L.length ≤ 6400 := by
        rw [← hL]
        unfold rwL
        have h1 := flt_len_le i (S.take k)
        rw [List.length_take] at h1
        omega
      rw [hL] at HOW
      obtain ⟨av, cv, hv⟩ := HOW.out.slc
      have HV := hide hv
      rw [hv] at s1 HOW
      have hLi : (L.length : Int) ≤ 6400 := by omega
      have HRW := hide hrw
      have HR := hide hR
      have HG := hide hG
      have HB := hide hB
      have HXX := hide hx
      have HXF := hide hi
      have HLL := hide hL
      have HBZ : Hid (w.heap.size ≤ Z.heap.size) := hB.size
      have hbA : Below Z.heap.size Z (Z.alloc (.cells #[.int .i64 (i : Nat), .int .i64 x.t, .int .i64 x.d, .int .i64 x.c] 53)).drew := ((Below.refl _ _).alloc (Nat.le_refl _) _).drew
      have HBA := hide hbA
      have HOA := hide (HOW.out.kept hbA)
      have HRA := hide (hrw.below hbA)
      have HGA := hide (hG.below hbA)
      have HRA2 := hide (hR.below hbA)
      have HBA2 : Hid (Below w.heap.size w (Z.alloc (.cells #[.int .i64 (i : Nat), .int .i64 x.t, .int .i64 x.d, .int .i64 x.c] 53)).drew) := hB.trans (hbA.mono hB.size)
      clear hrw hR hG hB hx hxm hxk hi hv hL hbA
      have HNW : Hid (∀ j, j < 4 → (Z.alloc (.cells #[.int .i64 (i : Nat), .int .i64 x.t, .int .i64 x.d, .int .i64 x.c] 53)).drew.cell? ⟨Z.heap.size, j, none⟩ = (edc x)[j]?) := fun j hj => by
        have h1 := (Blk.new Z 53 #[.int .i64 (i : Nat), .int .i64 x.t, .int .i64 x.d, .int .i64 x.c]).cell j
        rw [← HXF.out] at h1
        exact (show (Z.alloc (.cells #[.int .i64 (i : Nat), .int .i64 x.t, .int .i64 x.d, .int .i64 x.c] 53)).drew.cell? ⟨Z.heap.size, j, none⟩ = (Z.alloc (.cells #[.int .i64 (i : Nat), .int .i64 x.t, .int .i64 x.d, .int .i64 x.c] 53)).cell? ⟨Z.heap.size, j, none⟩ from rfl).trans (by rw [← HXF.out]; exact h1.trans (by rw [List.getElem?_toArray]; rfl))
      have HBAZ : Hid (w.heap.size ≤ (Z.alloc (.cells #[.int .i64 (i : Nat), .int .i64 x.t, .int .i64 x.d, .int .i64 x.c] 53)).drew.heap.size) := HBA2.out.size
      have s3 := (HRA.out.cell hin).1
      rw [HV.out] at s3
      go_wp2_with fail
      go_region_law (refine step_appEsA rfl (.tmp 31) (.tmp 36) rfl w.heap.size (.slice av L.length cv) L rfl HOA.out Z.heap.size 1 x rfl HNW.out (by omega) HBAZ.out ?_
                     intro v' W' ap
                     have HAP := hide ap
                     obtain ⟨av', cv', hv'⟩ := ap.own.slc
                     subst hv'
                     have q1 := app_typed HRA.out.bk.choose_spec.1 (by decide) HOA.out ap.gr
                     have q2 := q1.frozen i
                     have q3 : W'.cell? ⟨RB, i, none⟩ = some (V i) := by rw [q1.cell]; exact HRA.out.bk.choose_spec.2.2 i hin
                     clear ap q1)
      all_goals
        have hA := HRA.out.app hin (by rw [HV.out, HLL.out]; exact HAP.out)
        rw [HLL.out] at hA
        have hR' := rwL_snoc (P := S.take k) HXF.out
        rw [HLL.out] at hR'
        rw [hR'] at hA
        have hne : (28 : TypeId) ≠ 36 := by decide
        have hne2 : (28 : TypeId) ≠ 53 := by decide
        have hbk := app_typed HRA.out.bk.choose_spec.1 (by decide) HOA.out HAP.out.gr
        have HFN : Hid (Rws (W'.setCell ⟨RB, i, none⟩ (.slice av' (L ++ [x]).length cv')) w.heap.size RB n (updR V i (.slice av' (L ++ [x]).length cv')) (rwL (S.take (k + 1))) ∧ Blk (W'.setCell ⟨RB, i, none⟩ (.slice av' (L ++ [x]).length cv')) w.heap.size 28 #[.int .i64 0, .slice none 0 0, .slice none 0 0, .slice none 0 0, .slice none 0 0] ∧ Blk (W'.setCell ⟨RB, i, none⟩ (.slice av' (L ++ [x]).length cv')) G 28 #[.int .i64 n, .slice none 0 0, .slice none 0 0, .slice none 0 0, .slice none 0 0] ∧ Below w.heap.size w (W'.setCell ⟨RB, i, none⟩ (.slice av' (L ++ [x]).length cv'))) := by
          refine ⟨?_, set_typed hbk (app_typed HRA2.out hne2 HOA.out HAP.out.gr) hne, set_typed hbk (app_typed HGA.out hne2 HOA.out HAP.out.gr) hne, ?_⟩
          · rw [List.take_add_one, HXX.out]
            exact hA
          · have hb := EsOw.below HOA.out HBA2.out HBAZ.out HAP.out.gr
            exact Below.setCell hb (by show w.heap.size ≤ RB; exact HRBB.out) _
        rw [List.length_append, List.length_singleton] at HFN
        clear hA hR' hne hne2 hbk HAP q2 q3 s1 s2 s3 p0 p1 p2 p3
        go_wp2
        go_roundw
        case rel => exact ⟨k + 1, _, by first | rfl | (congr 1; omega), by omega, HFN.out⟩
        case measure =>
          show _ < _
          simp only [intOf]
          omega
    · have hki : ¬ (k : Int) < (N : Int) := by omega
      obtain rfl : k = N := by omega
      rw [← HN.out, List.take_length] at hrw
      have HI0 : Hid (GsI w n G RB V S (.slice none 0 0) (.slice none 0 0) (.slice none 0 0) (.slice none 0 0) (.slice none 0 0) (.slice none 0 0) (.slice none 0 0) (.slice none 0 0) [] [] [] [] Z) := ⟨hG, ⟨Ow.nil _ _, Ow.nil _ _, Ow.nil _ _, Ow.nil _ _, Apt.nil _, Apt.nil _, Apt.nil _, Apt.nil _, Apt.nil _, Apt.nil _⟩, hrw, hR, HRG.out, hB⟩
      clear hrw hR hG hB
      go_wp2
      rename World => Z0
      clear HK HC ha
      go_loopw [9] (fun ix wr => ∃ (c : Nat) (v1 v2 v3 v4 : Value), ix = .int .i64 c ∧ c ≤ n ∧ GsI w n G RB V S v1 v2 v3 v4 v1 v2 v3 v4 ((List.range c).map (stA S)) ((rowsN S c).map Ed.t) ((rowsN S c).map Ed.d) ((rowsN S c).map Ed.c) wr) (fun ix _ => n - (intOf ix).toNat)
      case atStart => exact ⟨0, _, _, _, _, rfl, Nat.zero_le _, HI0.out⟩
      case round =>
        clear HI0
        obtain ⟨c, v1, v2, v3, v4, rfl, hcn, hI⟩ := hrel
        rename World => Z
        have hrl := (stA_le S c).2
        unfold stA at hrl
        rw [HN.out] at hrl
        obtain ⟨a1, c1, hv1, -⟩ := hI.ro.o1.slc
        obtain ⟨a2, c2, hv2, -⟩ := hI.ro.o2.slc
        obtain ⟨a3, c3, hv3, -⟩ := hI.ro.o3.slc
        obtain ⟨a4, c4, hv4, -⟩ := hI.ro.o4.slc
        rw [List.length_map, List.length_range] at hv1
        rw [List.length_map] at hv2 hv3 hv4
        subst hv1 hv2 hv3 hv4
        obtain ⟨M, hM⟩ : ∃ M, (rowsN S c).length = M := ⟨_, rfl⟩
        have HM := hide hM
        rw [hM] at hI hrl
        have HI := hide hI
        clear hM
        have y1 := hI.gr.cell 1
        have y2 := hI.gr.cell 2
        simp only [List.getElem?_toArray, List.getElem?_cons_succ, List.getElem?_cons_zero] at y1 y2
        obtain ⟨ZC, hZC⟩ : ∃ W, Z.alloc (.cells #[.int .i64 (M : Nat)] 3) = W := ⟨_, rfl⟩
        have hbC : Below Z.heap.size Z ZC := by rw [← hZC]; exact (Below.refl _ _).alloc (Nat.le_refl _) _
        have HIC := hide (hI.below hbC)
        have HNC : Hid (ZC.cell? ⟨Z.heap.size, 0, none⟩ = some (.int .i64 (M : Nat))) := by rw [← hZC]; exact (Blk.new _ _ _).cell 0
        have HBC : Hid (w.heap.size ≤ ZC.heap.size) := HIC.out.bl.size
        have HZC := hide hZC
        clear hZC hbC hI
        by_cases hlt : c < n
        · have hci : (c : Int) < (n : Int) := by omega
          go_wp2_with (at_builtin; rw [HZC.out]; refine wp_app1 rfl (.tmp 45) (.tmp 49) rfl w.heap.size (.slice a1 c c1) ((List.range c).map (stA S)) rfl HIC.out.ro.o1 Z.heap.size 1 (M : Nat) rfl HNC.out (by simp; omega) HBC.out ?_)
          clear y1 y2 HZC HNC HBC HI
          intro v' X ap
          have hJ := HIC.out.app1 ap
          rw [← HM.out, stA_snoc] at hJ
          obtain ⟨b1, d1, hv', -⟩ := hJ.ro.o1.slc
          rw [List.length_map, List.length_range] at hv'
          subst hv'
          rw [HM.out] at hJ
          have f0 := hJ.gr.frozen 1
          have f1 := hJ.gr.cell 1
          simp only [List.getElem?_toArray, List.getElem?_cons_succ, List.getElem?_cons_zero] at f1
          have HJ : Hid (GsI w n G RB V S (.slice b1 (c + 1) d1) (.slice a2 M c2) (.slice a3 M c3) (.slice a4 M c4) (.slice b1 (c + 1) d1) (.slice a2 M c2) (.slice a3 M c3) (.slice a4 M c4) ((List.range (c + 1)).map (stA S)) ((rowsN S c).map Ed.t) ((rowsN S c).map Ed.d) ((rowsN S c).map Ed.c) (X.setCell ⟨G, 1, none⟩ (.slice b1 (c + 1) d1))) := hJ.put 1 _ rfl
          clear hJ ap HIC
          obtain ⟨aV, cV, hV⟩ := (HJ.out.rw.ow c hlt).slc
          obtain ⟨m, hm'⟩ : ∃ m, (rwL S c).length = m := ⟨_, rfl⟩
          rw [hm'] at hV
          have HV := hide hV
          have HMM := hide hm'
          have hmb : M + m ≤ 6400 := by
            have h1 := (stA_le S (c + 1)).2
            rw [stA_succ, HN.out] at h1
            unfold stA at h1
            rw [HM.out] at h1
            have h2 : (flt c S).length = m := hm'
            omega
          clear hV hm'
          go_wp2
          clear f0 f1
          rename World => Z1
          go_loopw [10] (fun ix wr => ∃ (k : Nat) (v2 v3 v4 : Value), ix = .int .i64 k ∧ k ≤ m ∧ GsI w n G RB V S (.slice b1 (c + 1) d1) v2 v3 v4 (.slice b1 (c + 1) d1) v2 v3 v4 ((List.range (c + 1)).map (stA S)) ((rowsN S c ++ (rwL S c).take k).map Ed.t) ((rowsN S c ++ (rwL S c).take k).map Ed.d) ((rowsN S c ++ (rwL S c).take k).map Ed.c) wr) (fun ix _ => m - (intOf ix).toNat)
          case atStart => exact ⟨0, _, _, _, rfl, Nat.zero_le _, by rw [List.take_zero, List.append_nil]; exact HJ.out⟩
          case round =>
            clear HJ
            obtain ⟨k, v2, v3, v4, rfl, hkm, hI⟩ := hrel
            rename World => Y
            obtain ⟨Q, hQ⟩ : ∃ Q, rowsN S c ++ (rwL S c).take k = Q := ⟨_, rfl⟩
            have hQl : Q.length = M + k := by rw [← hQ, List.length_append, List.length_take, HM.out, HMM.out, Nat.min_eq_left hkm]
            rw [hQ] at hI
            have HQ := hide hQ
            have HQL := hide hQl
            obtain ⟨e2, g2, hv2, -⟩ := hI.ro.o2.slc
            obtain ⟨e3, g3, hv3, -⟩ := hI.ro.o3.slc
            obtain ⟨e4, g4, hv4, -⟩ := hI.ro.o4.slc
            rw [List.length_map, hQl] at hv2 hv3 hv4
            subst hv2 hv3 hv4
            obtain ⟨q, hq⟩ : ∃ q, M + k = q := ⟨_, rfl⟩
            have HQQ := hide hq
            rw [hq] at hI
            have hq64 : q ≤ 6400 := by omega
            have s0 := (hI.rw.cell hlt).1
            rw [HV.out] at s0
            have HI := hide hI
            clear hQ hQl hq hI
            by_cases hkl : k < m
            · have hki : (k : Int) < (m : Int) := by omega
              have hkr : k < (rwL S c).length := by rw [HMM.out]; exact hkl
              obtain ⟨x, hx⟩ : ∃ x, (rwL S c)[k]? = some x := ⟨_, List.getElem?_eq_getElem hkr⟩
              have HXX := hide hx
              have HRD := hide (fun (W : World) (h : EsOw W w.heap.size (V c) (rwL S c)) => h.rd)
              obtain ⟨aa, bb, oo, cc, hve, hae, _⟩ := (HI.out.rw.ow c hlt).rd
              have HOWN : Hid (∃ bb oo, aV = some ⟨bb, oo, none⟩ ∧ ∀ W : World, EsOw W w.heap.size (V c) (rwL S c) → W.cell? ⟨bb, oo + k * 4 + 1, none⟩ = some (.int .i64 x.t) ∧ W.cell? ⟨bb, oo + k * 4 + 2, none⟩ = some (.int .i64 x.d) ∧ W.cell? ⟨bb, oo + k * 4 + 3, none⟩ = some (.int .i64 x.c)) := es_cells HV.out HXX.out (HI.out.rw.ow c hlt)
              clear hve hae HRD hx
              obtain ⟨bb, oo, hEa, hEc⟩ := HOWN.out
              have HEC := hide hEc
              subst hEa
              clear hEc HOWN
              have hbA2 : Below Y.heap.size Y (Y.alloc (.cells #[.int .i64 x.t] 3)).drew := ((Below.refl _ _).alloc (Nat.le_refl _) _).drew
              have HIA2 := hide (HI.out.below hbA2)
              have HNA2 : Hid ((Y.alloc (.cells #[.int .i64 x.t] 3)).drew.cell? ⟨Y.heap.size, 0, none⟩ = some (.int .i64 x.t)) := (Blk.new _ _ _).cell 0
              have HBA2 : Hid (w.heap.size ≤ (Y.alloc (.cells #[.int .i64 x.t] 3)).drew.heap.size) := HIA2.out.bl.size
              have y2 := HI.out.gr.cell 2
              have z2 := HIA2.out.gr.cell 2
              simp only [List.getElem?_toArray, List.getElem?_cons_succ, List.getElem?_cons_zero] at y2 z2
              have s2 := (HI.out.rw.cell hlt).1
              rw [HV.out] at s2
              obtain ⟨m1, m2, m3⟩ := HEC.out Y (HI.out.rw.ow c hlt)
              clear hbA2
              go_wp2_with fail
              apply key_rest
              · intro HKEY
                go_region_law (refine step_app1 rfl (.tmp 62) (.tmp 71) rfl w.heap.size (.slice e2 q g2) (Q.map Ed.t) rfl HIA2.out.ro.o2 Y.heap.size 1 x.t rfl HNA2.out (by rw [List.length_map, HQL.out, HQQ.out]; omega) HBA2.out ?_
                               intro v' X2 ap
                               have hJ := HIA2.out.app2 ap
                               obtain ⟨r2, w2, hv', -⟩ := hJ.ro.o2.slc
                               rw [List.length_append, List.length_map, HQL.out, HQQ.out, List.length_singleton] at hv'
                               subst hv'
                               have f0 := hJ.gr.frozen 2
                               have f1 := hJ.gr.cell 2
                               simp only [List.getElem?_toArray, List.getElem?_cons_succ, List.getElem?_cons_zero] at f1
                               have HJ2 : Hid (GsI w n G RB V S (.slice b1 (c + 1) d1) (.slice r2 (q + 1) w2) (.slice e3 q g3) (.slice e4 q g4) (.slice b1 (c + 1) d1) (.slice r2 (q + 1) w2) (.slice e3 q g3) (.slice e4 q g4) ((List.range (c + 1)).map (stA S)) (Q.map Ed.t ++ [x.t]) (Q.map Ed.d) (Q.map Ed.c) (X2.setCell ⟨G, 2, none⟩ (.slice r2 (q + 1) w2))) := hJ.put 2 _ rfl
                               clear hJ ap)
                all_goals
                  clear f0 f1
                  revert HJ2
                  revert X2 r2 w2
                  exact HKEY.out
              intro X2 r2 w2 HJ2
              clear y2 z2 s2 m1 m2 m3 HIA2 HNA2 HBA2
              obtain ⟨Y2, hY2⟩ : ∃ W, X2.setCell ⟨G, 2, none⟩ (.slice r2 (q + 1) w2) = W := ⟨_, rfl⟩
              rw [hY2] at HJ2 ⊢
              clear hY2
              have hbA3 : Below Y2.heap.size Y2 (Y2.alloc (.cells #[.int .i64 x.d] 3)).drew := ((Below.refl _ _).alloc (Nat.le_refl _) _).drew
              have HIA3 := hide (HJ2.out.below hbA3)
              have HNA3 : Hid ((Y2.alloc (.cells #[.int .i64 x.d] 3)).drew.cell? ⟨Y2.heap.size, 0, none⟩ = some (.int .i64 x.d)) := (Blk.new _ _ _).cell 0
              have HBA3 : Hid (w.heap.size ≤ (Y2.alloc (.cells #[.int .i64 x.d] 3)).drew.heap.size) := HIA3.out.bl.size
              have y3 := HJ2.out.gr.cell 3
              have z3 := HIA3.out.gr.cell 3
              simp only [List.getElem?_toArray, List.getElem?_cons_succ, List.getElem?_cons_zero] at y3 z3
              have s3 := (HJ2.out.rw.cell hlt).1
              rw [HV.out] at s3
              obtain ⟨m1, m2, m3⟩ := HEC.out Y2 (HJ2.out.rw.ow c hlt)
              clear hbA3
              go_wp2_with fail
              apply key_rest
              · intro HKEY
                go_region_law (refine step_app1 rfl (.tmp 75) (.tmp 84) rfl w.heap.size (.slice e3 q g3) (Q.map Ed.d) rfl HIA3.out.ro.o3 Y2.heap.size 1 x.d rfl HNA3.out (by rw [List.length_map, HQL.out, HQQ.out]; omega) HBA3.out ?_
                               intro v' X3 ap
                               have hJ := HIA3.out.app3 ap
                               obtain ⟨r3, w3, hv', -⟩ := hJ.ro.o3.slc
                               rw [List.length_append, List.length_map, HQL.out, HQQ.out, List.length_singleton] at hv'
                               subst hv'
                               have f0 := hJ.gr.frozen 3
                               have f1 := hJ.gr.cell 3
                               simp only [List.getElem?_toArray, List.getElem?_cons_succ, List.getElem?_cons_zero] at f1
                               have HJ3 : Hid (GsI w n G RB V S (.slice b1 (c + 1) d1) (.slice r2 (q + 1) w2) (.slice r3 (q + 1) w3) (.slice e4 q g4) (.slice b1 (c + 1) d1) (.slice r2 (q + 1) w2) (.slice r3 (q + 1) w3) (.slice e4 q g4) ((List.range (c + 1)).map (stA S)) (Q.map Ed.t ++ [x.t]) (Q.map Ed.d ++ [x.d]) (Q.map Ed.c) (X3.setCell ⟨G, 3, none⟩ (.slice r3 (q + 1) w3))) := hJ.put 3 _ rfl
                               clear hJ ap)
                all_goals
                  clear f0 f1
                  revert HJ3
                  revert X3 r3 w3
                  exact HKEY.out
              intro X3 r3 w3 HJ3
              clear y3 z3 s3 m1 m2 m3 HIA3 HNA3 HBA3
              obtain ⟨Y3, hY3⟩ : ∃ W, X3.setCell ⟨G, 3, none⟩ (.slice r3 (q + 1) w3) = W := ⟨_, rfl⟩
              rw [hY3] at HJ3 ⊢
              clear hY3
              have hbA4 : Below Y3.heap.size Y3 (Y3.alloc (.cells #[.int .i64 x.c] 3)).drew := ((Below.refl _ _).alloc (Nat.le_refl _) _).drew
              have HIA4 := hide (HJ3.out.below hbA4)
              have HNA4 : Hid ((Y3.alloc (.cells #[.int .i64 x.c] 3)).drew.cell? ⟨Y3.heap.size, 0, none⟩ = some (.int .i64 x.c)) := (Blk.new _ _ _).cell 0
              have HBA4 : Hid (w.heap.size ≤ (Y3.alloc (.cells #[.int .i64 x.c] 3)).drew.heap.size) := HIA4.out.bl.size
              have y4 := HJ3.out.gr.cell 4
              have z4 := HIA4.out.gr.cell 4
              simp only [List.getElem?_toArray, List.getElem?_cons_succ, List.getElem?_cons_zero] at y4 z4
              have s4 := (HJ3.out.rw.cell hlt).1
              rw [HV.out] at s4
              obtain ⟨m1, m2, m3⟩ := HEC.out Y3 (HJ3.out.rw.ow c hlt)
              clear hbA4
              go_wp2_with fail
              apply key_rest
              · intro HKEY
                go_region_law (refine step_app1 rfl (.tmp 88) (.tmp 97) rfl w.heap.size (.slice e4 q g4) (Q.map Ed.c) rfl HIA4.out.ro.o4 Y3.heap.size 1 x.c rfl HNA4.out (by rw [List.length_map, HQL.out, HQQ.out]; omega) HBA4.out ?_
                               intro v' X4 ap
                               have hJ := HIA4.out.app4 ap
                               obtain ⟨r4, w4, hv', -⟩ := hJ.ro.o4.slc
                               rw [List.length_append, List.length_map, HQL.out, HQQ.out, List.length_singleton] at hv'
                               subst hv'
                               have f0 := hJ.gr.frozen 4
                               have f1 := hJ.gr.cell 4
                               simp only [List.getElem?_toArray, List.getElem?_cons_succ, List.getElem?_cons_zero] at f1
                               have HJ4 : Hid (GsI w n G RB V S (.slice b1 (c + 1) d1) (.slice r2 (q + 1) w2) (.slice r3 (q + 1) w3) (.slice r4 (q + 1) w4) (.slice b1 (c + 1) d1) (.slice r2 (q + 1) w2) (.slice r3 (q + 1) w3) (.slice r4 (q + 1) w4) ((List.range (c + 1)).map (stA S)) (Q.map Ed.t ++ [x.t]) (Q.map Ed.d ++ [x.d]) (Q.map Ed.c ++ [x.c]) (X4.setCell ⟨G, 4, none⟩ (.slice r4 (q + 1) w4))) := hJ.put 4 _ rfl
                               clear hJ ap)
                all_goals
                  clear f0 f1
                  revert HJ4
                  revert X4 r4 w4
                  exact HKEY.out
              intro X4 r4 w4 HJ4
              clear y4 z4 s4 m1 m2 m3 HIA4 HNA4 HBA4
              go_wp2
              go_roundw
              case rel =>
                have hx' : rowsN S c ++ (rwL S c).take (k + 1) = Q ++ [x] := by
                  rw [← HQ.out, List.take_add_one, HXX.out, ← List.append_assoc]
                  rfl
                refine ⟨k + 1, .slice r2 (q + 1) w2, .slice r3 (q + 1) w3, .slice r4 (q + 1) w4, by first | rfl | (congr 1; omega), by omega, ?_⟩
                rw [hx', List.map_append, List.map_append, List.map_append]
                exact HJ4.out
              case measure =>
                show _ < _
                simp only [intOf]
                omega
            · have hki : ¬ (k : Int) < (m : Int) := by omega
              obtain rfl : k = m := by omega
              have HNX : Hid (Q = rowsN S (c + 1)) := by
                show _ = rowsN S c ++ flt c S
                rw [← HQ.out, ← HMM.out, List.take_length]
                rfl
              go_wp2
              go_roundw
              case rel =>
                refine ⟨c + 1, .slice b1 (c + 1) d1, .slice e2 q g2, .slice e3 q g3, .slice e4 q g4, by first | rfl | (congr 1; omega), by omega, ?_⟩
                rw [← HNX.out]
                exact HI.out
              case measure =>
                show _ < _
                simp only [intOf]
                omega
        · have hci : ¬ (c : Int) < (n : Int) := by omega
          obtain rfl : c = n := by omega
          go_wp2_with (at_builtin; rw [HZC.out]; refine wp_app1 rfl (.tmp 101) (.tmp 105) rfl w.heap.size (.slice a1 c c1) ((List.range c).map (stA S)) rfl HIC.out.ro.o1 Z.heap.size 1 (M : Nat) rfl HNC.out (by simp; omega) HBC.out ?_)
          clear y1 y2 HZC HNC HBC HI
          intro v' X ap
          have hJ := HIC.out.app1 ap
          rw [← HM.out, stA_snoc] at hJ
          obtain ⟨b1, d1, hv', -⟩ := hJ.ro.o1.slc
          rw [List.length_map, List.length_range] at hv'
          subst hv'
          rw [HM.out] at hJ
          have hJ2 : GsI w c G RB V S (.slice b1 (c + 1) d1) (.slice a2 M c2) (.slice a3 M c3) (.slice a4 M c4) (.slice b1 (c + 1) d1) (.slice a2 M c2) (.slice a3 M c3) (.slice a4 M c4) ((List.range (c + 1)).map (stA S)) ((rowsN S c).map Ed.t) ((rowsN S c).map Ed.d) ((rowsN S c).map Ed.c) (X.setCell ⟨G, 1, none⟩ (.slice b1 (c + 1) d1)) := hJ.put 1 _ rfl
          have f0 := hJ.gr.frozen 1
          have f1 := hJ.gr.cell 1
          have z0 := hJ2.gr.cell 0
          have z1 := hJ2.gr.cell 1
          have z2 := hJ2.gr.cell 2
          have z3 := hJ2.gr.cell 3
          have z4 := hJ2.gr.cell 4
          have x0 := hJ.rs.frozen 0
          have x1 := hJ.rs.frozen 1
          have x2 := hJ.rs.frozen 2
          have x3 := hJ.rs.frozen 3
          have x4 := hJ.rs.frozen 4
          have y0 := hJ2.rs.cell 0
          have y1 := hJ2.rs.cell 1
          have y2 := hJ2.rs.cell 2
          have y3 := hJ2.rs.cell 3
          have y4 := hJ2.rs.cell 4
          simp only [List.getElem?_toArray, List.getElem?_cons_succ, List.getElem?_cons_zero] at f1 z0 z1 z2 z3 z4 y0 y1 y2 y3 y4
          have HFR : Hid (R4 (set5 (X.setCell ⟨G, 1, none⟩ (.slice b1 (c + 1) d1)) w.heap.size (.int .i64 c) (.slice b1 (c + 1) d1) (.slice a2 M c2) (.slice a3 M c3) (.slice a4 M c4)) w.heap.size (.slice b1 (c + 1) d1) (.slice a2 M c2) (.slice a3 M c3) (.slice a4 M c4) (grOf c S).start (grOf c S).to (grOf c S).dir (grOf c S).cost) := hJ2.ro.set5 hJ2.rs (by decide) _ _ _ _ _
          have HFB : Hid (Below w.heap.size w (set5 (X.setCell ⟨G, 1, none⟩ (.slice b1 (c + 1) d1)) w.heap.size (.int .i64 c) (.slice b1 (c + 1) d1) (.slice a2 M c2) (.slice a3 M c3) (.slice a4 M c4))) := below_set5 hJ2.bl (Nat.le_refl _) _ _ _ _ _
          have HBK : Hid (Blk (set5 (X.setCell ⟨G, 1, none⟩ (.slice b1 (c + 1) d1)) w.heap.size (.int .i64 c) (.slice b1 (c + 1) d1) (.slice a2 M c2) (.slice a3 M c3) (.slice a4 M c4)) w.heap.size 28 #[.int .i64 c, .slice b1 (c + 1) d1, .slice a2 M c2, .slice a3 M c3, .slice a4 M c4]) := ((((hJ2.rs.set 0 _).set 1 _).set 2 _).set 3 _).set 4 _
          have hGW : G ≠ w.heap.size := by have := HRG.out; omega
          have hWG : w.heap.size ≠ G := by have := HRG.out; omega
          clear hJ hJ2 ap HIC
          go_wp2
          refine bodyPost_ret (results_cell_row rfl _ _ w.heap.size 28 #[.int .i64 c, .slice b1 (c + 1) d1, .slice a2 M c2, .slice a3 M c3, .slice a4 M c4] (0, 0) _ rfl HBK.out Try.underlying28 rfl (by kernel_rfl)) rfl ?_
          obtain ⟨bl, h1, h2⟩ := HFR.out.grf
          first | exact ⟨_, _, _, _, bl, rfl, h1, h2, HFB.out⟩ | exact ⟨_, _, _, _, rfl, bl, h1, h2, HFB.out⟩ | exact ⟨_, _, _, _, rfl, ⟨bl, h1, h2⟩, HFB.out⟩
end Go.Proofs.Ytohilccbfdienaa

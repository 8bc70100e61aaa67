/-
  The walk of impl.LayoutDecls.
-/
import Derived.Test.YtaapababeecmeaaDoorJLayoutDeclsILD5
import Derived.Test.YtaapababeecmeaaDoorJLayoutDeclsILD5
import Derived.Test.YtaapababeecmeaaDoorJLayoutDeclsIL5
import Derived.Deep.RegionWith
import Derived.Laws.AppendOwnNone
namespace Go.Proofs.YtaapababeecmeaaDoor
open Go.RowKit

set_option maxHeartbeats 8000000 in
set_option maxRecDepth 1000000 in
theorem implLD_any (d : Ly) (v2 v3 v4 : Value) (w : World) (hb : LyB d) (hd : LyL d) (hmv : MvOk w) (hT : Lib.Utf8Tabs 4 5 w) (h : LyV w d v2 v3 v4) :
    Calls Tryd.prog 12 #[lyagg d v2 v3 v4] w fun e w' => ∃ v bl, e = .returned v ∧ DcSF w' v (layD d) bl ∧ Fr w w' bl ∧ Below w.heap.size w w' := by
  have HV := hide h
  have HM := hide hmv
  have HVL := hide (fun w2 (hb2 : Below w.heap.size w w2) => implLayout_any d v2 v3 v4 w2 hb hd (hmv.below hb2) ⟨fun c hc => cell_kept (hT.1 c hc) hb2, fun i hi => ⟨cell_kept (hT.2 i hi).1 hb2, cell_kept (hT.2 i hi).2 hb2⟩⟩ (h.below hb2))
  have HCD := hide (fun (hok : LyOk d) (c : Nat) w2 (hb2 : Below w.heap.size w w2) (hc : c < d.cost.length) => cellDecls_any d v2 v3 v4 c w2 (hmv.below hb2) (h.cost.below hb2) (h.exits.below hb2) hok hc)
  obtain ⟨a2, b2, o2, c2, rfl, ha2, hc2⟩ := h.cost
  obtain ⟨a3, b3, o3, c3, rfl, ha3, hc3⟩ := h.exits
  obtain ⟨a4, b4, o4, c4, rfl, ha4, hc4⟩ := h.targets
  have HC4 : Hid (∀ w2, Below w.heap.size w w2 → ∀ j, j < d.targets.length → ∃ v0, TgC w2 b4 (o4 + j * 3) (d.targets.getD j .zero) v0 ∧ TgV w2 (d.targets.getD j .zero) v0) := fun w2 hb2 j hj => by
    obtain ⟨v0, h1, h2⟩ := hc4 j hj
    exact ⟨v0, h1.below hb2, h2.below hb2⟩
  have hbl := hb.cost
  unfold lyagg at HVL HCD ⊢
  clear h hc2 hc3 hc4 hmv hT hb hd
  obtain ⟨W0, hW0⟩ : ∃ W, w.alloc (.cells #[.int .i64 d.w, .int .i64 d.h, .slice a2 d.cost.length c2, .slice a3 d.exits.length c3, .slice a4 d.targets.length c4] 30) = W := ⟨_, rfl⟩
  have hB0 : Below w.heap.size w W0 := by rw [← hW0]; exact (Below.refl _ _).alloc (Nat.le_refl _) _
  have hA0 : Blk W0 w.heap.size 30 #[.int .i64 d.w, .int .i64 d.h, .slice a2 d.cost.length c2, .slice a3 d.exits.length c3, .slice a4 d.targets.length c4] := by rw [← hW0]; exact Blk.new _ _ _
  have HB0 := hide hB0
  have HA0 := hide hA0
  have HW := hide hW0
  clear hB0 hA0 hW0
  go_enter Tryd.func12, Tryd.ntmps12
  go_wp2_with fail
  rw [HW.out]
  refine (HVL.out _ HB0.out).mono ?_
  rintro e w1 ⟨⟨b1, rfl, hi1⟩, hb1⟩
  have HA1 := hide (HA0.out.below hb1)
  have HB1 : Hid (Below w.heap.size w w1) := HB0.out.trans (hb1.mono HB0.out.size)
  clear hb1 HA0 HB0 HW HVL
  cases b1 with
  | false =>
    have HR : Hid (layD d = []) := by
      show _ = _
      unfold layD
      exact if_neg (fun h => by have := hi1.2 h; cases this)
    clear hi1
    go_wp2
    go_ret
    refine ⟨_, [], rfl, ?_, Fr.nil _ _, HB1.out⟩
    rw [HR.out]
    exact ⟨none, 0, 0, 0, fun _ => .slice none 0 0, fun _ => [], rfl, fun h => absurd h (by decide), rfl, fun j hj => absurd hj (Nat.not_lt_zero _), fun j hj => absurd hj (Nat.not_lt_zero _)⟩
  | true =>
  have HOK := hide (hi1.1 rfl)
  have HR : Hid (layD d = tgsTo d d.targets.length) := by
    show _ = _
    unfold layD
    exact if_pos HOK.out
  obtain ⟨X, hX⟩ : ∃ X, d.w = X := ⟨_, rfl⟩
  obtain ⟨Y, hY⟩ : ∃ Y, d.h = Y := ⟨_, rfl⟩
  obtain ⟨n, hn⟩ : ∃ n, d.cost.length = n := ⟨_, rfl⟩
  have HX : Hid (d.w = X ∧ d.h = Y ∧ d.cost.length = n) := ⟨hX, hY, hn⟩
  have hn1 : n ≤ 1600 := by
    have h1 := HOK.out.cl
    have h2 : d.w * d.h ≤ 40 * 40 := Int.mul_le_mul HOK.out.w1 HOK.out.h1 (by have := HOK.out.h0; omega) (by decide)
    omega
  have hX0 : 1 ≤ X := by rw [← hX]; exact HOK.out.w0
  rw [hX, hY, hn] at HA1 HCD ⊢
  clear hi1 hX hY hn
  have z0 := HA1.out.cell 0
  have z1 := HA1.out.cell 1
  have z2 := HA1.out.cell 2
  simp only [List.getElem?_toArray, List.getElem?_cons_succ, List.getElem?_cons_zero] at z0 z1 z2
  have z2' := cell_kept z2 ((Below.refl w1.heap.size w1).alloc (Nat.le_refl _) (.cells #[.int .i64 7, .int .i64 X, .int .i64 Y, .int .i64 X, .int .i64 Y, .int .i64 0, .int .i64 0, .slice none 0 0, .int .i64 0] 59))
  go_wp2
  clear z0 z1 z2 z2'
  obtain ⟨B, hB⟩ : ∃ B, w1.heap.size = B := ⟨_, rfl⟩
  have HWB : Hid (w.heap.size < B) := by show _ < _; rw [← hB]; exact HA1.out.lt
  have HI0 : Hid (∃ LV, DcOw (w1.alloc (.cells #[.int .i64 7, .int .i64 X, .int .i64 Y, .int .i64 X, .int .i64 Y, .int .i64 0, .int .i64 0, .slice none 0 0, .int .i64 0] 59)) B (.slice (some ⟨w1.heap.size, 0, none⟩) 1 1) LV ∧ LV.map (·.1) = cellsTo d 0 ∧ ∀ p ∈ LV, p.2 = .slice none 0 0) := by
    refine ⟨[(gridD d, .slice none 0 0)], ?_, rfl, fun p hp => by rw [List.mem_singleton.1 hp]⟩
    obtain ⟨e1, e2, _⟩ := HX.out
    have e : gridD d = ⟨7, X, Y, X, Y, 0, 0, .empty, 0⟩ := by unfold gridD; rw [e1, e2]
    rw [e]
    exact dcOw_new w1 ⟨7, X, Y, X, Y, 0, 0, .empty, 0⟩ (.slice none 0 0) B (by rw [hB]; exact Nat.le_refl _)
  have HZ1 : Hid (B ≤ w1.heap.size) := by rw [hB]; exact Nat.le_refl _
  clear hB
  have HLE := hide (fun c => cellsTo_le d c)
  have HL5 := hide (fun c => cellD_le d c)
  go_loopw [3, 24] (fun out cx wr => ∃ (c : Nat) (LV : List (Dc × Value)), c ≤ n ∧ cx = .int .i64 c ∧ DcOw wr B out LV ∧ LV.map (·.1) = cellsTo d c ∧ (∀ p ∈ LV, p.2 = .slice none 0 0) ∧ Blk wr w.heap.size 30 #[.int .i64 X, .int .i64 Y, .slice a2 n c2, .slice a3 d.exits.length c3, .slice a4 d.targets.length c4] ∧ Below w.heap.size w wr ∧ B ≤ wr.heap.size) (fun _ cx _ => n - (intOf cx).toNat)
  case atStart =>
    obtain ⟨LV, h1, h2, h3⟩ := HI0.out
    exact ⟨0, LV, Nat.zero_le _, rfl, h1, h2, h3, HA1.out.alloc _, HB1.out.alloc HB1.out.size _, by rw [World.size_alloc]; have := HZ1.out; omega⟩
  case round =>
    clear HI0 HA1 HB1 HZ1
    obtain ⟨c, LV, hc, rfl, hown, hmap, hnil, hbk, hbl2, hBz⟩ := hrel
    obtain ⟨va, vc, rfl⟩ := hown.slice
    have HO := hide hown
    have HMP := hide hmap
    have HNL := hide hnil
    have HBK := hide hbk
    have HB := hide hbl2
    have hlen : LV.length ≤ 8001 := by
      have h1 := HLE.out c
      rw [← hmap, List.length_map] at h1
      omega
    have z0 := hbk.cell 0
    have z1 := hbk.cell 1
    have z2 := hbk.cell 2
    have z3 := hbk.cell 3
    have z4 := hbk.cell 4
    simp only [List.getElem?_toArray, List.getElem?_cons_succ, List.getElem?_cons_zero] at z0 z1 z2 z3 z4
    clear hown hmap hnil hbk
    rename World => wk
    by_cases hlt : c < n
    · have hlti : (c : Int) < (n : Int) := by omega
      go_wp2_with fail
      refine (HCD.out HOK.out c _ hbl2 hlt).mono ?_
      rintro e w2 ⟨v, LC, rfl, hoc, hmc, hnc, hb2⟩
      have HO2 := hide (HO.out.kept hb2)
      have HBK2 := hide (HBK.out.below hb2)
      have HB2 : Hid (Below w.heap.size w w2) := HB.out.trans (hb2.mono HB.out.size)
      have hBz2 : B ≤ w2.heap.size := Nat.le_trans hBz hb2.size
      have hlc : LC.length ≤ 5 := by
        have h1 := HL5.out c
        rw [← hmc, List.length_map] at h1
        exact h1
      have HMC := hide hmc
      have HNC := hide hnc
      clear hb2 hmc hnc z0 z1 z2 z3 z4
      rcases hoc.nilOr with ⟨rfl, rfl⟩ | ⟨gc, cc, rfl, hcells⟩
      · clear hoc
        obtain ⟨i0, hi, _, _, _⟩ := info_partsDc Tryd.infoDc
        go_wp2_with (at_builtin; refine wpList_append_own_none rfl _ _ 34 rfl B 59 i0 9 Tryd.underlying34 hi (.slice va LV.length vc) LV.length (dccs LV) rfl HO2.out rfl ?_)
        go_roundw
        case rel =>
          refine ⟨c + 1, LV, by omega, by go_num, HO2.out, ?_, HNL.out, HBK2.out, HB2.out, hBz2⟩
          show _ = cellsTo d c ++ cellD d c
          rw [HMP.out, ← HMC.out, List.map_nil, List.append_nil]
        case measure => simp [intOf]; omega
      · have HCL := hide hcells
        clear hoc hcells
        go_wp2_with (at_builtin; refine wp_appDc rfl _ _ rfl B _ LV rfl HO2.out gc 0 cc LC rfl (by intro j hj p hp i hi; rw [Nat.zero_add]; exact HCL.out j hj p hp i hi) (fun p hp => by rw [HNC.out p hp]; rfl) (by omega) hBz2 ?_; intro v' w4 l hl hown4 hg4 _; have HL := hl; have HO4 := hide hown4; have HB4 : Hid (Below B w2 w4) := HO2.out.below (Below.refl _ _) hBz2 hg4; clear hl hown4 hg4)
        go_roundw
        case rel =>
          refine ⟨c + 1, l, by omega, by go_num, HO4.out, ?_, ?_, (HB4.out.block _ HWB.out).trans HBK2.out, HB2.out.trans (HB4.out.mono (by have := HWB.out; omega)), by have := HB4.out.size; omega⟩
          · show _ = cellsTo d c ++ cellD d c
            rw [HL.out, List.map_append, HMP.out, HMC.out]
          · intro p hp
            rw [HL.out] at hp
            rcases List.mem_append.1 hp with h | h
            · exact HNL.out p h
            · exact HNC.out p h
        case measure => simp [intOf]; omega
    · have hge : ¬ (c : Int) < (n : Int) := by omega
      obtain rfl : c = n := by omega
      have HM0 : Hid (LV.map (·.1) = tgsTo d 0) := by
        show _ = cellsTo d d.cost.length
        rw [HMP.out, HX.out.2.2]
      have ht30 := HOK.out.tg.len
      have HTE := hide HOK.out.tg.each
      have HLT := hide (fun i => tgsTo_le d i)
      have HEM := hide (cellsTo_name d c)
      go_wp2
      go_loopw [3, 36] (fun out ix wr => ∃ (i : Nat) (LK : List (Dc × Value)), i ≤ d.targets.length ∧ ix = .int .i64 i ∧ DcOw wr B out LK ∧ LK.map (·.1) = tgsTo d i ∧ ((∀ p ∈ LK, NmOk wr p.2 p.1.name) ∧ (nbs LK).Nodup ∧ ∀ g ∈ nbs LK, w.heap.size ≤ g) ∧ Blk wr w.heap.size 30 #[.int .i64 X, .int .i64 Y, .slice a2 c c2, .slice a3 d.exits.length c3, .slice a4 d.targets.length c4] ∧ Below w.heap.size w wr ∧ B ≤ wr.heap.size) (fun _ ix _ => d.targets.length - (intOf ix).toNat)
      case atStart => exact ⟨0, LV, Nat.zero_le _, rfl, HO.out, HM0.out, ⟨fun p hp => by
          have he : p.1.name = .empty := HEM.out p.1 (by rw [← HMP.out]; exact List.mem_map.2 ⟨p, hp, rfl⟩)
          exact .inl ⟨HNL.out p hp, he⟩, by rw [nbs_nil HNL.out]; exact List.nodup_nil, fun g hg => by rw [nbs_nil HNL.out] at hg; cases hg⟩, HBK.out, HB.out, hBz⟩
      case round =>
        clear z0 z1 z2 z3 z4 HO HMP HNL HBK HB hbl2 hBz HM0 hge
        obtain ⟨i, LK, hi, rfl, hown, hmap, hnam, hbk, hbq, hBq⟩ := hrel
        obtain ⟨va, vc, rfl⟩ := hown.slice
        have HOQ := hide hown
        have HMQ := hide hmap
        have HNQ := hide hnam
        have HBKQ := hide hbk
        have HBQ := hide hbq
        clear hown hmap hnam hbk
        by_cases hlt : i < d.targets.length
        · have hlti : (i : Int) < (d.targets.length : Int) := by omega
          obtain rfl := ha4 (by omega)
          obtain ⟨v0, hnc, hnv⟩ := HC4.out _ hbq i hlt
          have htk := HTE.out i hlt
          obtain ⟨t, ht⟩ : ∃ t, d.targets.getD i .zero = t := ⟨_, rfl⟩
          rw [ht] at hnc hnv htk
          have HTD := hide ht
          obtain ⟨g0, g1, g2⟩ := hnc
          obtain ⟨nb, no, nc, hv0, hnm⟩ : ∃ nb no nc, v0 = .slice (some ⟨nb, no, none⟩) t.name.size nc ∧ ∀ j, j < t.name.size → wr.cell? ⟨nb, no + j, none⟩ = some (bts t.name j) := by
            obtain ⟨a, b, o, c, h1, h2, h3⟩ := hnv.name
            have := h2 (by have := htk.s0; omega)
            subst this
            exact ⟨b, o, c, h1, h3⟩
          subst hv0
          obtain ⟨m, hm⟩ : ∃ m : Nat, t.cell = m := ⟨t.cell.toNat, by have := htk.c0; omega⟩
          have hmb : m ≤ 100000 := by
            have h1 := htk.c1
            have h2 := HOK.out.cl
            have h3 := HX.out.2.2
            omega
          rw [hm] at g2
          have HCM := hide hm
          have hkd0 := htk.k0
          have hkd1 := htk.k1
          have hns0 := htk.s0
          have hns1 := htk.s1
          have hwr14 : IntKind.i64.wrap (14 + t.kind) = 14 + t.kind := by rw [IntKind.wrap_i64]; omega
          have HDA := hide (fun w2 => declAt_any X (14 + t.kind) m w2 hX0 hmb)
          have HNM := hide hnm
          obtain ⟨Wt, hWt⟩ : ∃ W, wr.alloc (.cells #[.slice (some ⟨nb, no, none⟩) t.name.size nc, .int .i64 t.kind, .int .i64 m] 50) = W := ⟨_, rfl⟩
          have HBt : Hid (Below wr.heap.size wr Wt) := by rw [← hWt]; exact (Below.refl _ _).alloc (Nat.le_refl _) _
          have HAt : Hid (Blk Wt wr.heap.size 50 #[.slice (some ⟨nb, no, none⟩) t.name.size nc, .int .i64 t.kind, .int .i64 m]) := by rw [← hWt]; exact Blk.new _ _ _
          have t1 := HAt.out.cell 1
          have t2 := HAt.out.cell 2
          have z0 := (HBKQ.out.below HBt.out).cell 0
          simp only [List.getElem?_toArray, List.getElem?_cons_succ, List.getElem?_cons_zero] at t1 t2 z0
          have HR := hide (fun w5 (hb5 : Below Wt.heap.size Wt w5) => (⟨HAt.out.below hb5, HBt.out.trans (hb5.mono HBt.out.size)⟩ : Blk w5 _ _ _ ∧ Below wr.heap.size wr w5))
          clear ht hnv hm hnm hkd0 hkd1 htk
          have hlk : LK.length ≤ 9000 := by
            have h1 := HLT.out i
            rw [← HMQ.out, List.length_map, HX.out.2.2] at h1
            omega
          go_wp2_with (first
            | (go_at_call 38; refine (HDA.out _).mono ?_; rintro e w5 ⟨rfl, hb5⟩; obtain ⟨W6, hW6⟩ : ∃ W, w5.alloc (.cells #[.int .i64 (14 + t.kind), .int .i64 ((m : Int) % X), .int .i64 ((m : Int) / X), .int .i64 ((m : Int) % X), .int .i64 ((m : Int) / X), .int .i64 0, .int .i64 0, .slice none 0 0, .int .i64 0] 59) = W := ⟨_, rfl⟩; have HB6 : Hid (Below Wt.heap.size Wt W6) := (by rw [← hW6]; exact hb5.alloc hb5.size _); have HA6 : Hid (Blk W6 w5.heap.size 59 #[.int .i64 (14 + t.kind), .int .i64 ((m : Int) % X), .int .i64 ((m : Int) / X), .int .i64 ((m : Int) % X), .int .i64 ((m : Int) / X), .int .i64 0, .int .i64 0, .slice none 0 0, .int .i64 0]) := (by rw [← hW6]; exact Blk.new _ _ _); have t0 := ((HR.out w5 hb5).1.alloc (.cells #[.int .i64 (14 + t.kind), .int .i64 ((m : Int) % X), .int .i64 ((m : Int) / X), .int .i64 ((m : Int) % X), .int .i64 ((m : Int) / X), .int .i64 0, .int .i64 0, .slice none 0 0, .int .i64 0] 59)).cell 0; simp only [List.getElem?_toArray, List.getElem?_cons_zero] at t0; have HB5 := hide hb5; have HW6 := hide hW6; clear hb5 t1 t2 z0 hW6)
            | (go_at_call 39; rw [HW6.out]; refine (clone_any nb no t.name.size nc t.name rfl (by omega) (by omega) W6 (fun j hj => cell_kept (HNM.out j hj) (HR.out W6 HB6.out).2)).mono ?_; rintro e w7 ⟨g, cap, rfl, hg, hnm7, hb7⟩; have HA7 := hide (HA6.out.below hb7); have x7 := HA7.out.cell 7; have x7f := HA7.out.frozen 7; simp only [List.getElem?_toArray, List.getElem?_cons_succ, List.getElem?_cons_zero] at x7; obtain ⟨W8, hW8⟩ : ∃ W, w7.setCell ⟨w5.heap.size, 7, none⟩ (.slice (some ⟨g, 0, none⟩) t.name.size cap) = W := ⟨_, rfl⟩; have HA8 : Hid (Blk W8 w5.heap.size 59 #[.int .i64 (14 + t.kind), .int .i64 ((m : Int) % X), .int .i64 ((m : Int) / X), .int .i64 ((m : Int) % X), .int .i64 ((m : Int) / X), .int .i64 0, .int .i64 0, .slice (some ⟨g, 0, none⟩) t.name.size cap, .int .i64 0]) := (by rw [← hW8]; have h := HA7.out.set 7 (.slice (some ⟨g, 0, none⟩) t.name.size cap); simp only [List.setIfInBounds_toArray, List.set_cons_zero, List.set_cons_succ] at h; exact h); have HN7 := hide hnm7; have HB7 := hide hb7; have HG7 := hide hg; have HW8 := hide hW8; have x0 := HA8.out.cell 0; have x1 := HA8.out.cell 1; have x2 := HA8.out.cell 2; have x3 := HA8.out.cell 3; have x4 := HA8.out.cell 4; have x5 := HA8.out.cell 5; have x6 := HA8.out.cell 6; have y7 := HA8.out.cell 7; have x8 := HA8.out.cell 8; simp only [List.getElem?_toArray, List.getElem?_cons_succ, List.getElem?_cons_zero] at x0 x1 x2 x3 x4 x5 x6 y7 x8; have HBW : Hid (Below wr.heap.size wr W8) := (by rw [← hW8]; have h1 : Below wr.heap.size wr w7 := (HR.out W6 HB6.out).2.trans (hb7.mono (HR.out W6 HB6.out).2.size); exact h1.setCell (p := ⟨w5.heap.size, 7, none⟩) (by show wr.heap.size ≤ w5.heap.size; exact (HR.out w5 HB5.out).2.size) _); have HO8 := hide (HOQ.out.kept HBW.out); have hBz8 : B ≤ W8.heap.size := Nat.le_trans hBq HBW.out.size; clear hnm7 hb7 hg t0)
            | (at_builtin; refine wp_app1Dc rfl _ _ rfl B _ LK rfl HO8.out ⟨14 + t.kind, (m : Int) % X, (m : Int) / X, (m : Int) % X, (m : Int) / X, 0, 0, t.name, 0⟩ (.slice (some ⟨g, 0, none⟩) t.name.size cap) _ rfl rfl rfl (by omega) hBz8 ?_; intro v9 w9 l9 hl9 hown9 hb9 hk9 _; have HL9 := hl9; have HO9 := hide hown9; have HB9 := hide hb9; have HK9 := hk9; clear hl9 hown9 hb9 hk9))
          have HN8 : Hid (NmOk W8 (.slice (some ⟨g, 0, none⟩) t.name.size cap) t.name) := by
            rw [← HW8.out]
            exact HN7.out.keep (fun g' cur hg' => hg'.other _ _ (fun e => by
              subst e
              exact absurd (blk_ty hg' HA7.out) (by decide)))
          go_roundw
          case rel =>
            refine ⟨i + 1, l9, by omega, by go_num, HO9.out, ?_, ⟨?_, ?_, ?_⟩, (HB9.out.block _ HWB.out).trans (HBKQ.out.below HBW.out), (HBQ.out.trans (HBW.out.mono HBQ.out.size)).trans (HB9.out.mono (by have := HWB.out; omega)), by have := HB9.out.size; omega⟩
            · show _ = tgsTo d i ++ [tgD d (d.targets.getD i .zero)]
              rw [HL9.out, List.map_append, HMQ.out, HTD.out]
              unfold tgD dAt
              rw [HX.out.1, HCM.out]
              rfl
            · intro p hp
              rw [HL9.out] at hp
              rcases List.mem_append.1 hp with h | h
              · exact ((HNQ.out.1 p h).keep (fun g' cur hg' => hg'.below HBW.out)).keep (fun g' cur hg' => HK9.out g' 5 cur (by decide) hg')
              · rw [List.mem_singleton.1 h]
                exact HN8.out.keep (fun g' cur hg' => HK9.out g' 5 cur (by decide) hg')
            · rw [HL9.out, nbs_append]
              refine List.nodup_append.2 ⟨HNQ.out.2.1, ?_, fun p hp q hq e => ?_⟩
              · rw [nbs_one (by show 0 < t.name.size; omega)]
                simp
              · rw [nbs_one (by show 0 < t.name.size; omega)] at hq
                rw [List.mem_singleton.1 hq] at e
                subst e
                obtain ⟨cur, hb⟩ := nbs_blk HNQ.out.1 p hp
                have h1 := hb.lt
                have h2 := (HR.out W6 HB6.out).2.size
                have h3 := HG7.out
                omega
            · intro q hq
              rw [HL9.out, nbs_append] at hq
              rcases List.mem_append.1 hq with h | h
              · exact HNQ.out.2.2 q h
              · rw [nbs_one (by show 0 < t.name.size; omega)] at h
                rw [List.mem_singleton.1 h]
                have h1 := HBQ.out.size
                have h2 := (HR.out W6 HB6.out).2.size
                have h3 := HG7.out
                omega
          case measure => simp [intOf]; omega
        · have hge : ¬ (i : Int) < (d.targets.length : Int) := by omega
          obtain rfl : i = d.targets.length := by omega
          clear hbq
          go_wp2
          go_ret
          obtain ⟨bl, h1, h2⟩ := dcSF_of (w0 := w) HOQ.out (by have := HWB.out; omega) HNQ.out.1 HNQ.out.2.1 HNQ.out.2.2
          first
            | refine ⟨_, bl, rfl, ?_, h2, HBQ.out⟩
            | refine ⟨_, rfl, bl, ?_, h2, HBQ.out⟩
          rw [HR.out, ← HMQ.out]
          exact h1
end Go.Proofs.YtaapababeecmeaaDoor

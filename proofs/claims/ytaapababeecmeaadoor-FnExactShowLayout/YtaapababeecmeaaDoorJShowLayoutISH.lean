/-
  The walk of impl.ShowLayout.
-/
import Derived.Test.YtaapababeecmeaaDoorJShowLayoutSH2
import Derived.Test.YtaapababeecmeaaDoorJShowLayoutIL5
import Derived.BigQuiet
import Derived.Deep.QuietTactic
import Derived.Deep.RegionHeld3
namespace Go.Proofs.YtaapababeecmeaaDoor
open Go.RowKit

theorem targetLine_any (d : Ly) (t : Tg) (v0 : Value) (n X : Int) (w : World) (ht : TgOk n t) (hX : d.w = X) (hX0 : 1 ≤ X) (hp : t.cell.toNat % d.w.toNat < 40 ∧ t.cell.toNat / d.w.toNat < 40)
    (hT : Lib.Utf8Tabs 4 5 w) (hdb : w.cell? ⟨7, 15, none⟩ = some (.int .u8 4)) (hwd : StW w) (hv : BS w v0 t.name) :
    Calls Tryd.prog 47 #[.agg #[v0, .int .i64 t.kind, .int .i64 t.cell], .int .i64 X] w fun e w' => e = .returned (.string (byt (lineL d t))) ∧ Below w.heap.size w w' := by
  have h0 := ht.s0
  have h1 := ht.s1
  have h2 := ht.k0
  have h3 := ht.k1
  have h4 := ht.c0
  obtain ⟨a, b, o, c, rfl, ha, hc⟩ := hv
  obtain rfl := ha (by omega)
  obtain ⟨N, hN⟩ : ∃ N : Nat, X = N := ⟨X.toNat, by omega⟩
  obtain ⟨m, hm⟩ : ∃ m : Nat, t.cell = m := ⟨t.cell.toNat, by omega⟩
  have e1 : t.cell.tmod X = ((t.cell.toNat % d.w.toNat : Nat) : Int) := by
    rw [hX, hN, hm, Int.toNat_natCast, Int.toNat_natCast]; rfl
  have e2 : t.cell.tdiv X = ((t.cell.toNat / d.w.toNat : Nat) : Int) := by
    rw [hX, hN, hm, Int.toNat_natCast, Int.toNat_natCast]; rfl
  rcases (show t.kind = 0 ∨ t.kind = 1 by omega) with hk | hk
  · rw [hk]
    refine (targetLine_station t.name b o c t.cell X _ _ w h1 hX0 e1 e2 hp.1 hp.2 hT hdb hwd hc).mono ?_
    rintro e w' ⟨rfl, hb⟩
    refine ⟨?_, hb⟩
    unfold lineL tailL wordL
    rw [if_pos hk]
    simp only [List.append_assoc, List.cons_append, List.nil_append]
  · rw [hk]
    refine (targetLine_charger t.name b o c t.cell X _ _ w h1 hX0 e1 e2 hp.1 hp.2 hT hdb hwd hc).mono ?_
    rintro e w' ⟨rfl, hb⟩
    refine ⟨?_, hb⟩
    unfold lineL tailL wordL
    rw [if_neg (by omega)]
    simp only [List.append_assoc, List.cons_append, List.nil_append]

set_option maxHeartbeats 8000000 in
set_option maxRecDepth 1000000 in
theorem implSH_any (d : Ly) (v2 v3 v4 : Value) (w : World) (hb : LyB d) (hd : LyL d) (hmv : MvOk w) (hT : Lib.Utf8Tabs 4 5 w) (hdb : w.cell? ⟨7, 15, none⟩ = some (.int .u8 4)) (hwd : StW w) (h : LyV w d v2 v3 v4) :
    Calls Tryd.prog 18 #[lyagg d v2 v3 v4] w fun e w' => ∃ v bl, e = .returned v ∧ BF w' v (byt (shL d)) bl ∧ Fr w w' bl ∧ Below w.heap.size w w' := by
  have HV := hide h
  have HVL := hide (fun w2 (hb2 : Below w.heap.size w w2) => implLayout_any d v2 v3 v4 w2 hb hd (hmv.below hb2) (Utf8Tabs_below hT hb2) (h.below hb2))
  have HTL := hide (fun (t : Tg) (v0 : Value) (n X : Int) w2 (hb2 : Below w.heap.size w w2) (ht : TgOk n t) hX hX0 hp hv => targetLine_any d t v0 n X w2 ht hX hX0 hp (Utf8Tabs_below hT hb2) (cell_kept hdb hb2) (hwd.below hb2) hv)
  obtain ⟨a2, b2, o2, c2, rfl, ha2, hc2⟩ := h.cost
  obtain ⟨a3, c3, rfl⟩ := h.exits.slice
  obtain ⟨a4, b4, o4, c4, rfl, ha4, hc4⟩ := h.targets
  have HC2 : Hid (∀ w2, Below w.heap.size w w2 → ∀ j, j < d.cost.length → w2.cell? ⟨b2, o2 + j, none⟩ = some (.int .i64 (d.cost.getD j 0))) := fun w2 hb2 j hj => cell_kept (hc2 j hj) hb2
  have HC4 : Hid (∀ w2, Below w.heap.size w w2 → ∀ j, j < d.targets.length → ∃ v0, TgC w2 b4 (o4 + j * 3) (d.targets.getD j .zero) v0 ∧ TgV w2 (d.targets.getD j .zero) v0) := fun w2 hb2 j hj => by
    obtain ⟨v0, h1, h2⟩ := hc4 j hj
    exact ⟨v0, h1.below hb2, h2.below hb2⟩
  clear h hc2 hc4 hmv hT hdb hwd
  obtain ⟨D, hD⟩ : ∃ D, d = D := ⟨_, rfl⟩
  have HD := hide hD
  unfold lyagg at HVL ⊢
  rw [hD] at HTL
  obtain ⟨X, Y, C, E, T⟩ := d
  simp only at HV HVL ha2 ha4 HC2 HC4 ⊢
  have hbl := hb.cost
  simp only at hbl
  rw [HD.out] at ⊢
  clear hb hD hd
  obtain ⟨W0, hW0⟩ : ∃ W, w.alloc (.cells #[.int .i64 X, .int .i64 Y, .slice a2 C.length c2, .slice a3 E.length c3, .slice a4 T.length c4] 30) = W := ⟨_, rfl⟩
  have hB0 : Below w.heap.size w W0 := by rw [← hW0]; exact (Below.refl _ _).alloc (Nat.le_refl _) _
  have hA0 : Blk W0 w.heap.size 30 #[.int .i64 X, .int .i64 Y, .slice a2 C.length c2, .slice a3 E.length c3, .slice a4 T.length c4] := by rw [← hW0]; exact Blk.new _ _ _
  have HB0 := hide hB0
  have HA0 := hide hA0
  have HW := hide hW0
  clear hB0 hA0 hW0
  go_enter Tryd.func18, Tryd.ntmps18
  go_wp2_with fail
  rw [HW.out]
  refine (HVL.out _ HB0.out).mono ?_
  rintro e w1 ⟨⟨b1, rfl, hi1⟩, hb1⟩
  have HA1 := hide (HA0.out.below hb1)
  have HB1 : Hid (Below w.heap.size w w1) := HB0.out.trans (hb1.mono HB0.out.size)
  rw [HD.out] at hi1
  clear hb1 HA0 HB0 HW HVL
  cases b1 with
  | false =>
    have HR : Hid (shL D = []) := by
      show _ = _
      unfold shL
      exact if_neg (fun h => by have := hi1.2 h; cases this)
    clear hi1
    go_wp2
    go_ret
    refine ⟨_, [], rfl, ?_, ⟨List.nodup_nil, (fun x hx => nomatch hx), (fun x hx => nomatch hx)⟩, HB1.out⟩
    rw [HR.out]
    exact ⟨none, 0, 0, 0, rfl, (fun h => absurd h (by decide)), rfl, fun j hj => absurd hj (Nat.not_lt_zero _)⟩
  | true =>
  have HOK := hide (hi1.1 rfl)
  have HR : Hid (shL D = linesTo D D.targets.length) := by
    show _ = _
    unfold shL
    exact if_pos HOK.out
  have HXY : Hid (1 ≤ X ∧ X ≤ 40 ∧ 1 ≤ Y ∧ Y ≤ 40 ∧ (C.length : Int) = X * Y) := by
    have := HOK.out
    rw [← HD.out] at this
    exact ⟨this.w0, this.w1, this.h0, this.h1, this.cl⟩
  have HDF : Hid (D.w = X ∧ D.h = Y ∧ D.cost = C ∧ D.targets = T) := by rw [← HD.out]; exact ⟨rfl, rfl, rfl, rfl⟩
  obtain ⟨hX0, hX1, hY0, hY1, hCl⟩ := HXY.out
  have hn1 : X * Y ≤ 1600 := by
    have : X * Y ≤ 40 * 40 := Int.mul_le_mul (by omega) (by omega) (by omega) (by omega)
    omega
  obtain ⟨n, hn⟩ : ∃ n : Nat, C.length = n := ⟨_, rfl⟩
  have hnb : n ≤ 1600 := by omega
  have hCn : n = C.length := hn.symm
  have HN := hide hn
  have HXYN : Hid (X * Y = (n : Int)) := by show _ = _; omega
  clear hi1 hn1 hCl hn hCn
  have z0 := HA1.out.cell 0
  have z1 := HA1.out.cell 1
  have z2 := HA1.out.cell 2
  have z4 := HA1.out.cell 4
  simp only [List.getElem?_toArray, List.getElem?_cons_succ, List.getElem?_cons_zero] at z0 z1 z2 z4
  rw [HN.out] at z2
  have hmk := run_make_row' (P := Tryd.prog) 39 5 (.int .u8 0) 1 Tryd.underlying39 Tryd.info5 rfl .i64 .i64 n (by omega) (by omega) w1
  have HR1 := hide (World.rowIs_made w1 (.int .u8 0) n 5)
  obtain ⟨W1, hW1⟩ : ∃ W, w1.alloc (.cells (madeCells #[.int .u8 0] n) 5) = W := ⟨_, rfl⟩
  have hbW : Below w1.heap.size w1 W1 := by rw [← hW1]; exact (Below.refl _ _).alloc (Nat.le_refl _) _
  have hSz : W1.heap.size = w1.heap.size + 1 := by rw [← hW1, World.size_alloc]
  obtain ⟨B, hB⟩ : ∃ B, w1.heap.size = B := ⟨_, rfl⟩
  have HBW : Hid (w.heap.size < B) := by show _ < _; rw [← hB]; exact HA1.out.lt
  have HBX : Hid (Below w.heap.size w W1) := HB1.out.trans (hbW.mono HB1.out.size)
  have HAX := hide (HA1.out.below hbW)
  have HSZ : Hid (W1.heap.size = B + 1) := by show _ = _; rw [hSz, hB]
  rw [hW1, hB] at hmk HR1
  have y2 := cell_kept z2 hbW
  clear hW1 hbW hSz HA1 HB1 hB
  rw [HN.out] at HAX
  have HCN : Hid (∀ w2, Below w.heap.size w w2 → ∀ j, j < n → w2.cell? ⟨b2, o2 + j, none⟩ = some (.int .i64 (D.cost.getD j 0))) := fun w2 hb2 j hj => by
    have := HC2.out w2 hb2 j (by have := HN.out; omega)
    rw [HDF.out.2.2.1]; exact this
  have ha2 : 0 < n → a2 = some ⟨b2, o2, none⟩ := fun h => ha2 (by have := HN.out; omega)
  have HCO : Hid (∀ j, j < n → 0 ≤ D.cost.getD j 0 ∧ D.cost.getD j 0 ≤ 9) := fun j hj => by
    have h1 := HOK.out.cells j (by rw [HDF.out.2.2.1]; have := HN.out; omega)
    exact ⟨h1.c0, h1.c1⟩
  clear HC2 z0 z1 z4 hbl
  go_wp2
  clear hmk z2 y2
  go_loopw [22] (fun ix wr => ∃ k : Nat, k ≤ n ∧ ix = .int .i64 k ∧ wr.rowIs B 5 n (fun j => if j < k then .int .u8 (csg (D.cost.getD j 0) : Nat) else .int .u8 0) ∧ Blk wr w.heap.size 30 #[.int .i64 X, .int .i64 Y, .slice a2 n c2, .slice a3 E.length c3, .slice a4 T.length c4] ∧ Below w.heap.size w wr ∧ wr.heap.size = B + 1) (fun ix _ => n - (intOf ix).toNat)
  case atStart => exact ⟨0, Nat.zero_le _, rfl, HR1.out.congr (fun j _ => by simp), HAX.out, HBX.out, HSZ.out⟩
  case round =>
    clear HR1 HAX HBX HSZ
    obtain ⟨k, hk, rfl, hrow, hbk, hbl, hsz⟩ := hrel
    have HROW := hide hrow
    have HBK := hide hbk
    have HB := hide hbl
    have HS := hide hsz
    clear hsz
    by_cases hlt : k < n
    · have hlti : (k : Int) < (n : Int) := by omega
      obtain rfl := ha2 (by omega)
      have f2 := HCN.out _ hbl k hlt
      obtain ⟨hg0, hg1⟩ := HCO.out k hlt
      obtain ⟨g, hg⟩ : ∃ g, D.cost.getD k 0 = g := ⟨_, rfl⟩
      rw [hg] at f2 hg0 hg1
      have HG := hide hg
      have q1 : wr.cell? ⟨B, k, none⟩ = some (.int .u8 0) := by rw [hrow.cell hlt]; simp
      have q2 : wr.frozen? ⟨B, k, none⟩ = false := hrow.frozen k
      have HCS := hide (fun w2 => costSign_any g w2 hg0 hg1)
      have HCL : Hid (csg g < 256) := by
        show _ < _
        unfold csg
        split
        · decide
        · split
          · decide
          · omega
      obtain ⟨q, hq⟩ : ∃ q : Nat, csg g = q := ⟨_, rfl⟩
      rw [hq] at HCS HCL
      have HQ := hide hq
      have hq256 : (q : Int) < 256 := by have := HCL.out; omega
      clear hrow hbk hbl hg hq hg0 hg1
      go_wp2_with fail
      refine (HCS.out _).mono ?_
      rintro e w5 ⟨rfl, rfl⟩
      go_wp2
      go_roundw
      case rel =>
        refine ⟨k + 1, by omega, by go_num, (HROW.out.set k _).congr (fun j _ => ?_), HBK.out.other _ _ (by have := HBW.out; omega), HB.out.setCell (Nat.le_of_lt HBW.out) _, by simp; exact HS.out⟩
        by_cases e : j = k
        · subst e; rw [if_pos rfl, if_pos (by omega), HG.out, HQ.out]
        · rw [if_neg e]
          by_cases hj : j < k
          · rw [if_pos hj, if_pos (by omega)]
          · rw [if_neg hj, if_neg (by omega)]
      case measure => simp [intOf]; omega
    · have hge : ¬ (k : Int) < (n : Int) := by omega
      have HROW2 : Hid (wr.rowIs B 5 n (fun j => .int .u8 (sgTo D j 0 : Nat))) := HROW.out.congr (fun j hj => by rw [if_pos (by omega)]; rfl)
      have z4 := hbk.cell 4
      simp only [List.getElem?_toArray, List.getElem?_cons_succ, List.getElem?_cons_zero] at z4
      clear hrow hbk hbl HROW HCN HCO
      go_wp2
      clear z4 hge
      have HTG : Hid (∀ k, k < T.length → TgOk (n : Int) (T.getD k .zero)) := fun k hk => by
        have h1 := HOK.out.tg.each k (by rw [HDF.out.2.2.2]; exact hk)
        rw [HDF.out.1, HDF.out.2.1, HXYN.out, HDF.out.2.2.2] at h1
        exact h1
      have hT30 : T.length ≤ 30 := by have := HOK.out.tg.len; rw [HDF.out.2.2.2] at this; exact this
      go_loopw [36] (fun ix wr => ∃ k : Nat, k ≤ T.length ∧ ix = .int .i64 k ∧ wr.rowIs B 5 n (fun j => .int .u8 (sgTo D j k : Nat)) ∧ Blk wr w.heap.size 30 #[.int .i64 X, .int .i64 Y, .slice a2 n c2, .slice a3 E.length c3, .slice a4 T.length c4] ∧ Below w.heap.size w wr) (fun ix _ => T.length - (intOf ix).toNat)
      case atStart => exact ⟨0, Nat.zero_le _, rfl, HROW2.out, HBK.out, HB.out⟩
      case round =>
        clear HROW2 HBK HB HS
        obtain ⟨k, hk, rfl, hrow, hbk, hbl⟩ := hrel
        have HBK := hide hbk
        have HB := hide hbl
        by_cases hlt : k < T.length
        · have hlti : (k : Int) < (T.length : Int) := by omega
          obtain rfl := ha4 (by omega)
          have hto := HTG.out k hlt
          obtain ⟨v0, hnc, hnv⟩ := HC4.out wr hbl k hlt
          obtain ⟨t, ht⟩ : ∃ t, T.getD k .zero = t := ⟨_, rfl⟩
          rw [ht] at hnc hnv hto
          have HTD := hide ht
          have hc0 := hto.c0
          have hc1 := hto.c1
          obtain ⟨m, hm⟩ : ∃ m : Nat, t.cell = m := ⟨t.cell.toNat, by omega⟩
          rw [hm] at hc1
          have hmn : m < n := by omega
          obtain ⟨g0, g1, g2⟩ := hnc
          obtain ⟨av, cv, hv⟩ := hnv.name.slice
          subst hv
          rw [hm] at g2
          have HM := hide hm
          obtain ⟨W1, hW1⟩ : ∃ W, wr.alloc (.cells #[.slice av t.name.size cv, .int .i64 t.kind, .int .i64 (m : Nat)] 50) = W := ⟨_, rfl⟩
          have hb1 : Below wr.heap.size wr W1 := by rw [← hW1]; exact (Below.refl _ _).alloc (Nat.le_refl _) _
          have hBk : Blk W1 wr.heap.size 50 #[.slice av t.name.size cv, .int .i64 t.kind, .int .i64 (m : Nat)] := by rw [← hW1]; exact Blk.new _ _ _
          have hr1 := row_kept hrow hb1
          have HROW : Hid (W1.drew.rowIs B 5 n (fun j => .int .u8 (sgTo D j k : Nat))) := hr1
          have HBK1 := hide (hbk.below hb1.drew)
          have HB1 : Hid (Below w.heap.size w W1.drew) := hbl.trans (hb1.drew.mono hbl.size)
          have hBne : B ≠ wr.heap.size := by
            have := World.block_lt_of_cell? _ _ (hrow.cell hmn)
            have h2 : B < wr.heap.size := this
            omega
          have hmni : (m : Int) < (n : Int) := by omega
          have hmx : Tryd.prog.follows .mixedOrders = true := by kernel_rfl
          have q1 := hr1.cell hmn
          have q2 := hr1.frozen m
          have x1 := hBk.cell 1
          have x2 := hBk.cell 2
          simp only [List.getElem?_toArray, List.getElem?_cons_succ, List.getElem?_cons_zero] at x1 x2
          have HTS := hide (fun w2 => targetSign_any t.kind w2)
          obtain ⟨q, hq⟩ : ∃ q : Nat, tsg t.kind = q := ⟨_, rfl⟩
          rw [hq] at HTS
          have HQ := hide hq
          obtain ⟨q0, hq0⟩ : ∃ q : Nat, sgTo D m k = q := ⟨_, rfl⟩
          rw [hq0] at q1
          clear hrow hbk hbl hq hq0 hto hnv ht hm hc0 hc1 hb1 hBk hr1
          go_wp2_with fail
          clear hW1
          go_region_held3 (fun w' => w'.cell? ⟨wr.heap.size, 1, none⟩ = some (.int .i64 t.kind) ∧ w'.cell? ⟨wr.heap.size, 2, none⟩ = some (.int .i64 (m : Nat))) (go_keep) (first
            | (go_at_call 46; refine (HTS.out _).mono ?_; rintro e w5 ⟨rfl, rfl⟩))
          go_wp2
          go_roundw
          case rel =>
            refine ⟨k + 1, by omega, by go_num, (HROW.out.set m _).congr (fun j _ => ?_), HBK1.out.other _ _ (by have := HBW.out; omega), HB1.out.setCell (Nat.le_of_lt HBW.out) _⟩
            show (if j = m then _ else _) = Value.int .u8 ((if (D.targets.getD k .zero).cell = (j : Int) then tsg (D.targets.getD k .zero).kind else sgTo D j k : Nat) : Int)
            rw [HDF.out.2.2.2, HTD.out, HM.out]
            by_cases e : j = m
            · subst e; rw [if_pos rfl, if_pos rfl, HQ.out]
            · rw [if_neg e, if_neg (by omega)]
          case measure => simp [intOf]; omega
        · have hge : ¬ (k : Int) < (T.length : Int) := by omega
          have HROW : Hid (wr.rowIs B 5 n (fun j => .int .u8 (sg D j : Nat))) := by
            have e : k = D.targets.length := by rw [HDF.out.2.2.2]; omega
            rw [e] at hrow; exact hrow
          have z1 := hbk.cell 1
          simp only [List.getElem?_toArray, List.getElem?_cons_succ, List.getElem?_cons_zero] at z1
          clear hrow hbk hbl
          go_wp2
          clear z1 hge
          obtain ⟨WG, hWG⟩ : ∃ W, wr = W := ⟨_, rfl⟩
          rw [hWG] at HROW HBK HB ⊢
          clear hWG
          obtain ⟨G, hG⟩ : ∃ G, WG.heap.size = G := ⟨_, rfl⟩
          have HG := hide hG
          have HWG : Hid (w.heap.size ≤ G) := by show _ ≤ _; rw [← hG]; exact HB.out.size
          clear hG
          obtain ⟨Xn, hXn⟩ : ∃ Xn : Nat, X = Xn := ⟨X.toNat, by omega⟩
          obtain ⟨Yn, hYn⟩ : ∃ Yn : Nat, Y = Yn := ⟨Y.toNat, by omega⟩
          have HXn := hide hXn
          have HYn := hide hYn
          have HDX : Hid (D.w.toNat = Xn) := by show _ = _; rw [HDF.out.1, hXn, Int.toNat_natCast]
          have HNM : Hid (n = Yn * Xn) := by
            show _ = _
            have h1 := HXYN.out
            rw [hXn, hYn, ← Int.natCast_mul] at h1
            have h2 : Xn * Yn = n := by omega
            rw [← h2, Nat.mul_comm]
          have HX0 : Hid (0 < Xn) := by show 0 < Xn; omega
          have hYnb : Yn ≤ 40 := by omega
          have hXnb : Xn ≤ 40 := by omega
          have HGE : Hid (gridTo D (D.w * D.h).toNat = gridTo D (Yn * Xn)) := by
            show _ = _
            rw [HDF.out.1, HDF.out.2.1, HXYN.out, Int.toNat_natCast, ← HNM.out]
          clear hXn hYn
          go_loopw [8, 50] (fun out ix wr => ∃ r : Nat, r ≤ Yn ∧ ix = .int .i64 r ∧ wr.ownsRow G 5 1 out (gridTo D (r * Xn)).length (cv (gridTo D (r * Xn))) ∧ Below G WG wr) (fun _ ix _ => Yn - (intOf ix).toNat)
          case atStart =>
            refine ⟨0, Nat.zero_le _, rfl, ?_, ?_⟩
            · rw [Nat.zero_mul]; exact ⟨rfl, Or.inl ⟨rfl, rfl⟩⟩
            · exact Below.refl _ _
          case round =>
            obtain ⟨r, hr, rfl, hown, hbg⟩ := hrel
            have hbg' : Below WG.heap.size WG wr := by rw [HG.out]; exact hbg
            have hGz : G ≤ wr.heap.size := by have := hbg'.size; rw [HG.out] at this; exact this
            have HBG := hide hbg
            have hbk := HBK.out.below hbg'
            by_cases hlt : r < Yn
            · have hlti : (r : Int) < Y := by have := HYn.out; omega
              obtain ⟨p, hp⟩ : ∃ p, r * Xn = p := ⟨_, rfl⟩
              have hpq : p + Xn ≤ n := by
                rw [← hp, HNM.out]
                have : (r + 1) * Xn ≤ Yn * Xn := Nat.mul_le_mul_right _ hlt
                rw [Nat.add_mul, Nat.one_mul] at this
                exact this
              obtain ⟨q, hq⟩ : ∃ q, p + Xn = q := ⟨_, rfl⟩
              rw [hq] at hpq
              have hpq1 : p ≤ q := by omega
              have a1 : IntKind.i64.wrap ((r : Int) * X) = (p : Int) := by
                have e : (r : Int) * X = (p : Int) := by rw [HXn.out, ← Int.natCast_mul, hp]
                rw [e, IntKind.wrap_i64]; omega
              have a2 : IntKind.i64.wrap (((r : Int) + 1) * X) = (q : Int) := by
                have e : ((r : Int) + 1) * X = (q : Int) := by
                  have e1 : (r : Int) * X = (p : Int) := by rw [HXn.out, ← Int.natCast_mul, hp]
                  rw [Int.add_mul, Int.one_mul, e1, HXn.out]; omega
                rw [e, IntKind.wrap_i64]; omega
              have a0 : IntKind.i64.wrap ((r : Int) + 1) = (r : Int) + 1 := by rw [IntKind.wrap_i64]; omega
              have hpqi : (p : Int) ≤ (q : Int) := by omega
              have hqni : (q : Int) ≤ (n : Int) := by omega
              have hlq : q - p = Xn := by omega
              have hpn : p < n := by have := HX0.out; omega
              have hpni : (p : Int) < (n : Int) := by omega
              have hpne : ¬ n = p := by omega
              have hpne2 : ¬ p = n := by omega
              have HLQ := hide hlq
              have HP := hide hp
              rw [hp] at hown
              have HOW := hide hown
              have HRW := hide (row_kept HROW.out hbg')
              have hle := gridTo_le D p
              have HRL : Hid (gridTo D ((r + 1) * Xn) = gridTo D p ++ rowL D p Xn ++ [10]) := by
                have := gridTo_row D Xn r HDX.out HX0.out
                rw [hp] at this; exact this
              have z0 := hbk.cell 0
              simp only [List.getElem?_toArray, List.getElem?_cons_zero] at z0
              clear hown hbg hbg' hbk hp hq hlq
              go_wp2_with (at_builtin; refine wp_app_at rfl (.tmp 53) (.tmp 64) rfl G _ (gridTo D p) rfl HOW.out B p (n - p) (rowL D p Xn) ?hx ?n1 ?l1 ?b1 ?_)
              case hx => (rw [rowL_length, ← HLQ.out]; rfl)
              case n1 =>
                intro j hj
                rw [rowL_length] at hj
                rw [HRW.out.cell (by have := HLQ.out; omega), rowL_getD D p Xn j hj]
              case l1 => (rw [rowL_length]; omega)
              case b1 => exact hGz
              intro v' w' l hl ho hg
              have HO := hide ho
              have hb2 := app_below HBG.out HOW.out hGz hg
              have HB2 := hide hb2
              have hGz2 : G ≤ w'.heap.size := by have := hb2.size; rw [HG.out] at this; exact this
              have HLL := hide hl.out
              have hll : l.length ≤ 10000 := by rw [hl.out, List.length_append, rowL_length]; omega
              clear ho hg hb2 hl
              go_wp2_with (at_builtin; refine wp_app rfl (.tmp 66) (.tmp 67) rfl G _ l rfl (HO.out.alloc _) w'.heap.size 1 [10] rfl ?n1 ?l1 ?b1 ?_)
              case n1 => (intro j hj; match j, hj with | 0, _ => simp)
              case l1 => (show l.length + 1 ≤ _; omega)
              case b1 => (simp; omega)
              intro v3 w3 l3 hl3 ho3 hg3
              have HO3 := hide ho3
              have HB3 := hide (app_below (HB2.out.alloc hGz2 _) (HO.out.alloc _) (by simp; omega) hg3)
              have HL3 := hide hl3.out
              clear ho3 hg3 hl3
              go_wp2
              go_roundw
              case rel =>
                refine ⟨r + 1, by omega, by go_num, ?_, HB3.out⟩
                rw [HRL.out, ← HLL.out, ← HL3.out]
                exact HO3.out
              case measure => simp [intOf]; omega
            · have hge : ¬ (r : Int) < Y := by have := HYn.out; omega
              have e : r = Yn := by omega
              rw [e] at hown
              have HO0 : Hid (wr.ownsRow G 5 1 u8 (linesTo D 0).length (cv (linesTo D 0))) := by
                show wr.ownsRow G 5 1 u8 (gridTo D (D.w * D.h).toNat).length (cv (gridTo D (D.w * D.h).toNat))
                rw [HGE.out]; exact hown
              have z4 := hbk.cell 4
              simp only [List.getElem?_toArray, List.getElem?_cons_succ, List.getElem?_cons_zero] at z4
              clear e hown hbg hbg' hbk HROW
              go_wp2
              clear z4 hge
              go_loopw [8, 73] (fun out ix wr => ∃ k : Nat, k ≤ T.length ∧ ix = .int .i64 k ∧ wr.ownsRow G 5 1 out (linesTo D k).length (cv (linesTo D k)) ∧ Below G WG wr) (fun _ ix _ => T.length - (intOf ix).toNat)
              case atStart => exact ⟨0, Nat.zero_le _, rfl, HO0.out, HBG.out⟩
              case round =>
                clear HO0 HBG
                obtain ⟨k, hk, rfl, hown, hbg⟩ := hrel
                have hbg' : Below WG.heap.size WG wr := by rw [HG.out]; exact hbg
                have hGz : G ≤ wr.heap.size := by have := hbg'.size; rw [HG.out] at this; exact this
                have HBG := hide hbg
                have HOW := hide hown
                have hbk := HBK.out.below hbg'
                have hbl : Below w.heap.size w wr := HB.out.trans (hbg'.mono HB.out.size)
                have hlo := linesTo_le HOK.out (k := k) (by rw [HDF.out.2.2.2]; exact hk)
                by_cases hlt : k < T.length
                · have hlti : (k : Int) < (T.length : Int) := by omega
                  obtain rfl := ha4 (by omega)
                  have hto := HTG.out k hlt
                  obtain ⟨v0, hnc, hnv⟩ := HC4.out wr hbl k hlt
                  have hto2 : TgOk (D.w * D.h) (T.getD k .zero) := by
                    have h1 := HOK.out.tg.each k (by rw [HDF.out.2.2.2]; exact hlt)
                    rw [HDF.out.2.2.2] at h1
                    exact h1
                  have HLN : Hid (linesTo D (k + 1) = linesTo D k ++ lineL D (T.getD k .zero)) := by
                    show linesTo D k ++ lineL D (D.targets.getD k .zero) = _
                    rw [HDF.out.2.2.2]
                  obtain ⟨t, ht⟩ : ∃ t, T.getD k .zero = t := ⟨_, rfl⟩
                  rw [ht] at hnc hnv hto hto2 HLN
                  obtain ⟨g0, g1, g2⟩ := hnc
                  have HPL := hide (place_lt HOK.out hto2)
                  have HLO := hide (lineL_lo HOK.out hto2)
                  have hLE := lineL_le (d := D) hto2
                  have HTO := hide hto
                  obtain ⟨W1, hW1⟩ : ∃ W, wr.alloc (.cells #[v0, .int .i64 t.kind, .int .i64 t.cell] 50) = W := ⟨_, rfl⟩
                  have hb1 : Below wr.heap.size wr W1 := by rw [← hW1]; exact (Below.refl _ _).alloc (Nat.le_refl _) _
                  have hBk : Blk W1 wr.heap.size 50 #[v0, .int .i64 t.kind, .int .i64 t.cell] := by rw [← hW1]; exact Blk.new _ _ _
                  have HOW1 := hide (kept_below hown hb1)
                  have HBG1 : Hid (Below G WG W1) := hbg.trans (hb1.mono hGz)
                  have hbk1 := hbk.below hb1
                  have HB1 : Hid (Below w.heap.size w W1) := hbl.trans (hb1.mono hbl.size)
                  have HGZ1 : Hid (G ≤ W1.heap.size) := by have := hb1.size; show _ ≤ _; omega
                  have x0 := hBk.cell 0
                  have x1 := hBk.cell 1
                  have x2 := hBk.cell 2
                  have z0 := hbk1.cell 0
                  simp only [List.getElem?_toArray, List.getElem?_cons_succ, List.getElem?_cons_zero] at x0 x1 x2 z0
                  obtain ⟨av, cv, hv⟩ := hnv.name.slice
                  subst hv
                  have HNM := hide (hnv.name.below hb1)
                  clear hown hbg hbg' hbk hbl hto hto2 ht hnv hb1 hBk hbk1
                  go_wp2_with fail
                  refine (HTL.out t _ _ X W1 HB1.out HTO.out HDF.out.1 hX0 HPL.out HNM.out).mono ?_
                  clear hW1 x0 x1 x2 z0
                  rintro e w5 ⟨rfl, hb5⟩
                  have HO5 := hide (kept_below HOW1.out hb5)
                  have HB5 : Hid (Below G WG w5) := HBG1.out.trans (hb5.mono HGZ1.out)
                  have hGz5 : G ≤ w5.heap.size := by have := hb5.size; have := HGZ1.out; omega
                  clear hb5
                  go_wp2_with (at_builtin; refine wp_app_str rfl (.tmp 77) (.tmp 81) rfl G _ (linesTo D k) rfl HO5.out (byt (lineL D t)) (lineL D t) rfl ?n1 ?l1 ?b1 ?_)
                  case n1 => exact byt_cells HLO.out
                  case l1 => omega
                  case b1 => exact hGz5
                  intro v3 w3 l3 hl3 ho3 hg3
                  have HO3 := hide ho3
                  have HB3 := hide (app_below HB5.out HO5.out hGz5 hg3)
                  have HL3 := hide hl3.out
                  clear ho3 hg3 hl3
                  go_wp2
                  go_roundw
                  case rel =>
                    refine ⟨k + 1, by omega, by go_num, ?_, HB3.out⟩
                    rw [HLN.out, ← HL3.out]
                    exact HO3.out
                  case measure => simp [intOf]; omega
                · have hge : ¬ (k : Int) < (T.length : Int) := by omega
                  have e : k = D.targets.length := by rw [HDF.out.2.2.2]; omega
                  rw [e, ← HR.out] at hown
                  have HF := hide (own_bf hown (shL_lo D) HWG.out)
                  have HBL := hide hbl
                  clear e hown hbg hbg' hbk hbl HOW hlo
                  go_wp2
                  go_ret
                  obtain ⟨bl, h1, h2⟩ := HF.out
                  refine ⟨u8, rfl, ?_⟩
                  first
                    | exact ⟨bl, h1, h2, HBL.out⟩
                    | exact ⟨⟨bl, h1, h2⟩, HBL.out⟩
end Go.Proofs.YtaapababeecmeaaDoor

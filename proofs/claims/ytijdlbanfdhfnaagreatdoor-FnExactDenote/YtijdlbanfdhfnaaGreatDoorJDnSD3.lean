/-
  The walk of l4apply at walls, openings and zones.
-/
import Derived.Test.YtijdlbanfdhfnaaGreatDoorJDnTgOW
import Derived.Test.YtijdlbanfdhfnaaGreatDoorJDnSAP
import Derived.BigRegion
namespace Go.Proofs.YtijdlbanfdhfnaaGreatDoor
open Go.RowKit

theorem ow_rw {w : World} {B : Nat} {v : Value} {L : List Int} (h : Ow w B v L) (h0 : 0 < L.length) : ∃ g c, v = .slice (some ⟨g, 0, none⟩) L.length c ∧ B ≤ g ∧ Rw w g 3 L.length (fun j => .int .i64 (L.getD j 0)) := by
  rcases h.2 with ⟨_, hn⟩ | ⟨g, c, cur, hv, hb, hg, hn, hm, hs, ht⟩
  · omega
  · refine ⟨g, c, hv, hb, cur, hg, fun j hj => ?_⟩
    rw [← Array.getElem?_toList, ← List.getElem?_take_of_lt (by omega : j < L.length * 1), ht]
    simp [ci, List.getD, hj]
theorem layN_same (d : Dc) : ∀ (L : List Int) (f : Flo), (layN d f L).w = f.w ∧ (layN d f L).h = f.h
  | [], _ => ⟨rfl, rfl⟩
  | c :: r, f => by
    obtain ⟨h1, h2⟩ := layN_same d r (lay1 d f c.toNat)
    obtain ⟨s1, s2, _⟩ := lay1_same d f c.toNat
    exact ⟨h1.trans s1, h2.trans s2⟩
theorem layN_take (d : Dc) (f : Flo) {L : List Int} {k : Nat} (hk : k < L.length) : layN d f (L.take (k + 1)) = lay1 d (layN d f (L.take k)) (L.getD k 0).toNat := by
  rw [List.take_succ_eq_append_getElem hk, layN_snoc]
  congr 2
  simp [List.getD, hk]

set_option maxHeartbeats 4000000 in
set_option maxRecDepth 1000000 in
theorem l4apply_8 (F bw bc bd cw cc cd : Nat) (G : Nat → Nat) (f : Flo) (vt vf : Value) (ns : List (Tg × Value)) (d : Dc) (v7 : Value) (i : Int) (w : World) (hk : d.kind = 8) (hf : FloOk f) (h7 : ∃ a n c, v7 = .slice a n c) (hm : FlM w F bw bc bd cw cc cd G f vt vf ns) :
    Calls Tryz.prog 15 #[.pointer (some ⟨F, 0, none⟩), dcagg d v7, .int .i64 i] w fun e w' => e = .returned (.int .i64 (apC f d)) ∧ (apC f d = 0 → FlM w' F bw bc bd cw cc cd G (layN d f (arL f.w d)) vt vf ns) ∧ Below F w w' := by
  have HM := hide hm
  have HFO := hide hf
  have f0 := hm.blk.cell 0
  have f1 := hm.blk.cell 1
  simp only [List.getElem?_toArray, List.getElem?_cons_succ, List.getElem?_cons_zero] at f0 f1
  have HFL : Hid (F < w.heap.size) := hm.blk.lt
  have HLC : Hid (bc < w.heap.size) := by obtain ⟨_, h1, _⟩ := hm.co; exact h1.lt
  have HCE := hide (fun w2 (h2 : Below w.heap.size w w2) => l4cells_any F f.w f.h d v7 w2 hf.w1 hf.h1 h7 (cell_kept f0 h2) (cell_kept f1 h2))
  obtain ⟨a7, n7, c7, rfl⟩ := h7
  have HA8 : Hid (¬ inF f.w f.h d ∨ False → apC f d = 8) := fun h => by
    unfold apC
    rw [if_neg (by omega), if_pos (h.imp id fun q => q.elim)]
  have HA0 : Hid (inF f.w f.h d → ¬ False → apC f d = 0) := fun h1 h2 => by
    unfold apC
    rw [if_neg (by omega), if_neg (fun q => q.elim (fun g => g h1) fun g => by omega), if_neg (by rw [hk]; decide)]
  unfold dcagg at HCE ⊢
  rw [hk] at HCE ⊢
  have HK := hide hk
  clear hk hf hm f0 f1
  obtain ⟨W1, hW1⟩ : ∃ W, w.alloc ( .cells #[.int .i64 8, .int .i64 d.x1, .int .i64 d.y1, .int .i64 d.x2, .int .i64 d.y2, .int .i64 d.dir, .int .i64 d.cost, .slice a7 n7 c7, .int .i64 d.node] 42) = W := ⟨_, rfl⟩
  have hB1 : Below w.heap.size w W1 := by rw [← hW1]; exact (Below.refl _ _).alloc (Nat.le_refl _) _
  have HB1 := hide hB1
  have HS1 : Hid (W1.heap.size = w.heap.size + 1) := by show _ = _; rw [← hW1, World.size_alloc]
  have HBK : Hid (Blk W1 w.heap.size 42 #[.int .i64 8, .int .i64 d.x1, .int .i64 d.y1, .int .i64 d.x2, .int .i64 d.y2, .int .i64 d.dir, .int .i64 d.cost, .slice a7 n7 c7, .int .i64 d.node]) := by rw [← hW1]; exact Blk.new _ _ _
  have HM1 := hide (HM.out.below hB1)
  have HZ : Hid (∀ j v, (#[.int .i64 8, .int .i64 d.x1, .int .i64 d.y1, .int .i64 d.x2, .int .i64 d.y2, .int .i64 d.dir, .int .i64 d.cost, .slice a7 n7 c7, .int .i64 d.node] : Array Value)[j]? = some v → W1.cell? ⟨w.heap.size, j, none⟩ = some v) := fun j v hv => by rw [HBK.out.cell j, hv]
  have z0 := HZ.out 0 _ rfl
  have z1 := HZ.out 1 _ rfl
  have z2 := HZ.out 2 _ rfl
  have z3 := HZ.out 3 _ rfl
  have z4 := HZ.out 4 _ rfl
  have z5 := HZ.out 5 _ rfl
  have z6 := HZ.out 6 _ rfl
  have z7 := HZ.out 7 _ rfl
  have z8 := HZ.out 8 _ rfl
  have HW := hide hW1
  clear hW1 hB1 HM
  go_enter Tryz.func15, Tryz.ntmps15
  go_wp2_with fail
  rw [HW.out]
  refine (HCE.out _ HB1.out).mono ?_
  rintro e w2 ⟨vc, b, rfl, hbi, hcs, hb2⟩
  have HBI := hide hbi
  have HIS := hide hcs
  have HB2 : Hid (Below w.heap.size w w2) := HB1.out.trans (hb2.mono HB1.out.size)
  have HBK2 := hide (HBK.out.below hb2)
  have HM2 := hide (HM1.out.below hb2)
  have HBF2 : Hid (Below F w w2) := HB2.out.mono (by have := HFL.out; omega)
  clear z0 z1 z2 z3 z4 z5 z6 z7 z8 hbi hcs hb2 HZ HW HBK HM1 HCE
  have HZ : Hid (∀ j v, (#[.int .i64 8, .int .i64 d.x1, .int .i64 d.y1, .int .i64 d.x2, .int .i64 d.y2, .int .i64 d.dir, .int .i64 d.cost, .slice a7 n7 c7, .int .i64 d.node] : Array Value)[j]? = some v → w2.cell? ⟨w.heap.size, j, none⟩ = some v) := fun j v hv => by rw [HBK2.out.cell j, hv]
  have z0 := HZ.out 0 _ rfl
  have z6 := HZ.out 6 _ rfl
  cases b with
  | false =>
    have HE : Hid (apC f d = 8) := HA8.out (.inl fun h => by have := HBI.out.2 h; cases this)
    go_wp2
    go_ret
    rw [HE.out]
    exact ⟨rfl, fun h => absurd h (by decide), HBF2.out⟩
  | true =>
    have HIN := hide (HBI.out.1 rfl)
    have hpos := arL_pos (w := f.w) (d := d)
    obtain ⟨gc, cp, rfl, hgc, hrw⟩ := ow_rw (HIS.out HIN.out) hpos
    have HRW := hide hrw
    have HGC : Hid (w.heap.size < gc) := by have := HB1.out.size; have h2 := HBK2.out.lt; show _ < _; have h3 : W1.heap.size = w.heap.size + 1 := HS1.out; omega
    clear HIS hrw hgc
    obtain ⟨L, hL⟩ : ∃ L, arL f.w d = L := ⟨_, rfl⟩
    have HLI : Hid (∀ c ∈ L, 0 ≤ c ∧ c < ((f.w * f.h : Nat) : Int)) := by rw [← hL]; exact arL_in HIN.out
    have HLL : Hid (L.length ≤ 40 * 40) := by rw [← hL]; exact Nat.le_trans (arL_le HIN.out) (Nat.mul_le_mul HFO.out.h1 HFO.out.w1)
    rw [hL] at HRW hpos ⊢
    have HL := hide hL
    have hLL := HLL.out
    go_wp2
    clear z0 z6
    rename World => w2'
    go_loopw [9] (fun ix wr => ∃ k : Nat, k ≤ L.length ∧ ix = .int .i64 k ∧ FlM wr F bw bc bd cw cc cd G (layN d f (L.take k)) vt vf ns ∧ Rw wr gc 3 L.length (fun j => .int .i64 (L.getD j 0)) ∧ Blk wr w.heap.size 42 #[.int .i64 8, .int .i64 d.x1, .int .i64 d.y1, .int .i64 d.x2, .int .i64 d.y2, .int .i64 d.dir, .int .i64 d.cost, .slice a7 n7 c7, .int .i64 d.node] ∧ Below F w wr) (fun ix _ => L.length - (intOf ix).toNat)
    case atStart => exact ⟨0, Nat.zero_le _, rfl, HM2.out, HRW.out, HBK2.out, HBF2.out⟩
    case round =>
      clear HM2 HRW HBK2 HBF2 HZ
      obtain ⟨k, hk, rfl, hm, hrw, hbk, hbf⟩ := hrel
      have HM := hide hm
      have HRW := hide hrw
      have HBK := hide hbk
      have HBF := hide hbf
      rename World => V
      by_cases hlt : k < L.length
      · have hlti : (k : Int) < (L.length : Int) := by omega
        have q1 := hrw.cell hlt
        have hmem : L.getD k 0 ∈ L := by rw [List.getD_eq_getElem?_getD, List.getElem?_eq_getElem hlt]; exact List.getElem_mem hlt
        obtain ⟨r0, r1⟩ := HLI.out _ hmem
        obtain ⟨c, hc⟩ : ∃ c : Nat, L.getD k 0 = c := ⟨(L.getD k 0).toNat, by omega⟩
        rw [hc] at q1 r1
        have HST : Hid (layN d f (L.take (k + 1)) = lay1 d (layN d f (L.take k)) c) := by show _ = _; rw [layN_take d f hlt, hc, Int.toNat_natCast]
        obtain ⟨f', hf'⟩ : ∃ f', layN d f (L.take k) = f' := ⟨_, rfl⟩
        have hwh := layN_same d (L.take k) f
        rw [hf'] at hwh HST HM hm
        have hcn : c < f'.w * f'.h := by rw [hwh.1, hwh.2]; omega
        have y0 := hbk.cell 0
        have y6 := hbk.cell 6
        have x2 := hm.blk.cell 2
        have x3 := hm.blk.cell 3
        simp only [List.getElem?_toArray, List.getElem?_cons_succ, List.getElem?_cons_zero] at y0 y6 x2 x3
        have q2 := hm.wl.cell hcn
        have q3 := hm.wl.frozen c
        have HM3 : Hid (FlM (V.setCell ⟨bw, c, none⟩ (.bool true)) F bw bc bd cw cc cd G (layN d f (L.take (k + 1))) vt vf ns) := by
          have := hm.setWall c true
          rw [HST.out]
          unfold lay1
          rw [if_pos HK.out]
          exact this
        have HR3 := hide (hrw.typed (k := c) (v := .bool true) hm.wl (by decide))
        have HK3 : Hid (Blk (V.setCell ⟨bw, c, none⟩ (.bool true)) w.heap.size 42 #[.int .i64 8, .int .i64 d.x1, .int .i64 d.y1, .int .i64 d.x2, .int .i64 d.y2, .int .i64 d.dir, .int .i64 d.cost, .slice a7 n7 c7, .int .i64 d.node]) := by
          obtain ⟨cs, h1, _⟩ := hm.wl
          exact set_typed h1 hbk (by decide)
        have HF3 : Hid (Below F w (V.setCell ⟨bw, c, none⟩ (.bool true))) := hbf.setCell (by have := hm.lw; show F ≤ bw; omega) _
        clear hm hrw hbk hbf hmem r0 r1 hc hf' hwh
        have hci : (c : Int) < ((f'.w * f'.h : Nat) : Int) := by omega
        obtain ⟨nn, hnn⟩ : ∃ n, f'.w * f'.h = n := ⟨_, rfl⟩
        rw [hnn] at x2 x3 hci hcn
        clear hnn
        go_wp2
        go_roundw
        case rel => exact ⟨k + 1, by omega, by go_num, HM3.out, HR3.out, HK3.out, HF3.out⟩
        case measure => simp [intOf]; omega
      · have hge : ¬ (k : Int) < (L.length : Int) := by omega
        obtain rfl : k = L.length := by omega
        have HE : Hid (apC f d = 0) := HA0.out HIN.out (fun h => h)
        have HMF : Hid (FlM V F bw bc bd cw cc cd G (layN d f L) vt vf ns) := by have := hm; rw [List.take_length] at this; exact this
        clear hm hrw hbk hbf
        go_wp2
        go_ret
        rw [HE.out]
        exact ⟨rfl, fun _ => HMF.out, HBF.out⟩
set_option maxHeartbeats 4000000 in
set_option maxRecDepth 1000000 in
theorem l4apply_9 (F bw bc bd cw cc cd : Nat) (G : Nat → Nat) (f : Flo) (vt vf : Value) (ns : List (Tg × Value)) (d : Dc) (v7 : Value) (i : Int) (w : World) (hk : d.kind = 9) (hf : FloOk f) (h7 : ∃ a n c, v7 = .slice a n c) (hm : FlM w F bw bc bd cw cc cd G f vt vf ns) :
    Calls Tryz.prog 15 #[.pointer (some ⟨F, 0, none⟩), dcagg d v7, .int .i64 i] w fun e w' => e = .returned (.int .i64 (apC f d)) ∧ (apC f d = 0 → FlM w' F bw bc bd cw cc cd G (layN d f (arL f.w d)) vt vf ns) ∧ Below F w w' := by
  have HM := hide hm
  have HFO := hide hf
  have f0 := hm.blk.cell 0
  have f1 := hm.blk.cell 1
  simp only [List.getElem?_toArray, List.getElem?_cons_succ, List.getElem?_cons_zero] at f0 f1
  have HFL : Hid (F < w.heap.size) := hm.blk.lt
  have HLC : Hid (bc < w.heap.size) := by obtain ⟨_, h1, _⟩ := hm.co; exact h1.lt
  have HCE := hide (fun w2 (h2 : Below w.heap.size w w2) => l4cells_any F f.w f.h d v7 w2 hf.w1 hf.h1 h7 (cell_kept f0 h2) (cell_kept f1 h2))
  obtain ⟨a7, n7, c7, rfl⟩ := h7
  have HA8 : Hid (¬ inF f.w f.h d ∨ False → apC f d = 8) := fun h => by
    unfold apC
    rw [if_neg (by omega), if_pos (h.imp id fun q => q.elim)]
  have HA0 : Hid (inF f.w f.h d → ¬ False → apC f d = 0) := fun h1 h2 => by
    unfold apC
    rw [if_neg (by omega), if_neg (fun q => q.elim (fun g => g h1) fun g => by omega), if_neg (by rw [hk]; decide)]
  unfold dcagg at HCE ⊢
  rw [hk] at HCE ⊢
  have HK := hide hk
  clear hk hf hm f0 f1
  obtain ⟨W1, hW1⟩ : ∃ W, w.alloc ( .cells #[.int .i64 9, .int .i64 d.x1, .int .i64 d.y1, .int .i64 d.x2, .int .i64 d.y2, .int .i64 d.dir, .int .i64 d.cost, .slice a7 n7 c7, .int .i64 d.node] 42) = W := ⟨_, rfl⟩
  have hB1 : Below w.heap.size w W1 := by rw [← hW1]; exact (Below.refl _ _).alloc (Nat.le_refl _) _
  have HB1 := hide hB1
  have HS1 : Hid (W1.heap.size = w.heap.size + 1) := by show _ = _; rw [← hW1, World.size_alloc]
  have HBK : Hid (Blk W1 w.heap.size 42 #[.int .i64 9, .int .i64 d.x1, .int .i64 d.y1, .int .i64 d.x2, .int .i64 d.y2, .int .i64 d.dir, .int .i64 d.cost, .slice a7 n7 c7, .int .i64 d.node]) := by rw [← hW1]; exact Blk.new _ _ _
  have HM1 := hide (HM.out.below hB1)
  have HZ : Hid (∀ j v, (#[.int .i64 9, .int .i64 d.x1, .int .i64 d.y1, .int .i64 d.x2, .int .i64 d.y2, .int .i64 d.dir, .int .i64 d.cost, .slice a7 n7 c7, .int .i64 d.node] : Array Value)[j]? = some v → W1.cell? ⟨w.heap.size, j, none⟩ = some v) := fun j v hv => by rw [HBK.out.cell j, hv]
  have z0 := HZ.out 0 _ rfl
  have z1 := HZ.out 1 _ rfl
  have z2 := HZ.out 2 _ rfl
  have z3 := HZ.out 3 _ rfl
  have z4 := HZ.out 4 _ rfl
  have z5 := HZ.out 5 _ rfl
  have z6 := HZ.out 6 _ rfl
  have z7 := HZ.out 7 _ rfl
  have z8 := HZ.out 8 _ rfl
  have HW := hide hW1
  clear hW1 hB1 HM
  go_enter Tryz.func15, Tryz.ntmps15
  go_wp2_with fail
  rw [HW.out]
  refine (HCE.out _ HB1.out).mono ?_
  rintro e w2 ⟨vc, b, rfl, hbi, hcs, hb2⟩
  have HBI := hide hbi
  have HIS := hide hcs
  have HB2 : Hid (Below w.heap.size w w2) := HB1.out.trans (hb2.mono HB1.out.size)
  have HBK2 := hide (HBK.out.below hb2)
  have HM2 := hide (HM1.out.below hb2)
  have HBF2 : Hid (Below F w w2) := HB2.out.mono (by have := HFL.out; omega)
  clear z0 z1 z2 z3 z4 z5 z6 z7 z8 hbi hcs hb2 HZ HW HBK HM1 HCE
  have HZ : Hid (∀ j v, (#[.int .i64 9, .int .i64 d.x1, .int .i64 d.y1, .int .i64 d.x2, .int .i64 d.y2, .int .i64 d.dir, .int .i64 d.cost, .slice a7 n7 c7, .int .i64 d.node] : Array Value)[j]? = some v → w2.cell? ⟨w.heap.size, j, none⟩ = some v) := fun j v hv => by rw [HBK2.out.cell j, hv]
  have z0 := HZ.out 0 _ rfl
  have z6 := HZ.out 6 _ rfl
  cases b with
  | false =>
    have HE : Hid (apC f d = 8) := HA8.out (.inl fun h => by have := HBI.out.2 h; cases this)
    go_wp2
    go_ret
    rw [HE.out]
    exact ⟨rfl, fun h => absurd h (by decide), HBF2.out⟩
  | true =>
    have HIN := hide (HBI.out.1 rfl)
    have hpos := arL_pos (w := f.w) (d := d)
    obtain ⟨gc, cp, rfl, hgc, hrw⟩ := ow_rw (HIS.out HIN.out) hpos
    have HRW := hide hrw
    have HGC : Hid (w.heap.size < gc) := by have := HB1.out.size; have h2 := HBK2.out.lt; show _ < _; have h3 : W1.heap.size = w.heap.size + 1 := HS1.out; omega
    clear HIS hrw hgc
    obtain ⟨L, hL⟩ : ∃ L, arL f.w d = L := ⟨_, rfl⟩
    have HLI : Hid (∀ c ∈ L, 0 ≤ c ∧ c < ((f.w * f.h : Nat) : Int)) := by rw [← hL]; exact arL_in HIN.out
    have HLL : Hid (L.length ≤ 40 * 40) := by rw [← hL]; exact Nat.le_trans (arL_le HIN.out) (Nat.mul_le_mul HFO.out.h1 HFO.out.w1)
    rw [hL] at HRW hpos ⊢
    have HL := hide hL
    have hLL := HLL.out
    go_wp2
    clear z0 z6
    rename World => w2'
    go_loopw [9] (fun ix wr => ∃ k : Nat, k ≤ L.length ∧ ix = .int .i64 k ∧ FlM wr F bw bc bd cw cc cd G (layN d f (L.take k)) vt vf ns ∧ Rw wr gc 3 L.length (fun j => .int .i64 (L.getD j 0)) ∧ Blk wr w.heap.size 42 #[.int .i64 9, .int .i64 d.x1, .int .i64 d.y1, .int .i64 d.x2, .int .i64 d.y2, .int .i64 d.dir, .int .i64 d.cost, .slice a7 n7 c7, .int .i64 d.node] ∧ Below F w wr) (fun ix _ => L.length - (intOf ix).toNat)
    case atStart => exact ⟨0, Nat.zero_le _, rfl, HM2.out, HRW.out, HBK2.out, HBF2.out⟩
    case round =>
      clear HM2 HRW HBK2 HBF2 HZ
      obtain ⟨k, hk, rfl, hm, hrw, hbk, hbf⟩ := hrel
      have HM := hide hm
      have HRW := hide hrw
      have HBK := hide hbk
      have HBF := hide hbf
      rename World => V
      by_cases hlt : k < L.length
      · have hlti : (k : Int) < (L.length : Int) := by omega
        have q1 := hrw.cell hlt
        have hmem : L.getD k 0 ∈ L := by rw [List.getD_eq_getElem?_getD, List.getElem?_eq_getElem hlt]; exact List.getElem_mem hlt
        obtain ⟨r0, r1⟩ := HLI.out _ hmem
        obtain ⟨c, hc⟩ : ∃ c : Nat, L.getD k 0 = c := ⟨(L.getD k 0).toNat, by omega⟩
        rw [hc] at q1 r1
        have HST : Hid (layN d f (L.take (k + 1)) = lay1 d (layN d f (L.take k)) c) := by show _ = _; rw [layN_take d f hlt, hc, Int.toNat_natCast]
        obtain ⟨f', hf'⟩ : ∃ f', layN d f (L.take k) = f' := ⟨_, rfl⟩
        have hwh := layN_same d (L.take k) f
        rw [hf'] at hwh HST HM hm
        have hcn : c < f'.w * f'.h := by rw [hwh.1, hwh.2]; omega
        have y0 := hbk.cell 0
        have y6 := hbk.cell 6
        have x2 := hm.blk.cell 2
        have x3 := hm.blk.cell 3
        simp only [List.getElem?_toArray, List.getElem?_cons_succ, List.getElem?_cons_zero] at y0 y6 x2 x3
        have q2 := hm.wl.cell hcn
        have q3 := hm.wl.frozen c
        have HM3 : Hid (FlM (V.setCell ⟨bw, c, none⟩ (.bool false)) F bw bc bd cw cc cd G (layN d f (L.take (k + 1))) vt vf ns) := by
          have := hm.setWall c false
          rw [HST.out]
          unfold lay1
          rw [if_neg (by rw [HK.out]; decide), if_pos HK.out]
          exact this
        have HR3 := hide (hrw.typed (k := c) (v := .bool false) hm.wl (by decide))
        have HK3 : Hid (Blk (V.setCell ⟨bw, c, none⟩ (.bool false)) w.heap.size 42 #[.int .i64 9, .int .i64 d.x1, .int .i64 d.y1, .int .i64 d.x2, .int .i64 d.y2, .int .i64 d.dir, .int .i64 d.cost, .slice a7 n7 c7, .int .i64 d.node]) := by
          obtain ⟨cs, h1, _⟩ := hm.wl
          exact set_typed h1 hbk (by decide)
        have HF3 : Hid (Below F w (V.setCell ⟨bw, c, none⟩ (.bool false))) := hbf.setCell (by have := hm.lw; show F ≤ bw; omega) _
        clear hm hrw hbk hbf hmem r0 r1 hc hf' hwh
        have hci : (c : Int) < ((f'.w * f'.h : Nat) : Int) := by omega
        obtain ⟨nn, hnn⟩ : ∃ n, f'.w * f'.h = n := ⟨_, rfl⟩
        rw [hnn] at x2 x3 hci hcn
        clear hnn
        go_wp2
        go_roundw
        case rel => exact ⟨k + 1, by omega, by go_num, HM3.out, HR3.out, HK3.out, HF3.out⟩
        case measure => simp [intOf]; omega
      · have hge : ¬ (k : Int) < (L.length : Int) := by omega
        obtain rfl : k = L.length := by omega
        have HE : Hid (apC f d = 0) := HA0.out HIN.out (fun h => h)
        have HMF : Hid (FlM V F bw bc bd cw cc cd G (layN d f L) vt vf ns) := by have := hm; rw [List.take_length] at this; exact this
        clear hm hrw hbk hbf
        go_wp2
        go_ret
        rw [HE.out]
        exact ⟨rfl, fun _ => HMF.out, HBF.out⟩
set_option maxHeartbeats 4000000 in
set_option maxRecDepth 1000000 in
theorem l4apply_13 (F bw bc bd cw cc cd : Nat) (G : Nat → Nat) (f : Flo) (vt vf : Value) (ns : List (Tg × Value)) (d : Dc) (v7 : Value) (i : Int) (w : World) (hk : d.kind = 13) (hf : FloOk f) (h7 : ∃ a n c, v7 = .slice a n c) (hm : FlM w F bw bc bd cw cc cd G f vt vf ns) :
    Calls Tryz.prog 15 #[.pointer (some ⟨F, 0, none⟩), dcagg d v7, .int .i64 i] w fun e w' => e = .returned (.int .i64 (apC f d)) ∧ (apC f d = 0 → FlM w' F bw bc bd cw cc cd G (layN d f (arL f.w d)) vt vf ns) ∧ Below F w w' := by
  have HM := hide hm
  have HFO := hide hf
  have f0 := hm.blk.cell 0
  have f1 := hm.blk.cell 1
  simp only [List.getElem?_toArray, List.getElem?_cons_succ, List.getElem?_cons_zero] at f0 f1
  have HFL : Hid (F < w.heap.size) := hm.blk.lt
  have HLC : Hid (bc < w.heap.size) := by obtain ⟨_, h1, _⟩ := hm.co; exact h1.lt
  have HCE := hide (fun w2 (h2 : Below w.heap.size w w2) => l4cells_any F f.w f.h d v7 w2 hf.w1 hf.h1 h7 (cell_kept f0 h2) (cell_kept f1 h2))
  obtain ⟨a7, n7, c7, rfl⟩ := h7
  have HA8 : Hid (¬ inF f.w f.h d ∨ (d.cost < 1 ∨ 9 < d.cost) → apC f d = 8) := fun h => by
    unfold apC
    rw [if_neg (by omega), if_pos (h.imp id fun q => ⟨hk, q⟩)]
  have HA0 : Hid (inF f.w f.h d → ¬ (d.cost < 1 ∨ 9 < d.cost) → apC f d = 0) := fun h1 h2 => by
    unfold apC
    rw [if_neg (by omega), if_neg (fun q => q.elim (fun g => g h1) fun g => h2 g.2), if_neg (by rw [hk]; decide)]
  unfold dcagg at HCE ⊢
  rw [hk] at HCE ⊢
  have HK := hide hk
  clear hk hf hm f0 f1
  obtain ⟨W1, hW1⟩ : ∃ W, w.alloc ( .cells #[.int .i64 13, .int .i64 d.x1, .int .i64 d.y1, .int .i64 d.x2, .int .i64 d.y2, .int .i64 d.dir, .int .i64 d.cost, .slice a7 n7 c7, .int .i64 d.node] 42) = W := ⟨_, rfl⟩
  have hB1 : Below w.heap.size w W1 := by rw [← hW1]; exact (Below.refl _ _).alloc (Nat.le_refl _) _
  have HB1 := hide hB1
  have HS1 : Hid (W1.heap.size = w.heap.size + 1) := by show _ = _; rw [← hW1, World.size_alloc]
  have HBK : Hid (Blk W1 w.heap.size 42 #[.int .i64 13, .int .i64 d.x1, .int .i64 d.y1, .int .i64 d.x2, .int .i64 d.y2, .int .i64 d.dir, .int .i64 d.cost, .slice a7 n7 c7, .int .i64 d.node]) := by rw [← hW1]; exact Blk.new _ _ _
  have HM1 := hide (HM.out.below hB1)
  have HZ : Hid (∀ j v, (#[.int .i64 13, .int .i64 d.x1, .int .i64 d.y1, .int .i64 d.x2, .int .i64 d.y2, .int .i64 d.dir, .int .i64 d.cost, .slice a7 n7 c7, .int .i64 d.node] : Array Value)[j]? = some v → W1.cell? ⟨w.heap.size, j, none⟩ = some v) := fun j v hv => by rw [HBK.out.cell j, hv]
  have z0 := HZ.out 0 _ rfl
  have z1 := HZ.out 1 _ rfl
  have z2 := HZ.out 2 _ rfl
  have z3 := HZ.out 3 _ rfl
  have z4 := HZ.out 4 _ rfl
  have z5 := HZ.out 5 _ rfl
  have z6 := HZ.out 6 _ rfl
  have z7 := HZ.out 7 _ rfl
  have z8 := HZ.out 8 _ rfl
  have HW := hide hW1
  clear hW1 hB1 HM
  go_enter Tryz.func15, Tryz.ntmps15
  go_wp2_with fail
  rw [HW.out]
  refine (HCE.out _ HB1.out).mono ?_
  rintro e w2 ⟨vc, b, rfl, hbi, hcs, hb2⟩
  have HBI := hide hbi
  have HIS := hide hcs
  have HB2 : Hid (Below w.heap.size w w2) := HB1.out.trans (hb2.mono HB1.out.size)
  have HBK2 := hide (HBK.out.below hb2)
  have HM2 := hide (HM1.out.below hb2)
  have HBF2 : Hid (Below F w w2) := HB2.out.mono (by have := HFL.out; omega)
  clear z0 z1 z2 z3 z4 z5 z6 z7 z8 hbi hcs hb2 HZ HW HBK HM1 HCE
  have HZ : Hid (∀ j v, (#[.int .i64 13, .int .i64 d.x1, .int .i64 d.y1, .int .i64 d.x2, .int .i64 d.y2, .int .i64 d.dir, .int .i64 d.cost, .slice a7 n7 c7, .int .i64 d.node] : Array Value)[j]? = some v → w2.cell? ⟨w.heap.size, j, none⟩ = some v) := fun j v hv => by rw [HBK2.out.cell j, hv]
  have z0 := HZ.out 0 _ rfl
  have z6 := HZ.out 6 _ rfl
  cases b with
  | false =>
    have HE : Hid (apC f d = 8) := HA8.out (.inl fun h => by have := HBI.out.2 h; cases this)
    go_wp2
    go_ret
    rw [HE.out]
    exact ⟨rfl, fun h => absurd h (by decide), HBF2.out⟩
  | true =>
    have HIN := hide (HBI.out.1 rfl)
    have hpos := arL_pos (w := f.w) (d := d)
    obtain ⟨gc, cp, rfl, hgc, hrw⟩ := ow_rw (HIS.out HIN.out) hpos
    have HRW := hide hrw
    have HGC : Hid (w.heap.size < gc) := by have := HB1.out.size; have h2 := HBK2.out.lt; show _ < _; have h3 : W1.heap.size = w.heap.size + 1 := HS1.out; omega
    clear HIS hrw hgc
    obtain ⟨L, hL⟩ : ∃ L, arL f.w d = L := ⟨_, rfl⟩
    have HLI : Hid (∀ c ∈ L, 0 ≤ c ∧ c < ((f.w * f.h : Nat) : Int)) := by rw [← hL]; exact arL_in HIN.out
    have HLL : Hid (L.length ≤ 40 * 40) := by rw [← hL]; exact Nat.le_trans (arL_le HIN.out) (Nat.mul_le_mul HFO.out.h1 HFO.out.w1)
    rw [hL] at HRW hpos ⊢
    have HL := hide hL
    have hLL := HLL.out
    by_cases b1 : d.cost < 1
    · have u1 : decide (d.cost < 1) = true := decide_eq_true b1
      have HE : Hid (apC f d = 8) := HA8.out (.inr (.inl b1))
      go_wp2
      go_ret
      rw [HE.out]
      exact ⟨rfl, fun h => absurd h (by decide), HBF2.out⟩
    have u1 : decide (d.cost < 1) = false := decide_eq_false b1
    by_cases b2 : 9 < d.cost
    · have u2 : decide (9 < d.cost) = true := decide_eq_true b2
      have HE : Hid (apC f d = 8) := HA8.out (.inr (.inr b2))
      go_wp2
      go_ret
      rw [HE.out]
      exact ⟨rfl, fun h => absurd h (by decide), HBF2.out⟩
    have u2 : decide (9 < d.cost) = false := decide_eq_false b2
    have HNB : Hid (¬ (d.cost < 1 ∨ 9 < d.cost)) := fun h => by omega
    clear b1 b2
    go_wp2
    clear z0 z6 u1 u2
    rename World => w2'
    go_loopw [9] (fun ix wr => ∃ k : Nat, k ≤ L.length ∧ ix = .int .i64 k ∧ FlM wr F bw bc bd cw cc cd G (layN d f (L.take k)) vt vf ns ∧ Rw wr gc 3 L.length (fun j => .int .i64 (L.getD j 0)) ∧ Blk wr w.heap.size 42 #[.int .i64 13, .int .i64 d.x1, .int .i64 d.y1, .int .i64 d.x2, .int .i64 d.y2, .int .i64 d.dir, .int .i64 d.cost, .slice a7 n7 c7, .int .i64 d.node] ∧ Below F w wr) (fun ix _ => L.length - (intOf ix).toNat)
    case atStart => exact ⟨0, Nat.zero_le _, rfl, HM2.out, HRW.out, HBK2.out, HBF2.out⟩
    case round =>
      clear HM2 HRW HBK2 HBF2 HZ
      obtain ⟨k, hk, rfl, hm, hrw, hbk, hbf⟩ := hrel
      have HM := hide hm
      have HRW := hide hrw
      have HBK := hide hbk
      have HBF := hide hbf
      rename World => V
      by_cases hlt : k < L.length
      · have hlti : (k : Int) < (L.length : Int) := by omega
        have q1 := hrw.cell hlt
        have hmem : L.getD k 0 ∈ L := by rw [List.getD_eq_getElem?_getD, List.getElem?_eq_getElem hlt]; exact List.getElem_mem hlt
        obtain ⟨r0, r1⟩ := HLI.out _ hmem
        obtain ⟨c, hc⟩ : ∃ c : Nat, L.getD k 0 = c := ⟨(L.getD k 0).toNat, by omega⟩
        rw [hc] at q1 r1
        have HST : Hid (layN d f (L.take (k + 1)) = lay1 d (layN d f (L.take k)) c) := by show _ = _; rw [layN_take d f hlt, hc, Int.toNat_natCast]
        obtain ⟨f', hf'⟩ : ∃ f', layN d f (L.take k) = f' := ⟨_, rfl⟩
        have hwh := layN_same d (L.take k) f
        rw [hf'] at hwh HST HM hm
        have hcn : c < f'.w * f'.h := by rw [hwh.1, hwh.2]; omega
        have y0 := hbk.cell 0
        have y6 := hbk.cell 6
        have x2 := hm.blk.cell 2
        have x3 := hm.blk.cell 3
        simp only [List.getElem?_toArray, List.getElem?_cons_succ, List.getElem?_cons_zero] at y0 y6 x2 x3
        have q2 := hm.co.cell hcn
        have q3 := hm.co.frozen c
        have HALL : Hid (∀ V', Below V.heap.size V V' → FlM (V'.setCell ⟨bc, c, none⟩ (.int .i64 d.cost)) F bw bc bd cw cc cd G (layN d f (L.take (k + 1))) vt vf ns ∧ Rw (V'.setCell ⟨bc, c, none⟩ (.int .i64 d.cost)) gc 3 L.length (fun j => .int .i64 (L.getD j 0)) ∧ Blk (V'.setCell ⟨bc, c, none⟩ (.int .i64 d.cost)) w.heap.size 42 #[.int .i64 13, .int .i64 d.x1, .int .i64 d.y1, .int .i64 d.x2, .int .i64 d.y2, .int .i64 d.dir, .int .i64 d.cost, .slice a7 n7 c7, .int .i64 d.node] ∧ Below F w (V'.setCell ⟨bc, c, none⟩ (.int .i64 d.cost))) := fun V' hV => by
          have hm' := HM.out.below hV
          refine ⟨?_, (HRW.out.below hV).other (by have h1 := HGC.out; have h2 := HLC.out; omega), ?_, ((HBF.out.trans (hV.mono (by have h1 := HM.out.blk.lt; omega))).setCell (by have := hm'.lc; show F ≤ bc; omega) _)⟩
          · have := hm'.setCost c d.cost
            rw [HST.out]
            unfold lay1
            rw [if_neg (by rw [HK.out]; decide), if_neg (by rw [HK.out]; decide), if_pos HK.out]
            exact this
          · obtain ⟨cs, h1, _⟩ := hm'.co
            exact set_typed h1 (HBK.out.below hV) (by decide)
        clear hm hrw hbk hbf hmem r0 r1 hc hf' hwh
        have hci : (c : Int) < ((f'.w * f'.h : Nat) : Int) := by omega
        obtain ⟨nn, hnn⟩ : ∃ n, f'.w * f'.h = n := ⟨_, rfl⟩
        rw [hnn] at x2 x3 hci hcn
        clear hnn
        go_wp2_with fail
        go_region
        go_wp2
        go_roundw
        case rel =>
          obtain ⟨a1, a2, a3, a4⟩ := HALL.out V (Below.refl _ _)
          exact ⟨k + 1, by omega, by go_num, a1.below (Below.refl _ _).drew, a2.below (Below.refl _ _).drew, a3.below (Below.refl _ _).drew, a4.drew⟩
        case measure => simp [intOf]; omega
      · have hge : ¬ (k : Int) < (L.length : Int) := by omega
        obtain rfl : k = L.length := by omega
        have HE : Hid (apC f d = 0) := HA0.out HIN.out HNB.out
        have HMF : Hid (FlM V F bw bc bd cw cc cd G (layN d f L) vt vf ns) := by have := hm; rw [List.take_length] at this; exact this
        clear hm hrw hbk hbf
        go_wp2
        go_ret
        rw [HE.out]
        exact ⟨rfl, fun _ => HMF.out, HBF.out⟩
end Go.Proofs.YtijdlbanfdhfnaaGreatDoor

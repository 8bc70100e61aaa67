/-
  The walk of l4apply at lanes, gates and bars.
-/
import Derived.Test.YtijdlbanfdhfnaaGreatDoorJDnSD3
namespace Go.Proofs.YtijdlbanfdhfnaaGreatDoor
open Go.RowKit

/-- The ways of a cell, so many of them done. -/
def lyW (d : Dc) (f : Flo) (c j : Nat) : Nat → Nat → Bool := fun x k => if x = c ∧ k < j then (if (k : Int) = d.dir then decide (d.kind ≠ 12) else if d.kind = 10 then false else f.ways x k) else f.ways x k
theorem FlM.ways {w : World} {F bw bc bd cw cc cd : Nat} {G : Nat → Nat} {f : Flo} {vt vf : Value} {ns : List (Tg × Value)} (h : FlM w F bw bc bd cw cc cd G f vt vf ns) (g : Nat → Nat → Bool) (hg : ∀ c k, k < 4 → f.ways c k = g c k) : FlM w F bw bc bd cw cc cd G { f with ways := g } vt vf ns :=
  ⟨h.blk, h.wl, h.co, h.wy, fun c hc => (h.wr c hc).congr fun k hk => by rw [hg c k hk], h.gi, h.gw, h.tg, h.tn, h.ts, h.fr, h.af, h.lw, h.lc, h.lg⟩

set_option maxHeartbeats 4000000 in
set_option maxRecDepth 1000000 in
theorem l4apply_10 (F bw bc bd cw cc cd : Nat) (G : Nat → Nat) (f : Flo) (vt vf : Value) (ns : List (Tg × Value)) (d : Dc) (v7 : Value) (i : Int) (w : World) (hk : d.kind = 10) (hf : FloOk f) (h7 : ∃ a n c, v7 = .slice a n c) (hm : FlM w F bw bc bd cw cc cd G f vt vf ns) :
    Calls Tryz.prog 15 #[.pointer (some ⟨F, 0, none⟩), dcagg d v7, .int .i64 i] w fun e w' => e = .returned (.int .i64 (apC f d)) ∧ (apC f d = 0 → FlM w' F bw bc bd cw cc cd G (layN d f (arL f.w d)) vt vf ns) ∧ Below F w w' := by
  have HM := hide hm
  have HFO := hide hf
  have f0 := hm.blk.cell 0
  have f1 := hm.blk.cell 1
  simp only [List.getElem?_toArray, List.getElem?_cons_succ, List.getElem?_cons_zero] at f0 f1
  have HFL : Hid (F < w.heap.size) := hm.blk.lt
  have HLC : Hid (bc < w.heap.size) := by obtain ⟨_, h1, _⟩ := hm.co; exact h1.lt
  have HCE := hide (fun w2 (h2 : Below w.heap.size w w2) => l4cells_any F f.w f.h d v7 w2 hf.w1 hf.h1 h7 (cell_kept f0 h2) (cell_kept f1 h2))
  obtain ⟨a7, n7, c7, rfl⟩ := h7
  have HA8 : Hid (¬ inF f.w f.h d ∨ False → apC f d = 8) := fun h => by
    unfold apC
    rw [if_neg (by omega), if_pos (h.imp id fun q => q.elim)]
  have HA0 : Hid (inF f.w f.h d → ¬ False → apC f d = 0) := fun h1 h2 => by
    unfold apC
    rw [if_neg (by omega), if_neg (fun q => q.elim (fun g => g h1) fun g => by omega), if_neg (by rw [hk]; decide)]
  unfold dcagg at HCE ⊢
  rw [hk] at HCE ⊢
  have HK := hide hk
  clear hk hf hm f0 f1
  obtain ⟨W1, hW1⟩ : ∃ W, w.alloc ( .cells #[.int .i64 10, .int .i64 d.x1, .int .i64 d.y1, .int .i64 d.x2, .int .i64 d.y2, .int .i64 d.dir, .int .i64 d.cost, .slice a7 n7 c7, .int .i64 d.node] 42) = W := ⟨_, rfl⟩
  have hB1 : Below w.heap.size w W1 := by rw [← hW1]; exact (Below.refl _ _).alloc (Nat.le_refl _) _
  have HB1 := hide hB1
  have HS1 : Hid (W1.heap.size = w.heap.size + 1) := by show _ = _; rw [← hW1, World.size_alloc]
  have HBK : Hid (Blk W1 w.heap.size 42 #[.int .i64 10, .int .i64 d.x1, .int .i64 d.y1, .int .i64 d.x2, .int .i64 d.y2, .int .i64 d.dir, .int .i64 d.cost, .slice a7 n7 c7, .int .i64 d.node]) := by rw [← hW1]; exact Blk.new _ _ _
  have HM1 := hide (HM.out.below hB1)
  have HZ : Hid (∀ j v, (#[.int .i64 10, .int .i64 d.x1, .int .i64 d.y1, .int .i64 d.x2, .int .i64 d.y2, .int .i64 d.dir, .int .i64 d.cost, .slice a7 n7 c7, .int .i64 d.node] : Array Value)[j]? = some v → W1.cell? ⟨w.heap.size, j, none⟩ = some v) := fun j v hv => by rw [HBK.out.cell j, hv]
  have z0 := HZ.out 0 _ rfl
  have z1 := HZ.out 1 _ rfl
  have z2 := HZ.out 2 _ rfl
  have z3 := HZ.out 3 _ rfl
  have z4 := HZ.out 4 _ rfl
  have z5 := HZ.out 5 _ rfl
  have z6 := HZ.out 6 _ rfl
  have z7 := HZ.out 7 _ rfl
  have z8 := HZ.out 8 _ rfl
  have HW := hide hW1
  clear hW1 hB1 HM
  go_enter Tryz.func15, Tryz.ntmps15
  go_wp2_with fail
  rw [HW.out]
  refine (HCE.out _ HB1.out).mono ?_
  rintro e w2 ⟨vc, b, rfl, hbi, hcs, hb2⟩
  have HBI := hide hbi
  have HIS := hide hcs
  have HB2 : Hid (Below w.heap.size w w2) := HB1.out.trans (hb2.mono HB1.out.size)
  have HBK2 := hide (HBK.out.below hb2)
  have HM2 := hide (HM1.out.below hb2)
  have HBF2 : Hid (Below F w w2) := HB2.out.mono (by have := HFL.out; omega)
  clear z0 z1 z2 z3 z4 z5 z6 z7 z8 hbi hcs hb2 HZ HW HBK HM1 HCE
  have HZ : Hid (∀ j v, (#[.int .i64 10, .int .i64 d.x1, .int .i64 d.y1, .int .i64 d.x2, .int .i64 d.y2, .int .i64 d.dir, .int .i64 d.cost, .slice a7 n7 c7, .int .i64 d.node] : Array Value)[j]? = some v → w2.cell? ⟨w.heap.size, j, none⟩ = some v) := fun j v hv => by rw [HBK2.out.cell j, hv]
  have z0 := HZ.out 0 _ rfl
  have z6 := HZ.out 6 _ rfl
  cases b with
  | false =>
    have HE : Hid (apC f d = 8) := HA8.out (.inl fun h => by have := HBI.out.2 h; cases this)
    go_wp2
    go_ret
    rw [HE.out]
    exact ⟨rfl, fun h => absurd h (by decide), HBF2.out⟩
  | true =>
    have HIN := hide (HBI.out.1 rfl)
    have hpos := arL_pos (w := f.w) (d := d)
    obtain ⟨gc, cp, rfl, hgc, hrw⟩ := ow_rw (HIS.out HIN.out) hpos
    have HRW := hide hrw
    have HGC : Hid (w.heap.size < gc) := by have := HB1.out.size; have h2 := HBK2.out.lt; show _ < _; have h3 : W1.heap.size = w.heap.size + 1 := HS1.out; omega
    clear HIS hrw hgc
    obtain ⟨L, hL⟩ : ∃ L, arL f.w d = L := ⟨_, rfl⟩
    have HLI : Hid (∀ c ∈ L, 0 ≤ c ∧ c < ((f.w * f.h : Nat) : Int)) := by rw [← hL]; exact arL_in HIN.out
    have HLL : Hid (L.length ≤ 40 * 40) := by rw [← hL]; exact Nat.le_trans (arL_le HIN.out) (Nat.mul_le_mul HFO.out.h1 HFO.out.w1)
    rw [hL] at HRW hpos ⊢
    have HL := hide hL
    have hLL := HLL.out
    go_wp2
    clear z0 z6
    rename World => w2'
    go_loopw [9] (fun ix wr => ∃ k : Nat, k ≤ L.length ∧ ix = .int .i64 k ∧ FlM wr F bw bc bd cw cc cd G (layN d f (L.take k)) vt vf ns ∧ Rw wr gc 3 L.length (fun j => .int .i64 (L.getD j 0)) ∧ Blk wr w.heap.size 42 #[.int .i64 10, .int .i64 d.x1, .int .i64 d.y1, .int .i64 d.x2, .int .i64 d.y2, .int .i64 d.dir, .int .i64 d.cost, .slice a7 n7 c7, .int .i64 d.node] ∧ Below F w wr) (fun ix _ => L.length - (intOf ix).toNat)
    case atStart => exact ⟨0, Nat.zero_le _, rfl, HM2.out, HRW.out, HBK2.out, HBF2.out⟩
    case round =>
      clear HM2 HRW HBK2 HBF2 HZ
      obtain ⟨k, hk, rfl, hm, hrw, hbk, hbf⟩ := hrel
      have HM := hide hm
      have HRW := hide hrw
      have HBK := hide hbk
      have HBF := hide hbf
      rename World => V
      by_cases hlt : k < L.length
      · have hlti : (k : Int) < (L.length : Int) := by omega
        have q1 := hrw.cell hlt
        have hmem : L.getD k 0 ∈ L := by rw [List.getD_eq_getElem?_getD, List.getElem?_eq_getElem hlt]; exact List.getElem_mem hlt
        obtain ⟨r0, r1⟩ := HLI.out _ hmem
        obtain ⟨c, hc⟩ : ∃ c : Nat, L.getD k 0 = c := ⟨(L.getD k 0).toNat, by omega⟩
        rw [hc] at q1 r1
        have HST : Hid (layN d f (L.take (k + 1)) = lay1 d (layN d f (L.take k)) c) := by show _ = _; rw [layN_take d f hlt, hc, Int.toNat_natCast]
        obtain ⟨f', hf'⟩ : ∃ f', layN d f (L.take k) = f' := ⟨_, rfl⟩
        have hwh := layN_same d (L.take k) f
        rw [hf'] at hwh HST HM hm
        have hcn : c < f'.w * f'.h := by rw [hwh.1, hwh.2]; omega
        have y0 := hbk.cell 0
        have y6 := hbk.cell 6
        have x2 := hm.blk.cell 2
        have x3 := hm.blk.cell 3
        simp only [List.getElem?_toArray, List.getElem?_cons_succ, List.getElem?_cons_zero] at y0 y6 x2 x3
        have x4 := hm.blk.cell 4
        simp only [List.getElem?_toArray, List.getElem?_cons_succ, List.getElem?_cons_zero] at x4
        have HCI : Hid (c < f'.w * f'.h) := hcn
        have HW0 : Hid (FlM V F bw bc bd cw cc cd G { f' with ways := lyW d f' c 0 } vt vf ns) := hm.ways _ fun x k _ => by unfold lyW; rw [if_neg (fun h => by omega)]
        clear hm hrw hbk hbf hmem r0 r1 hc hf' hwh x2 x3 x4
        go_wp2
        clear y0 y6 q1
        go_loopw [11] (fun iw wr => ∃ j : Nat, j ≤ 4 ∧ iw = .int .i64 j ∧ FlM wr F bw bc bd cw cc cd G { f' with ways := lyW d f' c j } vt vf ns ∧ Rw wr gc 3 L.length (fun j => .int .i64 (L.getD j 0)) ∧ Blk wr w.heap.size 42 #[.int .i64 10, .int .i64 d.x1, .int .i64 d.y1, .int .i64 d.x2, .int .i64 d.y2, .int .i64 d.dir, .int .i64 d.cost, .slice a7 n7 c7, .int .i64 d.node] ∧ Below F w wr) (fun iw _ => 4 - (intOf iw).toNat)
        case atStart => exact ⟨0, by omega, rfl, HW0.out, HRW.out, HBK.out, HBF.out⟩
        case round =>
          clear HW0 HRW HBK HBF HM
          obtain ⟨j, hj, rfl, hm, hrw, hbk, hbf⟩ := hrel
          have HM := hide hm
          have HRW := hide hrw
          have HBK := hide hbk
          have HBF := hide hbf
          rename World => X
          by_cases hl4 : j < 4
          · have hl4i : (j : Int) < 4 := by omega
            have y0 := hbk.cell 0
            have y5 := hbk.cell 5
            have x4 := hm.blk.cell 4
            simp only [List.getElem?_toArray, List.getElem?_cons_succ, List.getElem?_cons_zero] at y0 y5 x4
            have q4 := hm.wy.cell HCI.out
            have q5 := (hm.wr c HCI.out).cell hl4
            have q6 := (hm.wr c HCI.out).frozen j
            have HALL : Hid (∀ b, (if (j : Int) = d.dir then decide (d.kind ≠ 12) else if d.kind = 10 then false else f'.ways c j) = b → FlM (X.setCell ⟨G c, j, none⟩ (.bool b)) F bw bc bd cw cc cd G { f' with ways := lyW d f' c (j + 1) } vt vf ns ∧ Rw (X.setCell ⟨G c, j, none⟩ (.bool b)) gc 3 L.length (fun j => .int .i64 (L.getD j 0)) ∧ Blk (X.setCell ⟨G c, j, none⟩ (.bool b)) w.heap.size 42 #[.int .i64 10, .int .i64 d.x1, .int .i64 d.y1, .int .i64 d.x2, .int .i64 d.y2, .int .i64 d.dir, .int .i64 d.cost, .slice a7 n7 c7, .int .i64 d.node] ∧ Below F w (X.setCell ⟨G c, j, none⟩ (.bool b))) := fun b hb => by
              have hm' := HM.out
              refine ⟨?_, HRW.out.typed (hm'.wr c HCI.out) (by decide), ?_, HBF.out.setCell (by have := hm'.lg c HCI.out; show F ≤ G c; omega) _⟩
              · have h1 := hm'.setWay HCI.out j b
                refine h1.ways _ fun x k _ => ?_
                show (if x = c ∧ k = j then b else lyW d f' c j x k) = lyW d f' c (j + 1) x k
                unfold lyW
                by_cases q : x = c ∧ k = j
                · rw [if_pos q, if_pos (show x = c ∧ k < j + 1 from ⟨q.1, by have := q.2; omega⟩), ← hb, q.1, q.2]
                · rw [if_neg q]
                  by_cases r : x = c ∧ k < j
                  · rw [if_pos r, if_pos (show x = c ∧ k < j + 1 from ⟨r.1, by omega⟩)]
                  · rw [if_neg r, if_neg (show ¬ (x = c ∧ k < j + 1) from fun h => by
                      by_cases e : k = j
                      · exact q ⟨h.1, e⟩
                      · exact r ⟨h.1, by omega⟩)]
              · obtain ⟨cs, h1, _⟩ := hm'.wr c HCI.out
                exact set_typed h1 HBK.out (by decide)
            have HSAM : Hid ((if (j : Int) = d.dir then decide (d.kind ≠ 12) else if d.kind = 10 then false else f'.ways c j) = f'.ways c j → FlM X F bw bc bd cw cc cd G { f' with ways := lyW d f' c (j + 1) } vt vf ns) := fun hb => by
              refine HM.out.ways _ fun x k _ => ?_
              show lyW d f' c j x k = lyW d f' c (j + 1) x k
              unfold lyW
              by_cases r : x = c ∧ k < j
              · rw [if_pos r, if_pos (show x = c ∧ k < j + 1 from ⟨r.1, by omega⟩)]
              · rw [if_neg r]
                by_cases q : x = c ∧ k = j
                · rw [if_pos (show x = c ∧ k < j + 1 from ⟨q.1, by have := q.2; omega⟩), q.1, q.2, hb]
                · rw [if_neg (show ¬ (x = c ∧ k < j + 1) from fun h => by
                    by_cases e : k = j
                    · exact q ⟨h.1, e⟩
                    · exact r ⟨h.1, by omega⟩)]
            have hcn : c < f'.w * f'.h := HCI.out
            have hci : (c : Int) < ((f'.w * f'.h : Nat) : Int) := by omega
            obtain ⟨nn, hnn⟩ : ∃ n, f'.w * f'.h = n := ⟨_, rfl⟩
            rw [show ({ f' with ways := lyW d f' c j } : Flo).w * ({ f' with ways := lyW d f' c j } : Flo).h = nn from hnn] at x4
            rw [hnn] at hci hcn
            obtain ⟨old, hold⟩ : ∃ b, ({ f' with ways := lyW d f' c j } : Flo).ways c j = b := ⟨_, rfl⟩
            rw [hold] at q5
            clear hm hrw hbk hbf hnn hold
            by_cases e : (j : Int) = d.dir
            · have te : ((j : Int) == d.dir) = true := by rw [beq_iff_eq]; exact e
              have HB : Hid ((if (j : Int) = d.dir then decide (d.kind ≠ 12) else if d.kind = 10 then false else f'.ways c j) = true) := by
                show _ = _
                rw [if_pos e, HK.out]
                rfl
              clear e
              go_wp2_with fail
              go_region
              go_wp2
              go_roundw
              case rel =>
                obtain ⟨a1, a2, a3, a4⟩ := HALL.out _ HB.out
                exact ⟨j + 1, by omega, by go_num, a1.below (Below.refl _ _).drew, a2.below (Below.refl _ _).drew, a3.below (Below.refl _ _).drew, a4.drew⟩
              case measure => simp [intOf]; omega
            · have te : ((j : Int) == d.dir) = false := by rw [beq_eq_false_iff_ne]; exact e
              have HB : Hid ((if (j : Int) = d.dir then decide (d.kind ≠ 12) else if d.kind = 10 then false else f'.ways c j) = false) := by
                show _ = _
                rw [if_neg e, if_pos HK.out]
              clear e
              go_wp2
              go_roundw
              case rel =>
                obtain ⟨a1, a2, a3, a4⟩ := HALL.out _ HB.out
                exact ⟨j + 1, by omega, by go_num, a1, a2, a3, a4⟩
              case measure => simp [intOf]; omega
          · obtain rfl : j = 4 := by omega
            have HM3 : Hid (FlM X F bw bc bd cw cc cd G (layN d f (L.take (k + 1))) vt vf ns) := by
              have h1 := hm.ways (fun x k => if x = c then (if (k : Int) = d.dir then decide (d.kind ≠ 12) else if d.kind = 10 then false else f'.ways x k) else f'.ways x k) fun x k hk => by
                show lyW d f' c 4 x k = _
                unfold lyW
                by_cases q : x = c
                · rw [if_pos (show x = c ∧ k < 4 from ⟨q, hk⟩), if_pos q]
                · rw [if_neg (show ¬ (x = c ∧ k < 4) from fun h => q h.1), if_neg q]
              rw [HST.out]
              unfold lay1
              rw [if_neg (by rw [HK.out]; decide), if_neg (by rw [HK.out]; decide), if_neg (by rw [HK.out]; decide)]
              exact h1
            clear hm hrw hbk hbf
            go_wp2
            go_roundw
            case rel => exact ⟨k + 1, by omega, by go_num, HM3.out, HRW.out, HBK.out, HBF.out⟩
            case measure => simp [intOf]; omega
      · have hge : ¬ (k : Int) < (L.length : Int) := by omega
        obtain rfl : k = L.length := by omega
        have HE : Hid (apC f d = 0) := HA0.out HIN.out (fun h => h)
        have HMF : Hid (FlM V F bw bc bd cw cc cd G (layN d f L) vt vf ns) := by have := hm; rw [List.take_length] at this; exact this
        clear hm hrw hbk hbf
        go_wp2
        go_ret
        rw [HE.out]
        exact ⟨rfl, fun _ => HMF.out, HBF.out⟩
set_option maxHeartbeats 4000000 in
set_option maxRecDepth 1000000 in
theorem l4apply_11 (F bw bc bd cw cc cd : Nat) (G : Nat → Nat) (f : Flo) (vt vf : Value) (ns : List (Tg × Value)) (d : Dc) (v7 : Value) (i : Int) (w : World) (hk : d.kind = 11) (hf : FloOk f) (h7 : ∃ a n c, v7 = .slice a n c) (hm : FlM w F bw bc bd cw cc cd G f vt vf ns) :
    Calls Tryz.prog 15 #[.pointer (some ⟨F, 0, none⟩), dcagg d v7, .int .i64 i] w fun e w' => e = .returned (.int .i64 (apC f d)) ∧ (apC f d = 0 → FlM w' F bw bc bd cw cc cd G (layN d f (arL f.w d)) vt vf ns) ∧ Below F w w' := by
  have HM := hide hm
  have HFO := hide hf
  have f0 := hm.blk.cell 0
  have f1 := hm.blk.cell 1
  simp only [List.getElem?_toArray, List.getElem?_cons_succ, List.getElem?_cons_zero] at f0 f1
  have HFL : Hid (F < w.heap.size) := hm.blk.lt
  have HLC : Hid (bc < w.heap.size) := by obtain ⟨_, h1, _⟩ := hm.co; exact h1.lt
  have HCE := hide (fun w2 (h2 : Below w.heap.size w w2) => l4cells_any F f.w f.h d v7 w2 hf.w1 hf.h1 h7 (cell_kept f0 h2) (cell_kept f1 h2))
  obtain ⟨a7, n7, c7, rfl⟩ := h7
  have HA8 : Hid (¬ inF f.w f.h d ∨ False → apC f d = 8) := fun h => by
    unfold apC
    rw [if_neg (by omega), if_pos (h.imp id fun q => q.elim)]
  have HA0 : Hid (inF f.w f.h d → ¬ False → apC f d = 0) := fun h1 h2 => by
    unfold apC
    rw [if_neg (by omega), if_neg (fun q => q.elim (fun g => g h1) fun g => by omega), if_neg (by rw [hk]; decide)]
  unfold dcagg at HCE ⊢
  rw [hk] at HCE ⊢
  have HK := hide hk
  clear hk hf hm f0 f1
  obtain ⟨W1, hW1⟩ : ∃ W, w.alloc ( .cells #[.int .i64 11, .int .i64 d.x1, .int .i64 d.y1, .int .i64 d.x2, .int .i64 d.y2, .int .i64 d.dir, .int .i64 d.cost, .slice a7 n7 c7, .int .i64 d.node] 42) = W := ⟨_, rfl⟩
  have hB1 : Below w.heap.size w W1 := by rw [← hW1]; exact (Below.refl _ _).alloc (Nat.le_refl _) _
  have HB1 := hide hB1
  have HS1 : Hid (W1.heap.size = w.heap.size + 1) := by show _ = _; rw [← hW1, World.size_alloc]
  have HBK : Hid (Blk W1 w.heap.size 42 #[.int .i64 11, .int .i64 d.x1, .int .i64 d.y1, .int .i64 d.x2, .int .i64 d.y2, .int .i64 d.dir, .int .i64 d.cost, .slice a7 n7 c7, .int .i64 d.node]) := by rw [← hW1]; exact Blk.new _ _ _
  have HM1 := hide (HM.out.below hB1)
  have HZ : Hid (∀ j v, (#[.int .i64 11, .int .i64 d.x1, .int .i64 d.y1, .int .i64 d.x2, .int .i64 d.y2, .int .i64 d.dir, .int .i64 d.cost, .slice a7 n7 c7, .int .i64 d.node] : Array Value)[j]? = some v → W1.cell? ⟨w.heap.size, j, none⟩ = some v) := fun j v hv => by rw [HBK.out.cell j, hv]
  have z0 := HZ.out 0 _ rfl
  have z1 := HZ.out 1 _ rfl
  have z2 := HZ.out 2 _ rfl
  have z3 := HZ.out 3 _ rfl
  have z4 := HZ.out 4 _ rfl
  have z5 := HZ.out 5 _ rfl
  have z6 := HZ.out 6 _ rfl
  have z7 := HZ.out 7 _ rfl
  have z8 := HZ.out 8 _ rfl
  have HW := hide hW1
  clear hW1 hB1 HM
  go_enter Tryz.func15, Tryz.ntmps15
  go_wp2_with fail
  rw [HW.out]
  refine (HCE.out _ HB1.out).mono ?_
  rintro e w2 ⟨vc, b, rfl, hbi, hcs, hb2⟩
  have HBI := hide hbi
  have HIS := hide hcs
  have HB2 : Hid (Below w.heap.size w w2) := HB1.out.trans (hb2.mono HB1.out.size)
  have HBK2 := hide (HBK.out.below hb2)
  have HM2 := hide (HM1.out.below hb2)
  have HBF2 : Hid (Below F w w2) := HB2.out.mono (by have := HFL.out; omega)
  clear z0 z1 z2 z3 z4 z5 z6 z7 z8 hbi hcs hb2 HZ HW HBK HM1 HCE
  have HZ : Hid (∀ j v, (#[.int .i64 11, .int .i64 d.x1, .int .i64 d.y1, .int .i64 d.x2, .int .i64 d.y2, .int .i64 d.dir, .int .i64 d.cost, .slice a7 n7 c7, .int .i64 d.node] : Array Value)[j]? = some v → w2.cell? ⟨w.heap.size, j, none⟩ = some v) := fun j v hv => by rw [HBK2.out.cell j, hv]
  have z0 := HZ.out 0 _ rfl
  have z6 := HZ.out 6 _ rfl
  cases b with
  | false =>
    have HE : Hid (apC f d = 8) := HA8.out (.inl fun h => by have := HBI.out.2 h; cases this)
    go_wp2
    go_ret
    rw [HE.out]
    exact ⟨rfl, fun h => absurd h (by decide), HBF2.out⟩
  | true =>
    have HIN := hide (HBI.out.1 rfl)
    have hpos := arL_pos (w := f.w) (d := d)
    obtain ⟨gc, cp, rfl, hgc, hrw⟩ := ow_rw (HIS.out HIN.out) hpos
    have HRW := hide hrw
    have HGC : Hid (w.heap.size < gc) := by have := HB1.out.size; have h2 := HBK2.out.lt; show _ < _; have h3 : W1.heap.size = w.heap.size + 1 := HS1.out; omega
    clear HIS hrw hgc
    obtain ⟨L, hL⟩ : ∃ L, arL f.w d = L := ⟨_, rfl⟩
    have HLI : Hid (∀ c ∈ L, 0 ≤ c ∧ c < ((f.w * f.h : Nat) : Int)) := by rw [← hL]; exact arL_in HIN.out
    have HLL : Hid (L.length ≤ 40 * 40) := by rw [← hL]; exact Nat.le_trans (arL_le HIN.out) (Nat.mul_le_mul HFO.out.h1 HFO.out.w1)
    rw [hL] at HRW hpos ⊢
    have HL := hide hL
    have hLL := HLL.out
    go_wp2
    clear z0 z6
    rename World => w2'
    go_loopw [9] (fun ix wr => ∃ k : Nat, k ≤ L.length ∧ ix = .int .i64 k ∧ FlM wr F bw bc bd cw cc cd G (layN d f (L.take k)) vt vf ns ∧ Rw wr gc 3 L.length (fun j => .int .i64 (L.getD j 0)) ∧ Blk wr w.heap.size 42 #[.int .i64 11, .int .i64 d.x1, .int .i64 d.y1, .int .i64 d.x2, .int .i64 d.y2, .int .i64 d.dir, .int .i64 d.cost, .slice a7 n7 c7, .int .i64 d.node] ∧ Below F w wr) (fun ix _ => L.length - (intOf ix).toNat)
    case atStart => exact ⟨0, Nat.zero_le _, rfl, HM2.out, HRW.out, HBK2.out, HBF2.out⟩
    case round =>
      clear HM2 HRW HBK2 HBF2 HZ
      obtain ⟨k, hk, rfl, hm, hrw, hbk, hbf⟩ := hrel
      have HM := hide hm
      have HRW := hide hrw
      have HBK := hide hbk
      have HBF := hide hbf
      rename World => V
      by_cases hlt : k < L.length
      · have hlti : (k : Int) < (L.length : Int) := by omega
        have q1 := hrw.cell hlt
        have hmem : L.getD k 0 ∈ L := by rw [List.getD_eq_getElem?_getD, List.getElem?_eq_getElem hlt]; exact List.getElem_mem hlt
        obtain ⟨r0, r1⟩ := HLI.out _ hmem
        obtain ⟨c, hc⟩ : ∃ c : Nat, L.getD k 0 = c := ⟨(L.getD k 0).toNat, by omega⟩
        rw [hc] at q1 r1
        have HST : Hid (layN d f (L.take (k + 1)) = lay1 d (layN d f (L.take k)) c) := by show _ = _; rw [layN_take d f hlt, hc, Int.toNat_natCast]
        obtain ⟨f', hf'⟩ : ∃ f', layN d f (L.take k) = f' := ⟨_, rfl⟩
        have hwh := layN_same d (L.take k) f
        rw [hf'] at hwh HST HM hm
        have hcn : c < f'.w * f'.h := by rw [hwh.1, hwh.2]; omega
        have y0 := hbk.cell 0
        have y6 := hbk.cell 6
        have x2 := hm.blk.cell 2
        have x3 := hm.blk.cell 3
        simp only [List.getElem?_toArray, List.getElem?_cons_succ, List.getElem?_cons_zero] at y0 y6 x2 x3
        have x4 := hm.blk.cell 4
        simp only [List.getElem?_toArray, List.getElem?_cons_succ, List.getElem?_cons_zero] at x4
        have HCI : Hid (c < f'.w * f'.h) := hcn
        have HW0 : Hid (FlM V F bw bc bd cw cc cd G { f' with ways := lyW d f' c 0 } vt vf ns) := hm.ways _ fun x k _ => by unfold lyW; rw [if_neg (fun h => by omega)]
        clear hm hrw hbk hbf hmem r0 r1 hc hf' hwh x2 x3 x4
        go_wp2
        clear y0 y6 q1
        go_loopw [11] (fun iw wr => ∃ j : Nat, j ≤ 4 ∧ iw = .int .i64 j ∧ FlM wr F bw bc bd cw cc cd G { f' with ways := lyW d f' c j } vt vf ns ∧ Rw wr gc 3 L.length (fun j => .int .i64 (L.getD j 0)) ∧ Blk wr w.heap.size 42 #[.int .i64 11, .int .i64 d.x1, .int .i64 d.y1, .int .i64 d.x2, .int .i64 d.y2, .int .i64 d.dir, .int .i64 d.cost, .slice a7 n7 c7, .int .i64 d.node] ∧ Below F w wr) (fun iw _ => 4 - (intOf iw).toNat)
        case atStart => exact ⟨0, by omega, rfl, HW0.out, HRW.out, HBK.out, HBF.out⟩
        case round =>
          clear HW0 HRW HBK HBF HM
          obtain ⟨j, hj, rfl, hm, hrw, hbk, hbf⟩ := hrel
          have HM := hide hm
          have HRW := hide hrw
          have HBK := hide hbk
          have HBF := hide hbf
          rename World => X
          by_cases hl4 : j < 4
          · have hl4i : (j : Int) < 4 := by omega
            have y0 := hbk.cell 0
            have y5 := hbk.cell 5
            have x4 := hm.blk.cell 4
            simp only [List.getElem?_toArray, List.getElem?_cons_succ, List.getElem?_cons_zero] at y0 y5 x4
            have q4 := hm.wy.cell HCI.out
            have q5 := (hm.wr c HCI.out).cell hl4
            have q6 := (hm.wr c HCI.out).frozen j
            have HALL : Hid (∀ b, (if (j : Int) = d.dir then decide (d.kind ≠ 12) else if d.kind = 10 then false else f'.ways c j) = b → FlM (X.setCell ⟨G c, j, none⟩ (.bool b)) F bw bc bd cw cc cd G { f' with ways := lyW d f' c (j + 1) } vt vf ns ∧ Rw (X.setCell ⟨G c, j, none⟩ (.bool b)) gc 3 L.length (fun j => .int .i64 (L.getD j 0)) ∧ Blk (X.setCell ⟨G c, j, none⟩ (.bool b)) w.heap.size 42 #[.int .i64 11, .int .i64 d.x1, .int .i64 d.y1, .int .i64 d.x2, .int .i64 d.y2, .int .i64 d.dir, .int .i64 d.cost, .slice a7 n7 c7, .int .i64 d.node] ∧ Below F w (X.setCell ⟨G c, j, none⟩ (.bool b))) := fun b hb => by
              have hm' := HM.out
              refine ⟨?_, HRW.out.typed (hm'.wr c HCI.out) (by decide), ?_, HBF.out.setCell (by have := hm'.lg c HCI.out; show F ≤ G c; omega) _⟩
              · have h1 := hm'.setWay HCI.out j b
                refine h1.ways _ fun x k _ => ?_
                show (if x = c ∧ k = j then b else lyW d f' c j x k) = lyW d f' c (j + 1) x k
                unfold lyW
                by_cases q : x = c ∧ k = j
                · rw [if_pos q, if_pos (show x = c ∧ k < j + 1 from ⟨q.1, by have := q.2; omega⟩), ← hb, q.1, q.2]
                · rw [if_neg q]
                  by_cases r : x = c ∧ k < j
                  · rw [if_pos r, if_pos (show x = c ∧ k < j + 1 from ⟨r.1, by omega⟩)]
                  · rw [if_neg r, if_neg (show ¬ (x = c ∧ k < j + 1) from fun h => by
                      by_cases e : k = j
                      · exact q ⟨h.1, e⟩
                      · exact r ⟨h.1, by omega⟩)]
              · obtain ⟨cs, h1, _⟩ := hm'.wr c HCI.out
                exact set_typed h1 HBK.out (by decide)
            have HSAM : Hid ((if (j : Int) = d.dir then decide (d.kind ≠ 12) else if d.kind = 10 then false else f'.ways c j) = f'.ways c j → FlM X F bw bc bd cw cc cd G { f' with ways := lyW d f' c (j + 1) } vt vf ns) := fun hb => by
              refine HM.out.ways _ fun x k _ => ?_
              show lyW d f' c j x k = lyW d f' c (j + 1) x k
              unfold lyW
              by_cases r : x = c ∧ k < j
              · rw [if_pos r, if_pos (show x = c ∧ k < j + 1 from ⟨r.1, by omega⟩)]
              · rw [if_neg r]
                by_cases q : x = c ∧ k = j
                · rw [if_pos (show x = c ∧ k < j + 1 from ⟨q.1, by have := q.2; omega⟩), q.1, q.2, hb]
                · rw [if_neg (show ¬ (x = c ∧ k < j + 1) from fun h => by
                    by_cases e : k = j
                    · exact q ⟨h.1, e⟩
                    · exact r ⟨h.1, by omega⟩)]
            have hcn : c < f'.w * f'.h := HCI.out
            have hci : (c : Int) < ((f'.w * f'.h : Nat) : Int) := by omega
            obtain ⟨nn, hnn⟩ : ∃ n, f'.w * f'.h = n := ⟨_, rfl⟩
            rw [show ({ f' with ways := lyW d f' c j } : Flo).w * ({ f' with ways := lyW d f' c j } : Flo).h = nn from hnn] at x4
            rw [hnn] at hci hcn
            obtain ⟨old, hold⟩ : ∃ b, ({ f' with ways := lyW d f' c j } : Flo).ways c j = b := ⟨_, rfl⟩
            rw [hold] at q5
            clear hm hrw hbk hbf hnn hold
            by_cases e : (j : Int) = d.dir
            · have te : ((j : Int) == d.dir) = true := by rw [beq_iff_eq]; exact e
              have HB : Hid ((if (j : Int) = d.dir then decide (d.kind ≠ 12) else if d.kind = 10 then false else f'.ways c j) = true) := by
                show _ = _
                rw [if_pos e, HK.out]
                rfl
              clear e
              go_wp2_with fail
              go_region
              go_wp2
              go_roundw
              case rel =>
                obtain ⟨a1, a2, a3, a4⟩ := HALL.out _ HB.out
                exact ⟨j + 1, by omega, by go_num, a1.below (Below.refl _ _).drew, a2.below (Below.refl _ _).drew, a3.below (Below.refl _ _).drew, a4.drew⟩
              case measure => simp [intOf]; omega
            · have te : ((j : Int) == d.dir) = false := by rw [beq_eq_false_iff_ne]; exact e
              have HB : Hid ((if (j : Int) = d.dir then decide (d.kind ≠ 12) else if d.kind = 10 then false else f'.ways c j) = f'.ways c j) := by
                show _ = _
                rw [if_neg e, if_neg (by rw [HK.out]; decide)]
              clear e
              go_wp2
              go_roundw
              case rel => exact ⟨j + 1, by omega, by go_num, HSAM.out HB.out, HRW.out, HBK.out, HBF.out⟩
              case measure => simp [intOf]; omega
          · obtain rfl : j = 4 := by omega
            have HM3 : Hid (FlM X F bw bc bd cw cc cd G (layN d f (L.take (k + 1))) vt vf ns) := by
              have h1 := hm.ways (fun x k => if x = c then (if (k : Int) = d.dir then decide (d.kind ≠ 12) else if d.kind = 10 then false else f'.ways x k) else f'.ways x k) fun x k hk => by
                show lyW d f' c 4 x k = _
                unfold lyW
                by_cases q : x = c
                · rw [if_pos (show x = c ∧ k < 4 from ⟨q, hk⟩), if_pos q]
                · rw [if_neg (show ¬ (x = c ∧ k < 4) from fun h => q h.1), if_neg q]
              rw [HST.out]
              unfold lay1
              rw [if_neg (by rw [HK.out]; decide), if_neg (by rw [HK.out]; decide), if_neg (by rw [HK.out]; decide)]
              exact h1
            clear hm hrw hbk hbf
            go_wp2
            go_roundw
            case rel => exact ⟨k + 1, by omega, by go_num, HM3.out, HRW.out, HBK.out, HBF.out⟩
            case measure => simp [intOf]; omega
      · have hge : ¬ (k : Int) < (L.length : Int) := by omega
        obtain rfl : k = L.length := by omega
        have HE : Hid (apC f d = 0) := HA0.out HIN.out (fun h => h)
        have HMF : Hid (FlM V F bw bc bd cw cc cd G (layN d f L) vt vf ns) := by have := hm; rw [List.take_length] at this; exact this
        clear hm hrw hbk hbf
        go_wp2
        go_ret
        rw [HE.out]
        exact ⟨rfl, fun _ => HMF.out, HBF.out⟩
set_option maxHeartbeats 4000000 in
set_option maxRecDepth 1000000 in
theorem l4apply_12 (F bw bc bd cw cc cd : Nat) (G : Nat → Nat) (f : Flo) (vt vf : Value) (ns : List (Tg × Value)) (d : Dc) (v7 : Value) (i : Int) (w : World) (hk : d.kind = 12) (hf : FloOk f) (h7 : ∃ a n c, v7 = .slice a n c) (hm : FlM w F bw bc bd cw cc cd G f vt vf ns) :
    Calls Tryz.prog 15 #[.pointer (some ⟨F, 0, none⟩), dcagg d v7, .int .i64 i] w fun e w' => e = .returned (.int .i64 (apC f d)) ∧ (apC f d = 0 → FlM w' F bw bc bd cw cc cd G (layN d f (arL f.w d)) vt vf ns) ∧ Below F w w' := by
  have HM := hide hm
  have HFO := hide hf
  have f0 := hm.blk.cell 0
  have f1 := hm.blk.cell 1
  simp only [List.getElem?_toArray, List.getElem?_cons_succ, List.getElem?_cons_zero] at f0 f1
  have HFL : Hid (F < w.heap.size) := hm.blk.lt
  have HLC : Hid (bc < w.heap.size) := by obtain ⟨_, h1, _⟩ := hm.co; exact h1.lt
  have HCE := hide (fun w2 (h2 : Below w.heap.size w w2) => l4cells_any F f.w f.h d v7 w2 hf.w1 hf.h1 h7 (cell_kept f0 h2) (cell_kept f1 h2))
  obtain ⟨a7, n7, c7, rfl⟩ := h7
  have HA8 : Hid (¬ inF f.w f.h d ∨ False → apC f d = 8) := fun h => by
    unfold apC
    rw [if_neg (by omega), if_pos (h.imp id fun q => q.elim)]
  have HA0 : Hid (inF f.w f.h d → ¬ False → apC f d = 0) := fun h1 h2 => by
    unfold apC
    rw [if_neg (by omega), if_neg (fun q => q.elim (fun g => g h1) fun g => by omega), if_neg (by rw [hk]; decide)]
  unfold dcagg at HCE ⊢
  rw [hk] at HCE ⊢
  have HK := hide hk
  clear hk hf hm f0 f1
  obtain ⟨W1, hW1⟩ : ∃ W, w.alloc ( .cells #[.int .i64 12, .int .i64 d.x1, .int .i64 d.y1, .int .i64 d.x2, .int .i64 d.y2, .int .i64 d.dir, .int .i64 d.cost, .slice a7 n7 c7, .int .i64 d.node] 42) = W := ⟨_, rfl⟩
  have hB1 : Below w.heap.size w W1 := by rw [← hW1]; exact (Below.refl _ _).alloc (Nat.le_refl _) _
  have HB1 := hide hB1
  have HS1 : Hid (W1.heap.size = w.heap.size + 1) := by show _ = _; rw [← hW1, World.size_alloc]
  have HBK : Hid (Blk W1 w.heap.size 42 #[.int .i64 12, .int .i64 d.x1, .int .i64 d.y1, .int .i64 d.x2, .int .i64 d.y2, .int .i64 d.dir, .int .i64 d.cost, .slice a7 n7 c7, .int .i64 d.node]) := by rw [← hW1]; exact Blk.new _ _ _
  have HM1 := hide (HM.out.below hB1)
  have HZ : Hid (∀ j v, (#[.int .i64 12, .int .i64 d.x1, .int .i64 d.y1, .int .i64 d.x2, .int .i64 d.y2, .int .i64 d.dir, .int .i64 d.cost, .slice a7 n7 c7, .int .i64 d.node] : Array Value)[j]? = some v → W1.cell? ⟨w.heap.size, j, none⟩ = some v) := fun j v hv => by rw [HBK.out.cell j, hv]
  have z0 := HZ.out 0 _ rfl
  have z1 := HZ.out 1 _ rfl
  have z2 := HZ.out 2 _ rfl
  have z3 := HZ.out 3 _ rfl
  have z4 := HZ.out 4 _ rfl
  have z5 := HZ.out 5 _ rfl
  have z6 := HZ.out 6 _ rfl
  have z7 := HZ.out 7 _ rfl
  have z8 := HZ.out 8 _ rfl
  have HW := hide hW1
  clear hW1 hB1 HM
  go_enter Tryz.func15, Tryz.ntmps15
  go_wp2_with fail
  rw [HW.out]
  refine (HCE.out _ HB1.out).mono ?_
  rintro e w2 ⟨vc, b, rfl, hbi, hcs, hb2⟩
  have HBI := hide hbi
  have HIS := hide hcs
  have HB2 : Hid (Below w.heap.size w w2) := HB1.out.trans (hb2.mono HB1.out.size)
  have HBK2 := hide (HBK.out.below hb2)
  have HM2 := hide (HM1.out.below hb2)
  have HBF2 : Hid (Below F w w2) := HB2.out.mono (by have := HFL.out; omega)
  clear z0 z1 z2 z3 z4 z5 z6 z7 z8 hbi hcs hb2 HZ HW HBK HM1 HCE
  have HZ : Hid (∀ j v, (#[.int .i64 12, .int .i64 d.x1, .int .i64 d.y1, .int .i64 d.x2, .int .i64 d.y2, .int .i64 d.dir, .int .i64 d.cost, .slice a7 n7 c7, .int .i64 d.node] : Array Value)[j]? = some v → w2.cell? ⟨w.heap.size, j, none⟩ = some v) := fun j v hv => by rw [HBK2.out.cell j, hv]
  have z0 := HZ.out 0 _ rfl
  have z6 := HZ.out 6 _ rfl
  cases b with
  | false =>
    have HE : Hid (apC f d = 8) := HA8.out (.inl fun h => by have := HBI.out.2 h; cases this)
    go_wp2
    go_ret
    rw [HE.out]
    exact ⟨rfl, fun h => absurd h (by decide), HBF2.out⟩
  | true =>
    have HIN := hide (HBI.out.1 rfl)
    have hpos := arL_pos (w := f.w) (d := d)
    obtain ⟨gc, cp, rfl, hgc, hrw⟩ := ow_rw (HIS.out HIN.out) hpos
    have HRW := hide hrw
    have HGC : Hid (w.heap.size < gc) := by have := HB1.out.size; have h2 := HBK2.out.lt; show _ < _; have h3 : W1.heap.size = w.heap.size + 1 := HS1.out; omega
    clear HIS hrw hgc
    obtain ⟨L, hL⟩ : ∃ L, arL f.w d = L := ⟨_, rfl⟩
    have HLI : Hid (∀ c ∈ L, 0 ≤ c ∧ c < ((f.w * f.h : Nat) : Int)) := by rw [← hL]; exact arL_in HIN.out
    have HLL : Hid (L.length ≤ 40 * 40) := by rw [← hL]; exact Nat.le_trans (arL_le HIN.out) (Nat.mul_le_mul HFO.out.h1 HFO.out.w1)
    rw [hL] at HRW hpos ⊢
    have HL := hide hL
    have hLL := HLL.out
    go_wp2
    clear z0 z6
    rename World => w2'
    go_loopw [9] (fun ix wr => ∃ k : Nat, k ≤ L.length ∧ ix = .int .i64 k ∧ FlM wr F bw bc bd cw cc cd G (layN d f (L.take k)) vt vf ns ∧ Rw wr gc 3 L.length (fun j => .int .i64 (L.getD j 0)) ∧ Blk wr w.heap.size 42 #[.int .i64 12, .int .i64 d.x1, .int .i64 d.y1, .int .i64 d.x2, .int .i64 d.y2, .int .i64 d.dir, .int .i64 d.cost, .slice a7 n7 c7, .int .i64 d.node] ∧ Below F w wr) (fun ix _ => L.length - (intOf ix).toNat)
    case atStart => exact ⟨0, Nat.zero_le _, rfl, HM2.out, HRW.out, HBK2.out, HBF2.out⟩
    case round =>
      clear HM2 HRW HBK2 HBF2 HZ
      obtain ⟨k, hk, rfl, hm, hrw, hbk, hbf⟩ := hrel
      have HM := hide hm
      have HRW := hide hrw
      have HBK := hide hbk
      have HBF := hide hbf
      rename World => V
      by_cases hlt : k < L.length
      · have hlti : (k : Int) < (L.length : Int) := by omega
        have q1 := hrw.cell hlt
        have hmem : L.getD k 0 ∈ L := by rw [List.getD_eq_getElem?_getD, List.getElem?_eq_getElem hlt]; exact List.getElem_mem hlt
        obtain ⟨r0, r1⟩ := HLI.out _ hmem
        obtain ⟨c, hc⟩ : ∃ c : Nat, L.getD k 0 = c := ⟨(L.getD k 0).toNat, by omega⟩
        rw [hc] at q1 r1
        have HST : Hid (layN d f (L.take (k + 1)) = lay1 d (layN d f (L.take k)) c) := by show _ = _; rw [layN_take d f hlt, hc, Int.toNat_natCast]
        obtain ⟨f', hf'⟩ : ∃ f', layN d f (L.take k) = f' := ⟨_, rfl⟩
        have hwh := layN_same d (L.take k) f
        rw [hf'] at hwh HST HM hm
        have hcn : c < f'.w * f'.h := by rw [hwh.1, hwh.2]; omega
        have y0 := hbk.cell 0
        have y6 := hbk.cell 6
        have x2 := hm.blk.cell 2
        have x3 := hm.blk.cell 3
        simp only [List.getElem?_toArray, List.getElem?_cons_succ, List.getElem?_cons_zero] at y0 y6 x2 x3
        have x4 := hm.blk.cell 4
        simp only [List.getElem?_toArray, List.getElem?_cons_succ, List.getElem?_cons_zero] at x4
        have HCI : Hid (c < f'.w * f'.h) := hcn
        have HW0 : Hid (FlM V F bw bc bd cw cc cd G { f' with ways := lyW d f' c 0 } vt vf ns) := hm.ways _ fun x k _ => by unfold lyW; rw [if_neg (fun h => by omega)]
        clear hm hrw hbk hbf hmem r0 r1 hc hf' hwh x2 x3 x4
        go_wp2
        clear y0 y6 q1
        go_loopw [11] (fun iw wr => ∃ j : Nat, j ≤ 4 ∧ iw = .int .i64 j ∧ FlM wr F bw bc bd cw cc cd G { f' with ways := lyW d f' c j } vt vf ns ∧ Rw wr gc 3 L.length (fun j => .int .i64 (L.getD j 0)) ∧ Blk wr w.heap.size 42 #[.int .i64 12, .int .i64 d.x1, .int .i64 d.y1, .int .i64 d.x2, .int .i64 d.y2, .int .i64 d.dir, .int .i64 d.cost, .slice a7 n7 c7, .int .i64 d.node] ∧ Below F w wr) (fun iw _ => 4 - (intOf iw).toNat)
        case atStart => exact ⟨0, by omega, rfl, HW0.out, HRW.out, HBK.out, HBF.out⟩
        case round =>
          clear HW0 HRW HBK HBF HM
          obtain ⟨j, hj, rfl, hm, hrw, hbk, hbf⟩ := hrel
          have HM := hide hm
          have HRW := hide hrw
          have HBK := hide hbk
          have HBF := hide hbf
          rename World => X
          by_cases hl4 : j < 4
          · have hl4i : (j : Int) < 4 := by omega
            have y0 := hbk.cell 0
            have y5 := hbk.cell 5
            have x4 := hm.blk.cell 4
            simp only [List.getElem?_toArray, List.getElem?_cons_succ, List.getElem?_cons_zero] at y0 y5 x4
            have q4 := hm.wy.cell HCI.out
            have q5 := (hm.wr c HCI.out).cell hl4
            have q6 := (hm.wr c HCI.out).frozen j
            have HALL : Hid (∀ b, (if (j : Int) = d.dir then decide (d.kind ≠ 12) else if d.kind = 10 then false else f'.ways c j) = b → FlM (X.setCell ⟨G c, j, none⟩ (.bool b)) F bw bc bd cw cc cd G { f' with ways := lyW d f' c (j + 1) } vt vf ns ∧ Rw (X.setCell ⟨G c, j, none⟩ (.bool b)) gc 3 L.length (fun j => .int .i64 (L.getD j 0)) ∧ Blk (X.setCell ⟨G c, j, none⟩ (.bool b)) w.heap.size 42 #[.int .i64 12, .int .i64 d.x1, .int .i64 d.y1, .int .i64 d.x2, .int .i64 d.y2, .int .i64 d.dir, .int .i64 d.cost, .slice a7 n7 c7, .int .i64 d.node] ∧ Below F w (X.setCell ⟨G c, j, none⟩ (.bool b))) := fun b hb => by
              have hm' := HM.out
              refine ⟨?_, HRW.out.typed (hm'.wr c HCI.out) (by decide), ?_, HBF.out.setCell (by have := hm'.lg c HCI.out; show F ≤ G c; omega) _⟩
              · have h1 := hm'.setWay HCI.out j b
                refine h1.ways _ fun x k _ => ?_
                show (if x = c ∧ k = j then b else lyW d f' c j x k) = lyW d f' c (j + 1) x k
                unfold lyW
                by_cases q : x = c ∧ k = j
                · rw [if_pos q, if_pos (show x = c ∧ k < j + 1 from ⟨q.1, by have := q.2; omega⟩), ← hb, q.1, q.2]
                · rw [if_neg q]
                  by_cases r : x = c ∧ k < j
                  · rw [if_pos r, if_pos (show x = c ∧ k < j + 1 from ⟨r.1, by omega⟩)]
                  · rw [if_neg r, if_neg (show ¬ (x = c ∧ k < j + 1) from fun h => by
                      by_cases e : k = j
                      · exact q ⟨h.1, e⟩
                      · exact r ⟨h.1, by omega⟩)]
              · obtain ⟨cs, h1, _⟩ := hm'.wr c HCI.out
                exact set_typed h1 HBK.out (by decide)
            have HSAM : Hid ((if (j : Int) = d.dir then decide (d.kind ≠ 12) else if d.kind = 10 then false else f'.ways c j) = f'.ways c j → FlM X F bw bc bd cw cc cd G { f' with ways := lyW d f' c (j + 1) } vt vf ns) := fun hb => by
              refine HM.out.ways _ fun x k _ => ?_
              show lyW d f' c j x k = lyW d f' c (j + 1) x k
              unfold lyW
              by_cases r : x = c ∧ k < j
              · rw [if_pos r, if_pos (show x = c ∧ k < j + 1 from ⟨r.1, by omega⟩)]
              · rw [if_neg r]
                by_cases q : x = c ∧ k = j
                · rw [if_pos (show x = c ∧ k < j + 1 from ⟨q.1, by have := q.2; omega⟩), q.1, q.2, hb]
                · rw [if_neg (show ¬ (x = c ∧ k < j + 1) from fun h => by
                    by_cases e : k = j
                    · exact q ⟨h.1, e⟩
                    · exact r ⟨h.1, by omega⟩)]
            have hcn : c < f'.w * f'.h := HCI.out
            have hci : (c : Int) < ((f'.w * f'.h : Nat) : Int) := by omega
            obtain ⟨nn, hnn⟩ : ∃ n, f'.w * f'.h = n := ⟨_, rfl⟩
            rw [show ({ f' with ways := lyW d f' c j } : Flo).w * ({ f' with ways := lyW d f' c j } : Flo).h = nn from hnn] at x4
            rw [hnn] at hci hcn
            obtain ⟨old, hold⟩ : ∃ b, ({ f' with ways := lyW d f' c j } : Flo).ways c j = b := ⟨_, rfl⟩
            rw [hold] at q5
            clear hm hrw hbk hbf hnn hold
            by_cases e : (j : Int) = d.dir
            · have te : ((j : Int) == d.dir) = true := by rw [beq_iff_eq]; exact e
              have HB : Hid ((if (j : Int) = d.dir then decide (d.kind ≠ 12) else if d.kind = 10 then false else f'.ways c j) = false) := by
                show _ = _
                rw [if_pos e, HK.out]
                rfl
              clear e
              go_wp2_with fail
              go_region
              go_wp2
              go_roundw
              case rel =>
                obtain ⟨a1, a2, a3, a4⟩ := HALL.out _ HB.out
                exact ⟨j + 1, by omega, by go_num, a1.below (Below.refl _ _).drew, a2.below (Below.refl _ _).drew, a3.below (Below.refl _ _).drew, a4.drew⟩
              case measure => simp [intOf]; omega
            · have te : ((j : Int) == d.dir) = false := by rw [beq_eq_false_iff_ne]; exact e
              have HB : Hid ((if (j : Int) = d.dir then decide (d.kind ≠ 12) else if d.kind = 10 then false else f'.ways c j) = f'.ways c j) := by
                show _ = _
                rw [if_neg e, if_neg (by rw [HK.out]; decide)]
              clear e
              go_wp2
              go_roundw
              case rel => exact ⟨j + 1, by omega, by go_num, HSAM.out HB.out, HRW.out, HBK.out, HBF.out⟩
              case measure => simp [intOf]; omega
          · obtain rfl : j = 4 := by omega
            have HM3 : Hid (FlM X F bw bc bd cw cc cd G (layN d f (L.take (k + 1))) vt vf ns) := by
              have h1 := hm.ways (fun x k => if x = c then (if (k : Int) = d.dir then decide (d.kind ≠ 12) else if d.kind = 10 then false else f'.ways x k) else f'.ways x k) fun x k hk => by
                show lyW d f' c 4 x k = _
                unfold lyW
                by_cases q : x = c
                · rw [if_pos (show x = c ∧ k < 4 from ⟨q, hk⟩), if_pos q]
                · rw [if_neg (show ¬ (x = c ∧ k < 4) from fun h => q h.1), if_neg q]
              rw [HST.out]
              unfold lay1
              rw [if_neg (by rw [HK.out]; decide), if_neg (by rw [HK.out]; decide), if_neg (by rw [HK.out]; decide)]
              exact h1
            clear hm hrw hbk hbf
            go_wp2
            go_roundw
            case rel => exact ⟨k + 1, by omega, by go_num, HM3.out, HRW.out, HBK.out, HBF.out⟩
            case measure => simp [intOf]; omega
      · have hge : ¬ (k : Int) < (L.length : Int) := by omega
        obtain rfl : k = L.length := by omega
        have HE : Hid (apC f d = 0) := HA0.out HIN.out (fun h => h)
        have HMF : Hid (FlM V F bw bc bd cw cc cd G (layN d f L) vt vf ns) := by have := hm; rw [List.take_length] at this; exact this
        clear hm hrw hbk hbf
        go_wp2
        go_ret
        rw [HE.out]
        exact ⟨rfl, fun _ => HMF.out, HBF.out⟩
end Go.Proofs.YtijdlbanfdhfnaaGreatDoor

/-
  The walk of l4layout.
-/
import Derived.Test.YtijdlbanfdhfnaaGreatDoorJDnSAP
import Derived.Test.YtijdlbanfdhfnaaGreatDoorJDnSAP
import Derived.Test.YtijdlbanfdhfnaaGreatDoorJDnSD8
import Derived.Test.YtijdlbanfdhfnaaGreatDoorJDnKRS
import Derived.Test.YtijdlbanfdhfnaaGreatDoorJDnKRS
import Derived.Test.YtijdlbanfdhfnaaGreatDoorJDnKRS
import Derived.Test.YtijdlbanfdhfnaaGreatDoorJDnKRS
import Derived.Laws.BytesString
import Derived.Test.YtijdlbanfdhfnaaGreatDoorJDnSD5
import Derived.BigRegion
namespace Go.Proofs.YtijdlbanfdhfnaaGreatDoor
open Go.RowKit

theorem made4 : madeCells #[Value.bool false] 4 = #[.bool false, .bool false, .bool false, .bool false] := by
  apply Array.ext
  · simp [madeCells]
  · intro i h1 h2
    have h4 : i < 4 := by simpa using h2
    have e : (madeCells #[Value.bool false] 4)[i] = .bool false := by simp [madeCells, Nat.mod_one]
    rw [e]
    match i, h4 with
    | 0, _ => rfl
    | 1, _ => rfl
    | 2, _ => rfl
    | 3, _ => rfl
set_option maxHeartbeats 8000000 in
set_option maxRecDepth 1000000 in
theorem l4layout_any (F bw bc bd cw cc cd : Nat) (G : Nat → Nat) (f : Flo) (vt vf : Value) (ns : List (Tg × Value)) (w : World) (hf : FloOk f) (hm : FlM w F bw bc bd cw cc cd G f vt vf ns) :
    Calls Tryz.prog 16 #[.pointer (some ⟨F, 0, none⟩)] w fun e w' => ∃ v2 v3 v4, e = .returned (lyagg (lyOf f) v2 v3 v4) ∧ (∀ W, (∀ (g : Nat) (t : TypeId) (cs : Array Value), t ≠ 27 → Blk w' g t cs → Blk W g t cs) → LyV W (lyOf f) v2 v3 v4) ∧ Below w.heap.size w w' := by
  have HM := hide hm
  have HFO := hide hf
  have HX : Hid (∀ V, Below w.heap.size w V → V.cell? ⟨F, 0, none⟩ = some (.int .i64 (f.w : Nat)) ∧ V.cell? ⟨F, 1, none⟩ = some (.int .i64 (f.h : Nat)) ∧ V.cell? ⟨F, 2, none⟩ = some (.slice (some ⟨bw, 0, none⟩) (f.w * f.h) cw) ∧ V.cell? ⟨F, 3, none⟩ = some (.slice (some ⟨bc, 0, none⟩) (f.w * f.h) cc) ∧ V.cell? ⟨F, 4, none⟩ = some (.slice (some ⟨bd, 0, none⟩) (f.w * f.h) cd) ∧ V.cell? ⟨F, 5, none⟩ = some vt) := fun V hV => by
    have h := (HM.out.below hV).blk
    refine ⟨?_, ?_, ?_, ?_, ?_, ?_⟩
    · have := h.cell 0; simpa using this
    · have := h.cell 1; simpa using this
    · have := h.cell 2; simpa using this
    · have := h.cell 3; simpa using this
    · have := h.cell 4; simpa using this
    · have := h.cell 5; simpa using this
  obtain ⟨W1, hW1⟩ : ∃ W, w.alloc (.cells #[.int .i64 0, .int .i64 0, .slice none 0 0, .slice none 0 0, .slice none 0 0] 27) = W := ⟨_, rfl⟩
  have hB1 : Below w.heap.size w W1 := by rw [← hW1]; exact (Below.refl _ _).alloc (Nat.le_refl _) _
  have HB1 := hide hB1
  have HR1 : Hid (Blk W1 w.heap.size 27 #[.int .i64 0, .int .i64 0, .slice none 0 0, .slice none 0 0, .slice none 0 0]) := by rw [← hW1]; exact Blk.new _ _ _
  have HS1 : Hid (W1.heap.size = w.heap.size + 1) := by show _ = _; rw [← hW1, World.size_alloc]
  obtain ⟨x0, x1, x2, x3, x4, x5⟩ := HX.out W1 hB1
  obtain ⟨y0, y1, _⟩ := HX.out (W1.alloc (.cells #[.int .i64 0, .int .i64 0, .slice none 0 0, .slice none 0 0, .slice none 0 0] 27)) (hB1.alloc hB1.size _)
  have hW := hW1
  clear hf hm hW1 hB1
  go_enter Tryz.func16, Tryz.ntmps16
  go_wp2_with fail
  clear hW
  go_region
  clear x0 x1 x2 x3 x4 x5 y0 y1
  obtain ⟨Lb, hLb⟩ : ∃ b, W1.heap.size = b := ⟨_, rfl⟩
  have HLB : Hid (Lb = w.heap.size + 1) := by show _ = _; rw [← hLb]; exact HS1.out
  obtain ⟨W2, hW2⟩ : ∃ W, (W1.alloc (.cells #[.int .i64 (f.w : Nat), .int .i64 (f.h : Nat), .slice none 0 0, .slice none 0 0, .slice none 0 0] 27)).drew = W := ⟨_, rfl⟩
  have HB2 : Hid (Below w.heap.size w W2) := by rw [← hW2]; exact (HB1.out.alloc HB1.out.size _).drew
  have HR2 : Hid (Blk W2 w.heap.size 27 #[.int .i64 0, .int .i64 0, .slice none 0 0, .slice none 0 0, .slice none 0 0]) := by rw [← hW2]; exact HR1.out.alloc _
  have HL2 : Hid (LyI W2 Lb (f.w : Nat) (f.h : Nat) (.slice none 0 0) (.slice none 0 0) (.slice none 0 0) [] [] []) := by
    rw [← hW2, ← hLb]
    exact ⟨Blk.new W1 _ _, Ow.nil _ _, Ow.nil _ _, Apt.nil _, TgOw.nil _ _⟩
  rw [hW2, hLb]
  obtain ⟨n, hn⟩ : ∃ n, f.w * f.h = n := ⟨_, rfl⟩
  have hnb : n ≤ 1600 := by rw [← hn]; exact Nat.mul_le_mul HFO.out.w1 HFO.out.h1
  have hmul : ((f.w : Nat) : Int) * ((f.h : Nat) : Int) = (n : Int) := by rw [← hn]; simp
  have HN := hide hn
  obtain ⟨fw, hfw⟩ : ∃ x, f.w = x := ⟨_, rfl⟩
  obtain ⟨fh, hfh⟩ : ∃ x, f.h = x := ⟨_, rfl⟩
  rw [hfw, hfh] at hmul HL2
  have HFW := hide hfw
  have HFH := hide hfh
  rw [hfw, hfh] at HX hn
  rw [hn] at HX
  clear hLb hW2 HB1 HR1 HS1 hn hfw hfh
  go_wp2
  go_loopw [4] (fun cx wr => ∃ (c : Nat) (v2 v3 : Value), c ≤ n ∧ cx = .int .i64 c ∧ LyI wr Lb fw fh v2 v3 (.slice none 0 0) ((List.range c).map (csF f)) ((List.range c).map (exF f)) [] ∧ Blk wr w.heap.size 27 #[.int .i64 0, .int .i64 0, .slice none 0 0, .slice none 0 0, .slice none 0 0] ∧ Below w.heap.size w wr) (fun cx _ => n - (intOf cx).toNat)
  case atStart => exact ⟨0, _, _, Nat.zero_le _, rfl, HL2.out, HR2.out, HB2.out⟩
  case round =>
    clear HL2 HR2 HB2
    obtain ⟨c, v2, v3, hc, rfl, hl, hr, hb⟩ := hrel
    rename World => V
    obtain ⟨a2, c2, hv2, _, _⟩ := hl.o2.slc
    obtain ⟨a3, c3, hv3, _, _⟩ := hl.o3.slc
    simp only [List.length_map, List.length_range] at hv2 hv3
    subst hv2 hv3
    have HL := hide hl
    have HR := hide hr
    have HB := hide hb
    obtain ⟨x0, x1, x2, x3, x4, x5⟩ := HX.out V hb
    by_cases hlt : c < n
    · have hlti : (c : Int) < (n : Int) := by omega
      clear hl hr hb
      go_wp2_with fail
      go_quiet (fail)
      have hmk : ∀ W : World, (Instr.makeSlice 44 (.int .i64 4) (.int .i64 4)).run Tryz.prog W = .ok (.slice (some ⟨W.heap.size, 0, none⟩) 4 4) (W.alloc (.cells #[.bool false, .bool false, .bool false, .bool false] 4)) := fun W => by
        have h := run_make_row' (P := Tryz.prog) 44 4 (.bool false) 1 Tryz.underlying44 (by kernel_rfl) rfl .i64 .i64 4 (by omega) (by omega) W
        rw [show madeCells #[Value.bool false] 4 = #[.bool false, .bool false, .bool false, .bool false] from made4] at h
        exact h
      go_wp2
      clear hmk
      obtain ⟨Gb, hGb⟩ : ∃ b, V.heap.size = b := ⟨_, rfl⟩
      obtain ⟨W3, hW3⟩ : ∃ W, (V.drewN nq).alloc (.cells #[.bool false, .bool false, .bool false, .bool false] 4) = W := ⟨_, rfl⟩
      have hBV : Below V.heap.size V W3 := by rw [← hW3]; exact (below_drewN (Below.refl _ _) nq).alloc (Nat.le_refl _) _
      have HG3 : Hid (Rw W3 Gb 4 4 (fun k => .bool (if k < 0 then wyF f c k else false))) := by
        rw [← hW3, ← hGb]
        refine ⟨_, Blk.new (V.drewN nq) _ _, fun k hk => ?_⟩
        show _ = some (Value.bool (if k < 0 then wyF f c k else false))
        rw [if_neg (Nat.not_lt_zero _)]
        match k, hk with
        | 0, _ => rfl
        | 1, _ => rfl
        | 2, _ => rfl
        | 3, _ => rfl
      have HL3 := hide (HL.out.below hBV)
      have HR3 := hide (HR.out.below hBV)
      have HB3 : Hid (Below w.heap.size w W3) := HB.out.trans (hBV.mono HB.out.size)
      have HGL : Hid (Lb < Gb ∧ w.heap.size < Gb) := by have h1 := HL.out.blk.lt; have h2 := HR.out.lt; exact ⟨by omega, by omega⟩
      rw [hW3, hGb]
      clear hGb hW3 hBV HL HR HB x0 x1 x2 x3 x4 x5
      rename World => w3
      go_loopw [6] (fun ix wr => ∃ d : Nat, d ≤ 4 ∧ ix = .int .i64 d ∧ Rw wr Gb 4 4 (fun k => .bool (if k < d then wyF f c k else false)) ∧ LyI wr Lb fw fh (.slice a2 c c2) (.slice a3 c c3) (.slice none 0 0) ((List.range c).map (csF f)) ((List.range c).map (exF f)) [] ∧ Blk wr w.heap.size 27 #[.int .i64 0, .int .i64 0, .slice none 0 0, .slice none 0 0, .slice none 0 0] ∧ Below w.heap.size w wr) (fun ix _ => 4 - (intOf ix).toNat)
      case atStart => exact ⟨0, by omega, rfl, HG3.out, HL3.out, HR3.out, HB3.out⟩
      case round =>
        clear HG3 HL3 HR3 HB3
        obtain ⟨d, hd, rfl, hg, hl, hr, hb⟩ := hrel
        rename World => U
        have HG := hide hg
        have HL := hide hl
        have HR := hide hr
        have HB := hide hb
        obtain ⟨x0, x1, x2, x3, x4, x5⟩ := HX.out U hb
        have hmU := HM.out.below hb
        have hcn : c < f.w * f.h := by have := HN.out; rw [this]; exact hlt
        by_cases hd4 : d < 4
        · have hd4i : (d : Int) < 4 := by omega
          have p1 := hmU.wl.cell hcn
          have p2 := hmU.wy.cell hcn
          have p3 := (hmU.wr c hcn).cell hd4
          have p4 := hg.cell hd4
          have p5 := hg.frozen d
          have HTO := hide (fun W => l4to_any (fw : Nat) (fh : Nat) (c : Nat) d W (by have := HFO.out.w0; have := HFW.out; omega) (by have := HFO.out.w1; have := HFW.out; omega) (by have := HFO.out.h0; have := HFH.out; omega) (by have := HFO.out.h1; have := HFH.out; omega) (by omega) (by rw [hmul]; omega) hd4)
          have htl : toC (fw : Nat) (fh : Nat) (c : Nat) d < (n : Int) := by rw [← hmul]; exact toC_lt (by have := HFO.out.w0; have := HFW.out; omega) (by omega) (by rw [hmul]; omega) d
          have HWY : Hid (wyF f c d = (!f.wall c && f.ways c d && decide (0 ≤ toC (fw : Nat) (fh : Nat) (c : Nat) d) && !f.wall (toC (fw : Nat) (fh : Nat) (c : Nat) d).toNat)) := by show _ = _; unfold wyF; rw [HFW.out, HFH.out]
          obtain ⟨tt, htt⟩ : ∃ t, toC (fw : Nat) (fh : Nat) (c : Nat) d = t := ⟨_, rfl⟩
          rw [htt] at HTO htl HWY
          have HSET : Hid (∀ (q : Nat) (b : Bool), b = wyF f c d → Rw ((U.drewN q).setCell ⟨Gb, d, none⟩ (.bool b)) Gb 4 4 (fun k => .bool (if k < d + 1 then wyF f c k else false)) ∧ LyI ((U.drewN q).setCell ⟨Gb, d, none⟩ (.bool b)) Lb fw fh (.slice a2 c c2) (.slice a3 c c3) (.slice none 0 0) ((List.range c).map (csF f)) ((List.range c).map (exF f)) [] ∧ Blk ((U.drewN q).setCell ⟨Gb, d, none⟩ (.bool b)) w.heap.size 27 #[.int .i64 0, .int .i64 0, .slice none 0 0, .slice none 0 0, .slice none 0 0] ∧ Below w.heap.size w ((U.drewN q).setCell ⟨Gb, d, none⟩ (.bool b))) := fun q b e => by
            have hq : Below U.heap.size U (U.drewN q) := below_drewN (Below.refl _ _) q
            have hg' := HG.out.below hq
            obtain ⟨h1, h2⟩ := HGL.out
            refine ⟨(hg'.set d (.bool b)).congr fun k _ => ?_, ?_, (HR.out.below hq).other _ _ (by omega), (HB.out.trans (hq.mono HB.out.size)).setCell (by show w.heap.size ≤ Gb; omega) _⟩
            · show (if k = d then Value.bool b else .bool (if k < d then wyF f c k else false)) = .bool (if k < d + 1 then wyF f c k else false)
              by_cases q1 : k = d
              · subst q1; rw [if_pos rfl, if_pos (by omega), e]
              · rw [if_neg q1]
                by_cases q2 : k < d
                · rw [if_pos q2, if_pos (by omega)]
                · rw [if_neg q2, if_neg (by omega)]
            · obtain ⟨cs, hcs, _⟩ := hg'
              exact (HL.out.below hq).other hcs (by decide) (by decide) (by decide)
          obtain ⟨b1, hb1⟩ : ∃ b, f.wall c = b := ⟨_, rfl⟩
          obtain ⟨b2, hb2⟩ : ∃ b, f.ways c d = b := ⟨_, rfl⟩
          rw [hb1] at p1 HWY
          rw [hb2] at p3 HWY
          obtain ⟨b0, hb0⟩ : ∃ b, (if d < d then wyF f c d else false) = b := ⟨_, rfl⟩
          rw [hb0] at p4
          cases b1 with
          | true =>
            clear hl hr hb hg hmU htt hb1 hb2 htl hb0
            go_wp2_with fail
            go_quiet ((go_at_call 44; exact Calls.quiet_of_same (HTO.out _)))
            go_wp2
            go_roundw
            case rel => exact ⟨d + 1, by omega, by go_num, (HSET.out _ false (by rw [HWY.out]; rfl)).1, (HSET.out _ false (by rw [HWY.out]; rfl)).2.1, (HSET.out _ false (by rw [HWY.out]; rfl)).2.2.1, (HSET.out _ false (by rw [HWY.out]; rfl)).2.2.2⟩
            case measure => simp [intOf]; omega
          | false =>
          cases b2 with
          | false =>
            clear hl hr hb hg hmU htt hb1 hb2 htl hb0
            go_wp2_with fail
            go_quiet ((go_at_call 44; exact Calls.quiet_of_same (HTO.out _)))
            go_wp2
            go_roundw
            case rel => exact ⟨d + 1, by omega, by go_num, (HSET.out _ false (by rw [HWY.out]; rfl)).1, (HSET.out _ false (by rw [HWY.out]; rfl)).2.1, (HSET.out _ false (by rw [HWY.out]; rfl)).2.2.1, (HSET.out _ false (by rw [HWY.out]; rfl)).2.2.2⟩
            case measure => simp [intOf]; omega
          | true =>
          by_cases ht0 : 0 ≤ tt
          · obtain ⟨m, rfl⟩ : ∃ m : Nat, tt = m := ⟨tt.toNat, by omega⟩
            have hmn : m < f.w * f.h := by have := HN.out; rw [this]; omega
            have p6 := hmU.wl.cell hmn
            obtain ⟨b3, hb3⟩ : ∃ b, f.wall m = b := ⟨_, rfl⟩
            rw [hb3] at p6
            rw [Int.toNat_natCast, hb3] at HWY
            have td : decide ((0 : Int) ≤ (m : Int)) = true := decide_eq_true (by omega)
            have hmi : (m : Int) < (n : Int) := htl
            clear hl hr hb hg hmU htt hb1 hb2 hb0 hb3
            go_wp2_with fail
            go_quiet ((go_at_call 44; exact Calls.quiet_of_same (HTO.out _)))
            go_wp2
            go_roundw
            case rel => exact ⟨d + 1, by omega, by go_num, (HSET.out _ (!b3) (by rw [HWY.out]; simp)).1, (HSET.out _ (!b3) (by rw [HWY.out]; simp)).2.1, (HSET.out _ (!b3) (by rw [HWY.out]; simp)).2.2.1, (HSET.out _ (!b3) (by rw [HWY.out]; simp)).2.2.2⟩
            case measure => simp [intOf]; omega
          · have td : decide ((0 : Int) ≤ tt) = false := decide_eq_false ht0
            clear hl hr hb hg hmU htt hb1 hb2 htl hb0
            go_wp2_with fail
            go_quiet ((go_at_call 44; exact Calls.quiet_of_same (HTO.out _)))
            go_wp2
            go_roundw
            case rel => exact ⟨d + 1, by omega, by go_num, (HSET.out _ false (by rw [HWY.out]; rw [td]; rfl)).1, (HSET.out _ false (by rw [HWY.out]; rw [td]; rfl)).2.1, (HSET.out _ false (by rw [HWY.out]; rw [td]; rfl)).2.2.1, (HSET.out _ false (by rw [HWY.out]; rw [td]; rfl)).2.2.2⟩
            case measure => simp [intOf]; omega
        · obtain rfl : d = 4 := by omega
          have hd4i : ¬ ((4 : Nat) : Int) < 4 := by omega
          have p1 := hmU.wl.cell hcn
          have p7 := hmU.co.cell hcn
          have HGC : Hid (∀ W, Below U.heap.size U W → ∀ j, j < 4 → W.cell? ⟨Gb, j, none⟩ = some (.bool (wyF f c j))) := fun W hW j hj => by
            have := (HG.out.below hW).cell hj
            rw [if_pos hj] at this
            exact this
          obtain ⟨csG, hcsG, hcsV⟩ := hg
          have HGB0 := hide hcsG
          have HCSV := hide hcsV
          have k2 := hl.blk.cell 2
          simp only [List.getElem?_toArray, List.getElem?_cons_succ, List.getElem?_cons_zero] at k2
          obtain ⟨b1, hb1⟩ : ∃ b, f.wall c = b := ⟨_, rfl⟩
          obtain ⟨co, hco⟩ : ∃ x, f.cost c = x := ⟨_, rfl⟩
          have HCS : Hid (csF f c = if b1 = true then 0 else co) := by show _ = _; unfold csF; rw [hb1, hco]
          rw [hb1] at p1
          rw [hco] at p7
          clear hl hr hb hcsG hcsV hmU hb1 hco
          cases b1
          case' true =>
            have HCS2 : Hid (csF f c = 0) := HCS.out
            have HA : Hid (LyI (U.alloc (.cells #[.int .i64 0] 3)) Lb fw fh (.slice a2 c c2) (.slice a3 c c3) (.slice none 0 0) ((List.range c).map (csF f)) ((List.range c).map (exF f)) []) := HL.out.below ((Below.refl _ _).alloc (Nat.le_refl _) _)
            have HGB : Hid (Blk (U.alloc (.cells #[.int .i64 0] 3)) Gb 4 csG) := HGB0.out.alloc _
            have HN5 : Hid ((U.alloc (.cells #[.int .i64 0] 3)).cell? ⟨U.heap.size, 0, none⟩ = some (.int .i64 0)) := (Blk.new _ _ _).cell 0
            go_wp2_with (at_builtin; refine wp_app1 rfl _ _ rfl (Lb + 1) _ ((List.range c).map (csF f)) rfl HA.out.o2 _ 1 0 rfl HN5.out (by simp; omega) HA.out.blk.lt ?_; intro v6 w6 hap0; have hap : Ap (U.alloc (.cells #[.int .i64 0] 3)) w6 (Lb + 1) (.slice a2 c c2) v6 ((List.range (c + 1)).map (csF f)) := (by rw [List.range_succ, List.map_append]; show Ap _ _ _ _ _ (_ ++ [csF f c]); rw [HCS2.out]; exact hap0); have hbk6 := app_typed HA.out.blk (by decide) HA.out.o2 hap.gr; obtain ⟨a6, c6, rfl, _, _⟩ := hap.own.slc; have hL6 := HA.out.app2 hap; have hB6 : Below (Lb + 1) U w6 := ((Below.refl _ _).alloc (by have := HL.out.blk.lt; omega) _).grown hap.gr HA.out.blk.lt (fun k hk => (HA.out.o2.lt k hk).1); have hG6 := app_typed HGB.out (by decide) HA.out.o2 hap.gr; simp only [List.length_map, List.length_range] at hL6; have k6 := hbk6.cell 2; have k6f := hbk6.frozen 2; simp only [List.getElem?_toArray, List.getElem?_cons_succ, List.getElem?_cons_zero] at k6; have HL6 := hide hL6; have HB6 := hide hB6; have HG6 := hide hG6; have HBK6 := hide hbk6; clear hap hap0 hbk6 hL6 hB6 hG6)
          case' false =>
            have HCS2 : Hid (csF f c = co) := HCS.out
            have HA : Hid (LyI (U.alloc (.cells #[.int .i64 co] 3)) Lb fw fh (.slice a2 c c2) (.slice a3 c c3) (.slice none 0 0) ((List.range c).map (csF f)) ((List.range c).map (exF f)) []) := HL.out.below ((Below.refl _ _).alloc (Nat.le_refl _) _)
            have HGB : Hid (Blk (U.alloc (.cells #[.int .i64 co] 3)) Gb 4 csG) := HGB0.out.alloc _
            have HN5 : Hid ((U.alloc (.cells #[.int .i64 co] 3)).cell? ⟨U.heap.size, 0, none⟩ = some (.int .i64 co)) := (Blk.new _ _ _).cell 0
            go_wp2_with (at_builtin; refine wp_app1 rfl _ _ rfl (Lb + 1) _ ((List.range c).map (csF f)) rfl HA.out.o2 _ 1 co rfl HN5.out (by simp; omega) HA.out.blk.lt ?_; intro v6 w6 hap0; have hap : Ap (U.alloc (.cells #[.int .i64 co] 3)) w6 (Lb + 1) (.slice a2 c c2) v6 ((List.range (c + 1)).map (csF f)) := (by rw [List.range_succ, List.map_append]; show Ap _ _ _ _ _ (_ ++ [csF f c]); rw [HCS2.out]; exact hap0); have hbk6 := app_typed HA.out.blk (by decide) HA.out.o2 hap.gr; obtain ⟨a6, c6, rfl, _, _⟩ := hap.own.slc; have hL6 := HA.out.app2 hap; have hB6 : Below (Lb + 1) U w6 := ((Below.refl _ _).alloc (by have := HL.out.blk.lt; omega) _).grown hap.gr HA.out.blk.lt (fun k hk => (HA.out.o2.lt k hk).1); have hG6 := app_typed HGB.out (by decide) HA.out.o2 hap.gr; simp only [List.length_map, List.length_range] at hL6; have k6 := hbk6.cell 2; have k6f := hbk6.frozen 2; simp only [List.getElem?_toArray, List.getElem?_cons_succ, List.getElem?_cons_zero] at k6; have HL6 := hide hL6; have HB6 := hide hB6; have HG6 := hide hG6; have HBK6 := hide hbk6; clear hap hap0 hbk6 hL6 hB6 hG6)
          all_goals
            obtain ⟨W7, hW7⟩ : ∃ W, w6.setCell ⟨Lb, 2, none⟩ (.slice a6 (c + 1) c6) = W := ⟨_, rfl⟩
            have HG7 : Hid (Blk W7 Gb 4 csG) := by rw [← hW7]; exact set_typed HBK6.out HG6.out (by decide)
            have HB7 : Hid (Below w.heap.size w W7) := by
              rw [← hW7]
              have h1 := HLB.out
              exact (HB.out.trans (HB6.out.mono (by omega))).setCell (p := ⟨Lb, 2, none⟩) (by show w.heap.size ≤ Lb; omega) _
            have HR7 : Hid (Blk W7 w.heap.size 27 #[.int .i64 0, .int .i64 0, .slice none 0 0, .slice none 0 0, .slice none 0 0]) := by
              rw [← hW7]
              have h1 := HLB.out
              exact Blk.other ((HB6.out.block _ (by omega)).trans HR.out) _ _ (by omega)
            rw [hW7] at HL6 ⊢
            have HSM : Hid (Calls Tryz.prog 45 #[.slice (some ⟨Gb, 0, none⟩) 4 4] W7.drew fun e w' => e = .returned (.int .i64 (exF f c)) ∧ w' = W7.drew) := l4sum_any Gb 4 (wyF f c) W7.drew fun j hj => by
              have h1 := HCSV.out j hj
              have h2 := HG7.out.cell j
              rw [h1, if_pos hj] at h2
              exact h2
            obtain ⟨ex, hex⟩ : ∃ x, exF f c = x := ⟨_, rfl⟩
            rw [hex] at HSM
            have HEX := hide hex
            have hA8 := (Below.refl _ W7).drew.alloc (Nat.le_refl _) (.cells #[.int .i64 ex] 3)
            have HA8 := hide (HL6.out.below hA8)
            have HN8 : Hid ((W7.drew.alloc (.cells #[.int .i64 ex] 3)).cell? ⟨W7.heap.size, 0, none⟩ = some (.int .i64 ex)) := (Blk.new W7.drew 3 #[.int .i64 ex]).cell 0
            have k3 := HL6.out.blk.cell 3
            simp only [List.getElem?_toArray, List.getElem?_cons_succ, List.getElem?_cons_zero] at k3
            have k3b : (W7.alloc (.cells #[.int .i64 ex] 3)).cell? ⟨Lb, 3, none⟩ = some (.slice a3 c c3) := cell_kept k3 ((Below.refl _ W7).alloc (Nat.le_refl _) _)
            clear hW7 hex hA8 x0 x1 x2 x3 x4 x5 p1 p7 k2 k6 k6f
            go_region_law (first
              | (go_simp; go_at_call 45; refine HSM.out.mono ?_; rintro e w8 ⟨rfl, rfl⟩)
              | (refine step_app1 rfl (.tmp 108) (.tmp 111) rfl (Lb + 1) (.slice a3 c c3) ((List.range c).map (exF f)) rfl HA8.out.o3 W7.heap.size 1 ex rfl HN8.out (by simp; omega) HA8.out.blk.lt ?_; intro v9 w9 hap0; have hap : Ap (W7.drew.alloc (.cells #[.int .i64 ex] 3)) w9 (Lb + 1) (.slice a3 c c3) v9 ((List.range (c + 1)).map (exF f)) := (by rw [List.range_succ, List.map_append]; show Ap _ _ _ _ _ (_ ++ [exF f c]); rw [HEX.out]; exact hap0); have hbk9 := app_typed HA8.out.blk (by decide) HA8.out.o3 hap.gr; obtain ⟨a9, c9, rfl, _, _⟩ := hap.own.slc; have hL9 := HA8.out.app3 hap; have hB9 : Below (Lb + 1) W7 w9 := ((Below.refl _ _).drew.alloc HL6.out.blk.lt _).grown hap.gr HA8.out.blk.lt (fun k hk => (HA8.out.o3.lt k hk).1); simp only [List.length_map, List.length_range] at hL9; have k9 := hbk9.cell 3; have k9f := hbk9.frozen 3; simp only [List.getElem?_toArray, List.getElem?_cons_succ, List.getElem?_cons_zero] at k9; have HL9 := hide hL9; have HB9 := hide hB9; clear hap hap0 hbk9 hL9 hB9))
            all_goals
              go_wp2
              go_roundw
              case rel =>
                have h1 := HLB.out
                exact ⟨c + 1, _, _, by omega, by go_num, HL9.out, Blk.other ((HB9.out.block _ (by omega)).trans HR7.out) _ _ (by omega), (HB7.out.trans (HB9.out.mono (by omega))).setCell (p := ⟨Lb, 3, none⟩) (by show w.heap.size ≤ Lb; omega) _⟩
              case measure => simp [intOf]; omega
    · obtain rfl : c = n := by omega
      have hge : ¬ (c : Int) < (c : Int) := by omega
      clear hl hr hb hlt
      have HNL : Hid (ns.length ≤ 30) := by have h1 := HFO.out.tl; have h2 := HM.out.ts; rw [← h2, List.length_map] at h1; exact h1
      obtain ⟨at5, b5, ct5, hvt, ha5, hc5, _⟩ := HM.out.tg.view
      subst hvt
      go_wp2_with fail
      go_quiet (fail)
      go_wp2
      clear x0 x1 x2 x3 x4 x5
      go_loopw [9] (fun ix wr => ∃ (k : Nat) (v4 : Value) (T : List (Tg × Value)), k ≤ ns.length ∧ ix = .int .i64 k ∧ LyI wr Lb fw fh (.slice a2 c c2) (.slice a3 c c3) v4 ((List.range c).map (csF f)) ((List.range c).map (exF f)) T ∧ T.map Prod.fst = srtT [] (f.tgs.take k) ∧ (∀ p ∈ T, p ∈ ns) ∧ T.length = k ∧ Blk wr w.heap.size 27 #[.int .i64 0, .int .i64 0, .slice none 0 0, .slice none 0 0, .slice none 0 0] ∧ Below w.heap.size w wr) (fun ix _ => ns.length - (intOf ix).toNat)
      case atStart => exact ⟨0, _, [], Nat.zero_le _, rfl, HL.out.below (below_drewN (Below.refl _ _) _), rfl, fun p hp => (by cases hp), rfl, HR.out.below (below_drewN (Below.refl _ _) _), below_drewN HB.out _⟩
      case round =>
        clear HL HR HB
        obtain ⟨k, v4, T, hk, rfl, hl, hT, hTn, hTl, hr, hb⟩ := hrel
        rename World => U
        have HL := hide hl
        have HT := hide hT
        have HTN := hide hTn
        have HTL := hide hTl
        have HR := hide hr
        have HB := hide hb
        have hns := HNL.out
        obtain ⟨_, _, _, _, _, x5⟩ := HX.out U hb
        by_cases hlt : k < ns.length
        · have hlti : (k : Int) < (ns.length : Int) := by omega
          obtain ⟨p, hp⟩ : ∃ p, ns[k]? = some p := ⟨_, List.getElem?_eq_getElem hlt⟩
          have hpm := List.mem_of_getElem? hp
          have HP5 : Hid (∀ W, Below w.heap.size w W → W.cell? ⟨b5, k * 3, none⟩ = some p.2 ∧ W.cell? ⟨b5, k * 3 + 1, none⟩ = some (.int .i64 p.1.kind) ∧ W.cell? ⟨b5, k * 3 + 2, none⟩ = some (.int .i64 p.1.cell) ∧ BS W p.2 p.1.name) := fun W hW => by
            refine ⟨cell_kept (hc5 k hlt p hp 0 (by omega)) hW, cell_kept (hc5 k hlt p hp 1 (by omega)) hW, cell_kept (hc5 k hlt p hp 2 (by omega)) hW, ?_⟩
            obtain ⟨g, c, e1, e2⟩ := HM.out.tn p hpm
            rw [e1]
            exact ⟨_, g, 0, c, rfl, fun _ => rfl, fun j hj => by rw [Nat.zero_add]; exact (e2.below hW).cell hj⟩
          have HBN : Hid (∀ q ∈ ns, ∀ W, Below w.heap.size w W → BS W q.2 q.1.name) := fun q hqm W hW => by
            obtain ⟨g, c, e1, e2⟩ := HM.out.tn q hqm
            rw [e1]
            exact ⟨_, g, 0, c, rfl, fun _ => rfl, fun i hi => by rw [Nat.zero_add]; exact (e2.below hW).cell hi⟩
          have HA5 : Hid (at5 = some ⟨b5, 0, none⟩) := (ha5 (by omega)).1
          have HTS : Hid (f.tgs.take (k + 1) = f.tgs.take k ++ [p.1]) := by
            show _ = _
            have h1 : k < f.tgs.length := by rw [← HM.out.ts, List.length_map]; exact hlt
            have h2 : f.tgs[k]? = some p.1 := by rw [← HM.out.ts, List.getElem?_map, hp]; rfl
            rw [List.take_succ_eq_append_getElem h1]
            rw [List.getElem?_eq_getElem h1] at h2
            injection h2 with h2
            rw [h2]
          have HPM := hide hpm
          obtain ⟨pt, pv⟩ := p
          simp only at HP5 HTS
          have hk30 : T.length ≤ 30 := by omega
          obtain rfl := HA5.out
          have HFN : Hid (∀ i, i ≤ T.length → insT pt (T.map Prod.fst) = (T.map Prod.fst).take i ++ pt :: (T.map Prod.fst).drop i → ((T.take i ++ [(pt, pv)] ++ T.drop i).map Prod.fst = srtT [] (f.tgs.take (k + 1)) ∧ (∀ p ∈ T.take i ++ [(pt, pv)] ++ T.drop i, p ∈ ns) ∧ (T.take i ++ [(pt, pv)] ++ T.drop i).length = k + 1)) := fun i hi e => by
            refine ⟨?_, fun p hp => ?_, ?_⟩
            · rw [HTS.out, srtT_snoc, ← HT.out, e]
              simp
            · rcases List.mem_append.1 hp with h | h
              · rcases List.mem_append.1 h with h | h
                · exact HTN.out p (List.mem_of_mem_take h)
                · rw [List.mem_singleton.1 h]; exact HPM.out
              · exact HTN.out p (List.mem_of_mem_drop h)
            · have := HTL.out
              simp
              omega
          rcases hl.o4.form with ⟨hv4, hT0⟩ | ⟨b4, c4, hv4, hcp, hb4, hb4l, hc4⟩
          · subst hv4
            subst hT0
            clear hl hT hTn hTl hr hb ha5 hc5 hp hpm
            go_wp2
            go_loopw [10] (fun jx wr => jx = .int .i64 0 ∧ Below U.heap.size U wr) (fun _ _ => 0)
            case atStart => exact ⟨rfl, Below.refl _ _⟩
            case round =>
              obtain ⟨rfl, hbU⟩ := hrel
              rename World => Ur
              have HLr := hide (HL.out.below hbU)
              have HRr := hide (HR.out.below hbU)
              have HBr : Hid (Below w.heap.size w Ur) := HB.out.trans (hbU.mono HB.out.size)
              have l4 := HLr.out.blk.cell 4
              simp only [List.getElem?_toArray, List.getElem?_cons_succ, List.getElem?_cons_zero] at l4
              obtain ⟨_, _, _, _, _, y5⟩ := HX.out Ur HBr.out
              obtain ⟨q0, q1, q2, q3⟩ := HP5.out Ur HBr.out
              obtain ⟨ap, cp, rfl⟩ := q3.slice
              have HFN2 := hide (HFN.out 0 (Nat.le_refl _) rfl)
              clear hbU q3
              go_wp2_with fail
              go_quiet (fail)
              obtain ⟨V0, hV0⟩ : ∃ W, Ur.drewN nq = W := ⟨_, rfl⟩
              have hbV : Below Ur.heap.size Ur V0 := by rw [← hV0]; exact below_drewN (Below.refl _ _) _
              rw [hV0]
              have HL0 := hide (HLr.out.below hbV)
              have HR0 := hide (HRr.out.below hbV)
              have HB0 : Hid (Below w.heap.size w V0) := HBr.out.trans (hbV.mono HBr.out.size)
              have HLZ : Hid (Lb + 1 ≤ V0.heap.size) := HL0.out.blk.lt
              have l4 := HL0.out.blk.cell 4
              simp only [List.getElem?_toArray, List.getElem?_cons_succ, List.getElem?_cons_zero] at l4
              have hA1 := (Below.refl _ V0).alloc (Nat.le_refl _) (.cells #[.slice ap pt.name.size cp, .int .i64 pt.kind, .int .i64 pt.cell] 50)
              have HL1a := hide (HL0.out.below hA1)
              have HR1a := hide (HR0.out.below hA1)
              have HB1a : Hid (Below w.heap.size w _) := HB0.out.trans (hA1.mono HB0.out.size)
              obtain ⟨_, _, _, _, _, y5⟩ := HX.out V0 HB0.out
              obtain ⟨q0, q1, q2, _⟩ := HP5.out V0 HB0.out
              clear hV0 hbV HLr HRr HBr hA1
              obtain ⟨i0, hi0, _⟩ := info_partsTg Tryz.infoTg
              go_wp2_with (first
                | (at_builtin; refine wpList_append_own_none rfl _ _ 25 rfl (Lb + 1) 50 i0 3 Tryz.underlying25 hi0 (.slice none 0 0) 0 [] rfl (World.ownsRow_nil _ _ _ _) rfl ?_)
                | (at_builtin; refine wp_appTg rfl _ _ rfl (Lb + 1) _ [] rfl (TgOw.nil _ _) V0.heap.size 0 1 [(pt, .slice ap pt.name.size cp)] rfl (fun j hj p hp i hi => ?_) (fun p hp => by rw [List.mem_singleton.1 hp]; rfl) (by simp) HL1a.out.blk.lt ?_; (case refine_1 => (obtain rfl : j = 0 := (by simp at hj; omega); obtain rfl := (Option.some.inj hp); rw [Nat.zero_mul, Nat.zero_add, Nat.zero_add, (Blk.new _ _ _).cell i, List.getElem?_toArray]; rfl)); intro v2 w2 l2 hl2 hown2 hg2 hat2; obtain rfl := hl2.out; obtain ⟨a2', c2', rfl⟩ := hown2.slice; rw [List.nil_append] at hown2 ⊢; have HO2 := hide hown2; have hL2 := HL1a.out.grown (TgOw.nil _ (Lb + 1)) hg2 (Apt.nil _).symm; have HB2 : Hid (Below w.heap.size w w2) := (HB1a.out.grown hg2 HB1a.out.size (fun k hk => by cases hk)); have HR2 : Hid (Blk w2 w.heap.size 27 #[.int .i64 0, .int .i64 0, .slice none 0 0, .slice none 0 0, .slice none 0 0]) := app_typed HR1a.out (by decide) (TgOw.nil _ (Lb + 1)) hg2; have n4 := hL2.blk.cell 4; have n4f := hL2.blk.frozen 4; simp only [List.getElem?_toArray, List.getElem?_cons_succ, List.getElem?_cons_zero] at n4; have HL4 := hide (hL2.put4 hown2); clear hl2 hown2 hg2 hat2 hL2)
                | (at_builtin; refine wpList_append_own_none rfl _ _ 25 rfl (Lb + 1) 50 i0 3 Tryz.underlying25 hi0 _ _ _ rfl HO2.out rfl ?_))
              go_roundw
              case rel =>
                have h1 := HLB.out
                have h2 := HTL.out
                exact ⟨k + 1, _, _, by omega, by go_num, HL4.out, HFN2.out.1, HFN2.out.2.1, HFN2.out.2.2, HR2.out.other _ _ (by omega), HB2.out.setCell (p := ⟨Lb, 4, none⟩) (by show w.heap.size ≤ Lb; omega) _⟩
              case measure => simp [intOf]; omega
          · subst hv4
            have HC4 := hide hc4
            have HB4 := hide hb4
            clear hl hT hTn hTl hr hb ha5 hc5 hp hpm hc4 hb4
            go_wp2
            go_loopw [10] (fun jx wr => ∃ i : Nat, i ≤ T.length ∧ jx = .int .i64 i ∧ (∀ j q, j < i → T[j]? = some q → Go.Op.bytesLess q.1.name.toList pt.name.toList = true) ∧ Below U.heap.size U wr) (fun jx _ => T.length - (intOf jx).toNat)
            case atStart => exact ⟨0, Nat.zero_le _, rfl, fun j q hj => by omega, Below.refl _ _⟩
            case round =>
              obtain ⟨i, hi, rfl, hless, hbU⟩ := hrel
              rename World => Ur
              have HLS := hide hless
              have HBU := hide hbU
              have HLr := hide (HL.out.below hbU)
              have HRr := hide (HR.out.below hbU)
              have HBr : Hid (Below w.heap.size w Ur) := HB.out.trans (hbU.mono HB.out.size)
              have l4 := HLr.out.blk.cell 4
              simp only [List.getElem?_toArray, List.getElem?_cons_succ, List.getElem?_cons_zero] at l4
              obtain ⟨_, _, _, _, _, y5⟩ := HX.out Ur HBr.out
              obtain ⟨q0, q1, q2, q3⟩ := HP5.out Ur HBr.out
              obtain ⟨ap, cp, rfl⟩ := q3.slice
              obtain ⟨pn, hpn⟩ : ∃ s, pt.name = s := ⟨_, rfl⟩
              rw [hpn] at q0 q3 hless
              have HPN := hide hpn
              have s6 : ∀ n, (convert 38 9 (.slice ap pn.size cp)).run Tryz.prog (Ur.drewN n) = .ok (.string pn) (Ur.drewN n) := fun n => toStr_bs (w := Ur.drewN n) (q3.below (below_drewN (Below.refl _ _) n))
              by_cases hit : i < T.length
              · have hiti : (i : Int) < (T.length : Int) := by omega
                obtain ⟨q, hq⟩ : ∃ q, T[i]? = some q := ⟨_, List.getElem?_eq_getElem hit⟩
                have m0 := cell_kept (HC4.out i q hq 0 (by omega)) hbU
                have hbs := HBN.out q (HTN.out q (List.mem_of_getElem? hq)) Ur HBr.out
                have m0' : Ur.cell? ⟨b4, i * 3, none⟩ = some q.2 := m0
                obtain ⟨qt, qv⟩ := q
                simp only at hbs m0'
                obtain ⟨aq, cq, rfl⟩ := hbs.slice
                obtain ⟨qn, hqn⟩ : ∃ s, qt.name = s := ⟨_, rfl⟩
                rw [hqn] at m0' hbs
                have s7 : ∀ n, (convert 38 9 (.slice aq qn.size cq)).run Tryz.prog (Ur.drewN n) = .ok (.string qn) (Ur.drewN n) := fun n => toStr_bs (w := Ur.drewN n) (hbs.below (below_drewN (Below.refl _ _) n))
                obtain ⟨P, hP⟩ : ∃ P, Go.Op.bytesLess qn.toList pn.toList = P := ⟨_, rfl⟩
                cases P with
                | true =>
                  have HLS2 : Hid (∀ j q, j < i + 1 → T[j]? = some q → Go.Op.bytesLess q.1.name.toList pt.name.toList = true) := fun j q hj hq' => by
                    by_cases e : j = i
                    · subst e
                      rw [hq] at hq'
                      cases hq'
                      show Go.Op.bytesLess qt.name.toList pt.name.toList = true
                      rw [hqn, hpn]
                      exact hP
                    · exact HLS.out j q (by omega) hq'
                  clear hless hbU hpn hq hqn m0 hbs q3
                  go_wp2_with fail
                  go_quiet (fail)
                  go_wp2
                  go_roundw
                  case rel => exact ⟨i + 1, by omega, by go_num, HLS2.out, below_drewN HBU.out _⟩
                  case measure => simp [intOf]; omega
                | false =>
                  have HIN : Hid (insT pt (T.map Prod.fst) = (T.map Prod.fst).take i ++ pt :: (T.map Prod.fst).drop i) := insT_at (by rw [List.length_map]; exact hi) (fun j x hj hx => by
                      rw [List.getElem?_map] at hx
                      obtain ⟨q', h1, rfl⟩ := Option.map_eq_some_iff.1 hx
                      exact HLS.out j q' hj h1) (fun x hx => by
                      rw [List.getElem?_map, hq] at hx
                      cases hx
                      show Go.Op.bytesLess qt.name.toList pt.name.toList = false
                      rw [hqn, hpn]
                      exact hP)
                  clear hless hbU hpn hq hqn m0 hbs q3
                  go_wp2_with fail
                  go_quiet (fail)
                  obtain ⟨V0, hV0⟩ : ∃ W, Ur.drewN nq = W := ⟨_, rfl⟩
                  have hbV : Below Ur.heap.size Ur V0 := by rw [← hV0]; exact below_drewN (Below.refl _ _) _
                  have hbUV : Below U.heap.size U V0 := HBU.out.trans (hbV.mono HBU.out.size)
                  rw [hV0]
                  have HL0 := hide (HLr.out.below hbV)
                  have HR0 := hide (HRr.out.below hbV)
                  have HB0 : Hid (Below w.heap.size w V0) := HBr.out.trans (hbV.mono HBr.out.size)
                  have HSRC : Hid (∀ W : World, (∀ (j : Nat) (p : Tg × Value), T[j]? = some p → ∀ i', i' < 3 → W.cell? ⟨b4, j * 3 + i', none⟩ = (tgc p.1 p.2)[i']?) → ∀ j, j < (T.take i).length → ∀ p, (T.take i)[j]? = some p → ∀ i', i' < 3 → W.cell? ⟨b4, 0 + (j * 3 + i'), none⟩ = (tgc p.1 p.2)[i']?) := fun W hW j hj p hp i' hi' => by
                    rw [Nat.zero_add]
                    refine hW j p ?_ i' hi'
                    rw [List.getElem?_take] at hp
                    split at hp
                    · exact hp
                    · cases hp
                  have HCV : Hid (∀ (j : Nat) (p : Tg × Value), T[j]? = some p → ∀ i', i' < 3 → V0.cell? ⟨b4, j * 3 + i', none⟩ = (tgc p.1 p.2)[i']?) := fun j p hp i' hi' => by
                    have h1 := HC4.out j p hp i' hi'
                    cases hv : (tgc p.1 p.2)[i']? with
                    | none => rw [List.getElem?_eq_none_iff] at hv; have : (tgc p.1 p.2).length = 3 := rfl; omega
                    | some v => rw [hv] at h1; exact cell_kept h1 hbUV
                  have HON : Hid (∀ p ∈ T, p.2.oneCell' = true) := fun p hp => by
                    obtain ⟨g, cg, e1, _⟩ := HM.out.tn p (HTN.out p hp)
                    rw [e1]
                    rfl
                  have HLZ : Hid (Lb + 1 ≤ V0.heap.size) := HL0.out.blk.lt
                  have l4 := HL0.out.blk.cell 4
                  simp only [List.getElem?_toArray, List.getElem?_cons_succ, List.getElem?_cons_zero] at l4
                  have HTI : Hid ((T.take i).length = i) := by show _ = _; rw [List.length_take]; omega
                  have HTI2 : Hid ((T.take i ++ [(pt, Value.slice ap pt.name.size cp)]).length = i + 1) := by show _ = _; rw [List.length_append, HTI.out]; rfl
                  have HFN2 := hide (HFN.out i (by omega) HIN.out)
                  have HSR3 : Hid (∀ W : World, (∀ (j : Nat) (p : Tg × Value), T[j]? = some p → ∀ i', i' < 3 → W.cell? ⟨b4, j * 3 + i', none⟩ = (tgc p.1 p.2)[i']?) → ∀ j, j < (T.drop i).length → ∀ p, (T.drop i)[j]? = some p → ∀ i', i' < 3 → W.cell? ⟨b4, i * 3 + (j * 3 + i'), none⟩ = (tgc p.1 p.2)[i']?) := fun W hW j hj p hp i' hi' => by
                    rw [List.getElem?_drop] at hp
                    have h1 := hW (i + j) p hp i' hi'
                    rw [show i * 3 + (j * 3 + i') = (i + j) * 3 + i' by rw [Nat.add_mul, Nat.add_assoc]]
                    exact h1
                  have hic : ((i : Nat) : Int) ≤ (c4 : Int) := by omega
                  clear hV0 hbV hbUV HLr HRr HBr HBU q0 q1 q2 y5
                  go_wp2_with (first
                    | (at_builtin; refine wp_appTgs rfl _ _ rfl (Lb + 1) _ [] rfl (TgOw.nil _ _) (T.take i) i HTI.out (some ⟨b4, 0, none⟩) c4 rfl (.inr ⟨b4, 0, rfl, HSRC.out V0 HCV.out⟩) (fun p hp => HON.out p (List.mem_of_mem_take hp)) (by rw [HTI.out]; simp; omega) HLZ.out ?_; intro v1 w1 l1 hl1 hown1 hg1 hat1; obtain rfl := hl1.out; rw [List.nil_append] at hown1; obtain ⟨a1, c1, rfl⟩ := hown1.slice; have hB1 := hown1; rw [HTI.out] at hown1 hat1 ⊢; have HO1 := hide hown1; have HL1 := hide (HL0.out.grown (TgOw.nil V0 (Lb + 1)) hg1 (Apt.nil _).symm); have HAP1 := hide (TgApt.new (Apt.nil _).symm HL0.out.o4 hat1); have HB1 : Hid (Below w.heap.size w w1) := (HB0.out.grown hg1 HB0.out.size (fun k hk => by cases hk)); have HR1 : Hid (Blk w1 w.heap.size 27 #[.int .i64 0, .int .i64 0, .slice none 0 0, .slice none 0 0, .slice none 0 0]) := ((hg1.block _ HR0.out.lt (fun h => by cases h)).trans HR0.out); obtain ⟨_, _, _, _, _, y5⟩ := HX.out w1 HB1.out; obtain ⟨q0, q1, q2, _⟩ := HP5.out w1 HB1.out; have hA1 := (Below.refl _ w1).alloc (Nat.le_refl _) (.cells #[.slice ap pt.name.size cp, .int .i64 pt.kind, .int .i64 pt.cell] 50); have HO1a := hide (hown1.kept hA1); have HL1a := hide (HL1.out.below hA1); have HR1a := hide (HR1.out.below hA1); have HB1a : Hid (Below w.heap.size w _) := HB1.out.trans (hA1.mono HB1.out.size); clear hl1 hown1 hg1 hat1 hB1 hA1)
                    | (at_builtin; refine wp_appTg rfl _ _ rfl (Lb + 1) _ (T.take i) rfl HO1a.out w1.heap.size 0 1 [(pt, .slice ap pt.name.size cp)] rfl (fun j hj p hp i hi => ?_) (fun p hp => by rw [List.mem_singleton.1 hp]; rfl) (by rw [HTI.out]; simp; omega) HL1a.out.blk.lt ?_; (case refine_1 => (obtain rfl : j = 0 := (by simp at hj; omega); obtain rfl := (Option.some.inj hp); rw [Nat.zero_mul, Nat.zero_add, Nat.zero_add, (Blk.new _ _ _).cell i, List.getElem?_toArray]; rfl)); intro v2 w2 l2 hl2 hown2 hg2 hat2; obtain rfl := hl2.out; obtain ⟨a2', c2', rfl⟩ := hown2.slice; rw [HTI2.out] at hown2 hat2 ⊢; have HO2 := hide hown2; have HL2 := hide (HL1a.out.grown HO1a.out hg2 HAP1.out); have HAP2 := hide (TgApt.new HAP1.out HL1a.out.o4 hat2); have HB2 : Hid (Below w.heap.size w w2) := (HB1a.out.grown hg2 HB1a.out.size (fun k hk => by have h1 := (World.ownsRow.lt HO1a.out k hk).1; have h2 := HLB.out; omega)); have HR2 : Hid (Blk w2 w.heap.size 27 #[.int .i64 0, .int .i64 0, .slice none 0 0, .slice none 0 0, .slice none 0 0]) := app_typed HR1a.out (by decide) HO1a.out hg2; have n4 := HL2.out.blk.cell 4; simp only [List.getElem?_toArray, List.getElem?_cons_succ, List.getElem?_cons_zero] at n4; have HC2 : Hid (∀ (j : Nat) (p : Tg × Value), T[j]? = some p → ∀ i', i' < 3 → w2.cell? ⟨b4, j * 3 + i', none⟩ = (tgc p.1 p.2)[i']?) := (by rcases HL2.out.o4.form with ⟨h, _⟩ | ⟨b', c', h, _, _, _, hc⟩; (cases h); (cases h; exact hc)); clear hl2 hown2 hg2 hat2)
                    | (at_builtin; refine wp_appTgs rfl _ _ rfl (Lb + 1) _ _ rfl HO2.out (T.drop i) _ (by rw [List.length_drop]) _ _ rfl (.inr ⟨b4, _, rfl, HSR3.out w2 HC2.out⟩) (fun p hp => HON.out p (List.mem_of_mem_drop hp)) (by rw [HTI2.out, List.length_drop]; omega) HL2.out.blk.lt ?_; intro v3 w3 l3 hl3 hown3 hg3 _; obtain rfl := hl3.out; obtain ⟨a3', c3', rfl⟩ := hown3.slice; rw [HFN2.out.2.2] at hown3 ⊢; have hL3 := HL2.out.grown HO2.out hg3 HAP2.out; have HB3 : Hid (Below w.heap.size w w3) := (HB2.out.grown hg3 HB2.out.size (fun k hk => by have h1 := (World.ownsRow.lt HO2.out k hk).1; have h2 := HLB.out; omega)); have HR3 : Hid (Blk w3 w.heap.size 27 #[.int .i64 0, .int .i64 0, .slice none 0 0, .slice none 0 0, .slice none 0 0]) := app_typed HR2.out (by decide) HO2.out hg3; have p4 := hL3.blk.cell 4; have p4f := hL3.blk.frozen 4; simp only [List.getElem?_toArray, List.getElem?_cons_succ, List.getElem?_cons_zero] at p4; have HL4 := hide (hL3.put4 hown3); clear hl3 hown3 hg3 hL3))
                  all_goals
                    go_roundw
                    case rel =>
                      have h1 := HLB.out
                      exact ⟨k + 1, _, _, by omega, by go_num, HL4.out, HFN2.out.1, HFN2.out.2.1, HFN2.out.2.2, HR3.out.other _ _ (by omega), HB3.out.setCell (p := ⟨Lb, 4, none⟩) (by show w.heap.size ≤ Lb; omega) _⟩
                    case measure => simp [intOf]; omega
              · obtain rfl : i = T.length := by omega
                have hiti : ¬ (T.length : Int) < (T.length : Int) := by omega
                have HIN : Hid (insT pt (T.map Prod.fst) = (T.map Prod.fst).take T.length ++ pt :: (T.map Prod.fst).drop T.length) := insT_at (by rw [List.length_map]; exact hi) (fun j x hj hx => by
                    rw [List.getElem?_map] at hx
                    obtain ⟨q', h1, rfl⟩ := Option.map_eq_some_iff.1 hx
                    exact HLS.out j q' hj h1) (fun x hx => by rw [List.getElem?_eq_none (by rw [List.length_map]; exact Nat.le_refl _)] at hx; cases hx)
                clear hless hbU hpn q3
                go_wp2_with fail
                go_quiet (fail)
                obtain ⟨V0, hV0⟩ : ∃ W, Ur.drewN nq = W := ⟨_, rfl⟩
                have hbV : Below Ur.heap.size Ur V0 := by rw [← hV0]; exact below_drewN (Below.refl _ _) _
                have hbUV : Below U.heap.size U V0 := HBU.out.trans (hbV.mono HBU.out.size)
                rw [hV0]
                have HL0 := hide (HLr.out.below hbV)
                have HR0 := hide (HRr.out.below hbV)
                have HB0 : Hid (Below w.heap.size w V0) := HBr.out.trans (hbV.mono HBr.out.size)
                have HSRC : Hid (∀ W : World, (∀ (j : Nat) (p : Tg × Value), T[j]? = some p → ∀ i', i' < 3 → W.cell? ⟨b4, j * 3 + i', none⟩ = (tgc p.1 p.2)[i']?) → ∀ j, j < (T.take T.length).length → ∀ p, (T.take T.length)[j]? = some p → ∀ i', i' < 3 → W.cell? ⟨b4, 0 + (j * 3 + i'), none⟩ = (tgc p.1 p.2)[i']?) := fun W hW j hj p hp i' hi' => by
                  rw [Nat.zero_add]
                  refine hW j p ?_ i' hi'
                  rw [List.getElem?_take] at hp
                  split at hp
                  · exact hp
                  · cases hp
                have HCV : Hid (∀ (j : Nat) (p : Tg × Value), T[j]? = some p → ∀ i', i' < 3 → V0.cell? ⟨b4, j * 3 + i', none⟩ = (tgc p.1 p.2)[i']?) := fun j p hp i' hi' => by
                  have h1 := HC4.out j p hp i' hi'
                  cases hv : (tgc p.1 p.2)[i']? with
                  | none => rw [List.getElem?_eq_none_iff] at hv; have : (tgc p.1 p.2).length = 3 := rfl; omega
                  | some v => rw [hv] at h1; exact cell_kept h1 hbUV
                have HON : Hid (∀ p ∈ T, p.2.oneCell' = true) := fun p hp => by
                  obtain ⟨g, cg, e1, _⟩ := HM.out.tn p (HTN.out p hp)
                  rw [e1]
                  rfl
                have HLZ : Hid (Lb + 1 ≤ V0.heap.size) := HL0.out.blk.lt
                have l4 := HL0.out.blk.cell 4
                simp only [List.getElem?_toArray, List.getElem?_cons_succ, List.getElem?_cons_zero] at l4
                have HTI : Hid ((T.take T.length).length = T.length) := by show _ = _; rw [List.length_take]; omega
                have HTI2 : Hid ((T.take T.length ++ [(pt, Value.slice ap pt.name.size cp)]).length = T.length + 1) := by show _ = _; rw [List.length_append, HTI.out]; rfl
                have HFN2 := hide (HFN.out T.length (by omega) HIN.out)
                have HSR3 : Hid (∀ W : World, (∀ (j : Nat) (p : Tg × Value), T[j]? = some p → ∀ i', i' < 3 → W.cell? ⟨b4, j * 3 + i', none⟩ = (tgc p.1 p.2)[i']?) → ∀ j, j < (T.drop T.length).length → ∀ p, (T.drop T.length)[j]? = some p → ∀ i', i' < 3 → W.cell? ⟨b4, T.length * 3 + (j * 3 + i'), none⟩ = (tgc p.1 p.2)[i']?) := fun W hW j hj p hp i' hi' => by
                  rw [List.getElem?_drop] at hp
                  have h1 := hW (T.length + j) p hp i' hi'
                  rw [show T.length * 3 + (j * 3 + i') = (T.length + j) * 3 + i' by rw [Nat.add_mul, Nat.add_assoc]]
                  exact h1
                have hic : ((T.length : Nat) : Int) ≤ (c4 : Int) := by omega
                clear hV0 hbV hbUV HLr HRr HBr HBU q0 q1 q2 y5
                go_wp2_with (first
                  | (at_builtin; refine wp_appTgs rfl _ _ rfl (Lb + 1) _ [] rfl (TgOw.nil _ _) (T.take T.length) T.length HTI.out (some ⟨b4, 0, none⟩) c4 rfl (.inr ⟨b4, 0, rfl, HSRC.out V0 HCV.out⟩) (fun p hp => HON.out p (List.mem_of_mem_take hp)) (by rw [HTI.out]; simp; omega) HLZ.out ?_; intro v1 w1 l1 hl1 hown1 hg1 hat1; obtain rfl := hl1.out; rw [List.nil_append] at hown1; obtain ⟨a1, c1, rfl⟩ := hown1.slice; have hB1 := hown1; rw [HTI.out] at hown1 hat1 ⊢; have HO1 := hide hown1; have HL1 := hide (HL0.out.grown (TgOw.nil V0 (Lb + 1)) hg1 (Apt.nil _).symm); have HAP1 := hide (TgApt.new (Apt.nil _).symm HL0.out.o4 hat1); have HB1 : Hid (Below w.heap.size w w1) := (HB0.out.grown hg1 HB0.out.size (fun k hk => by cases hk)); have HR1 : Hid (Blk w1 w.heap.size 27 #[.int .i64 0, .int .i64 0, .slice none 0 0, .slice none 0 0, .slice none 0 0]) := ((hg1.block _ HR0.out.lt (fun h => by cases h)).trans HR0.out); obtain ⟨_, _, _, _, _, y5⟩ := HX.out w1 HB1.out; obtain ⟨q0, q1, q2, _⟩ := HP5.out w1 HB1.out; have hA1 := (Below.refl _ w1).alloc (Nat.le_refl _) (.cells #[.slice ap pt.name.size cp, .int .i64 pt.kind, .int .i64 pt.cell] 50); have HO1a := hide (hown1.kept hA1); have HL1a := hide (HL1.out.below hA1); have HR1a := hide (HR1.out.below hA1); have HB1a : Hid (Below w.heap.size w _) := HB1.out.trans (hA1.mono HB1.out.size); clear hl1 hown1 hg1 hat1 hB1 hA1)
                  | (at_builtin; refine wp_appTg rfl _ _ rfl (Lb + 1) _ (T.take T.length) rfl HO1a.out w1.heap.size 0 1 [(pt, .slice ap pt.name.size cp)] rfl (fun j hj p hp i hi => ?_) (fun p hp => by rw [List.mem_singleton.1 hp]; rfl) (by rw [HTI.out]; simp; omega) HL1a.out.blk.lt ?_; (case refine_1 => (obtain rfl : j = 0 := (by simp at hj; omega); obtain rfl := (Option.some.inj hp); rw [Nat.zero_mul, Nat.zero_add, Nat.zero_add, (Blk.new _ _ _).cell i, List.getElem?_toArray]; rfl)); intro v2 w2 l2 hl2 hown2 hg2 hat2; obtain rfl := hl2.out; obtain ⟨a2', c2', rfl⟩ := hown2.slice; rw [HTI2.out] at hown2 hat2 ⊢; have HO2 := hide hown2; have HL2 := hide (HL1a.out.grown HO1a.out hg2 HAP1.out); have HAP2 := hide (TgApt.new HAP1.out HL1a.out.o4 hat2); have HB2 : Hid (Below w.heap.size w w2) := (HB1a.out.grown hg2 HB1a.out.size (fun k hk => by have h1 := (World.ownsRow.lt HO1a.out k hk).1; have h2 := HLB.out; omega)); have HR2 : Hid (Blk w2 w.heap.size 27 #[.int .i64 0, .int .i64 0, .slice none 0 0, .slice none 0 0, .slice none 0 0]) := app_typed HR1a.out (by decide) HO1a.out hg2; have n4 := HL2.out.blk.cell 4; simp only [List.getElem?_toArray, List.getElem?_cons_succ, List.getElem?_cons_zero] at n4; have HC2 : Hid (∀ (j : Nat) (p : Tg × Value), T[j]? = some p → ∀ i', i' < 3 → w2.cell? ⟨b4, j * 3 + i', none⟩ = (tgc p.1 p.2)[i']?) := (by rcases HL2.out.o4.form with ⟨h, _⟩ | ⟨b', c', h, _, _, _, hc⟩; (cases h); (cases h; exact hc)); clear hl2 hown2 hg2 hat2)
                  | (at_builtin; refine wp_appTgs rfl _ _ rfl (Lb + 1) _ _ rfl HO2.out (T.drop T.length) 0 (by rw [List.length_drop]; omega) _ _ rfl (.inr (by by_cases q : c4 = T.length; (exact ⟨b4, 0, by rw [if_pos q], fun j hj => absurd hj (by rw [List.drop_length]; exact Nat.not_lt_zero _)⟩); (exact ⟨b4, _, by rw [if_neg q], fun j hj => absurd hj (by rw [List.drop_length]; exact Nat.not_lt_zero _)⟩))) (fun p hp => HON.out p (List.mem_of_mem_drop hp)) (by rw [HTI2.out, List.length_drop]; omega) HL2.out.blk.lt ?_; intro v3 w3 l3 hl3 hown3 hg3 _; obtain rfl := hl3.out; obtain ⟨a3', c3', rfl⟩ := hown3.slice; rw [HFN2.out.2.2] at hown3 ⊢; have hL3 := HL2.out.grown HO2.out hg3 HAP2.out; have HB3 : Hid (Below w.heap.size w w3) := (HB2.out.grown hg3 HB2.out.size (fun k hk => by have h1 := (World.ownsRow.lt HO2.out k hk).1; have h2 := HLB.out; omega)); have HR3 : Hid (Blk w3 w.heap.size 27 #[.int .i64 0, .int .i64 0, .slice none 0 0, .slice none 0 0, .slice none 0 0]) := app_typed HR2.out (by decide) HO2.out hg3; have p4 := hL3.blk.cell 4; have p4f := hL3.blk.frozen 4; simp only [List.getElem?_toArray, List.getElem?_cons_succ, List.getElem?_cons_zero] at p4; have HL4 := hide (hL3.put4 hown3); clear hl3 hown3 hg3 hL3))
                all_goals
                  go_roundw
                  case rel =>
                    have h1 := HLB.out
                    exact ⟨k + 1, _, _, by omega, by go_num, HL4.out, HFN2.out.1, HFN2.out.2.1, HFN2.out.2.2, HR3.out.other _ _ (by omega), HB3.out.setCell (p := ⟨Lb, 4, none⟩) (by show w.heap.size ≤ Lb; omega) _⟩
                  case measure => simp [intOf]; omega
        · have hge2 : ¬ (k : Int) < (ns.length : Int) := by omega
          obtain rfl : k = ns.length := by omega
          obtain ⟨a4, c4, rfl⟩ := hl.o4.slice
          have z0 := hl.blk.cell 0
          have z1 := hl.blk.cell 1
          have z2 := hl.blk.cell 2
          have z3 := hl.blk.cell 3
          have z4 := hl.blk.cell 4
          simp only [List.getElem?_toArray, List.getElem?_cons_succ, List.getElem?_cons_zero] at z0 z1 z2 z3 z4
          have r0 := hr.cell 0
          have r1 := hr.cell 1
          have r2 := hr.cell 2
          have r3 := hr.cell 3
          have r4 := hr.cell 4
          simp only [List.getElem?_toArray, List.getElem?_cons_succ, List.getElem?_cons_zero] at r0 r1 r2 r3 r4
          have rf0 := hr.frozen 0
          have rf1 := hr.frozen 1
          have rf2 := hr.frozen 2
          have rf3 := hr.frozen 3
          have rf4 := hr.frozen 4
          clear hl hT hTn hTl hr hb
          go_wp2
          refine bodyPost_ret (results_cell_row rfl _ _ w.heap.size 27 _ (0, 0) _ rfl (HR.out.five _ _ _ _ _) Tryz.underlying27 rfl (by kernel_rfl)) rfl ?_
          have ky : ∀ {g : Nat} {ty : TypeId} {cs : Array Value}, ty ≠ 27 → Blk U g ty cs → Blk (((((U.setCell ⟨w.heap.size, 0, none⟩ (.int .i64 (fw : Nat))).setCell ⟨w.heap.size, 1, none⟩ (.int .i64 (fh : Nat))).setCell ⟨w.heap.size, 2, none⟩ (.slice a2 c c2)).setCell ⟨w.heap.size, 3, none⟩ (.slice a3 c c3)).setCell ⟨w.heap.size, 4, none⟩ (.slice a4 T.length c4)) g ty cs := fun h hb => typed_five HR.out hb h _ _ _ _ _
          refine ⟨.slice a2 c c2, .slice a3 c c3, .slice a4 T.length c4, ?_, fun W hW => ?_, below_five HB.out (Nat.le_refl _) _ _ _ _ _⟩
          · unfold lyagg lyOf
            rw [HFW.out, HFH.out]
          · have kw : ∀ {g : Nat} {ty : TypeId} {cs : Array Value}, ty ≠ 27 → Blk U g ty cs → Blk W g ty cs := fun h hb => hW _ _ _ h (ky h hb)
            refine ⟨?_, ?_, ?_⟩
            · have h1 : Ow W _ _ _ := own_typed HL.out.o2 fun _ _ q => kw (by decide) q
              have h2 := h1.rd
              unfold lyOf
              rw [HN.out]
              exact h2
            · have h1 : Ow W _ _ _ := own_typed HL.out.o3 fun _ _ q => kw (by decide) q
              have h2 := h1.rd
              unfold lyOf
              rw [HN.out]
              exact h2
            · have h1 : TgOw W _ _ _ := own_typed HL.out.o4 fun _ _ q => kw (by decide) q
              have h2 := h1.rd fun p hp => by
                obtain ⟨g, cg, e1, e2⟩ := HM.out.tn p (HTN.out p hp)
                rw [e1]
                have e3 := (e2.below HB.out).keep fun _ q => kw (by decide) q
                exact ⟨_, g, 0, cg, rfl, fun _ => rfl, fun j hj => by rw [Nat.zero_add]; exact e3.cell hj⟩
              rw [HT.out] at h2
              have h3 : (f.tgs.take ns.length) = f.tgs := by rw [← HM.out.ts]; exact List.take_of_length_le (by rw [List.length_map]; exact Nat.le_refl _)
              rw [h3] at h2
              exact h2
end Go.Proofs.YtijdlbanfdhfnaaGreatDoor

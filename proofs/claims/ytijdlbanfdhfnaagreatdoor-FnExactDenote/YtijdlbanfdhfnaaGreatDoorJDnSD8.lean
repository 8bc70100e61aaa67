/-
  The walk of l4target where a target is added.
-/
import Derived.Test.YtijdlbanfdhfnaaGreatDoorJDnSD7
import Derived.Test.YtijdlbanfdhfnaaGreatDoorJDnSD7
namespace Go.Proofs.YtijdlbanfdhfnaaGreatDoor
open Go.RowKit

/-- A row of bytes of the call's own is a name's row. -/
theorem own_nr {w : World} {B : Nat} {v : Value} {s : ByteArray} (h : w.ownsRow B 5 1 v s.size ((List.range s.size).map (bts s))) (h0 : 0 < s.size) : ∃ g c, v = .slice (some ⟨g, 0, none⟩) s.size c ∧ B ≤ g ∧ Rw w g 5 s.size (bts s) := by
  rcases h.2 with ⟨_, hn⟩ | ⟨g, c, cur, hv, hb, hg, hn, hm, hs, ht⟩
  · omega
  · refine ⟨g, c, hv, hb, cur, hg, fun j hj => ?_⟩
    rw [← Array.getElem?_toList, ← List.getElem?_take_of_lt (by omega : j < s.size * 1), ht]
    simp [hj]
/-- append of bytes onto none, as a name's row. -/
theorem wp_app_nr {ops : Array Oper} {rest : List Oper} {o : Oper} {a : Act} {Q : Exit → Act → World → Prop} {w : World} (hgd : o.guard = none) (s x : Operand)
    (ho : o.op = .call { callee := .builtin .append, args := #[s, x], argTypes := #[38, 38] }) (hs : a.eval s = .slice none 0 0) (t : ByteArray) (v : Value) (hx : a.eval x = v) (hb : BS w v t) (h0 : 0 < t.size) (hlen : t.size ≤ 10000000)
    (h : ∀ g c w', Rw w' g 5 t.size (bts t) → Below w.heap.size w w' → wpList Tryz.prog ops Q rest (a.put o.dst (.slice (some ⟨g, 0, none⟩) t.size c)) w') : wpList Tryz.prog ops Q (o :: rest) a w := by
  obtain ⟨a', b, f, c, hv, ha, hc⟩ := hb
  obtain rfl := ha h0
  obtain ⟨i0, hi, hz0, hz1, hz2⟩ := info_parts Tryz.info5
  refine wpList_append_own _ hgd s x 38 ho w.heap.size 5 i0 (.int .u8 0) 1 1 Tryz.underlying38 hi hz0 hz1 hz2 rfl (by decide) (.slice none 0 0) 0 [] hs (World.ownsRow_nil _ _ _ _) ⟨b, f, none⟩ t.size c ((List.range t.size).map (bts t)) (by rw [hx, hv]) (by simp) (fun j u hj => ?_) ?_ (by unfold maxLen; omega) (by omega) (Nat.le_refl _) (fun v' w' h1 h2 _ => ?_)
  · have hjl : j < t.size := by
      rcases Nat.lt_or_ge j t.size with h | h
      · exact h
      · rw [List.getElem?_eq_none (by simp; exact h)] at hj; cases hj
    have e : (⟨b, f, none⟩ : Addr).add j = ⟨b, f + j, none⟩ := by unfold Addr.add; split <;> simp_all
    rw [e, hc j hjl, ← hj]
    simp [hjl]
  · intro u hu
    obtain ⟨j, _, rfl⟩ := List.mem_map.1 hu
    rfl
  · rw [Nat.zero_add, List.nil_append] at h1
    obtain ⟨g, c', rfl, _, h3⟩ := own_nr h1 h0
    exact h g c' w' h3 ((Below.refl _ w).grown h2 (Nat.le_refl _) (fun k hk => by cases hk))
theorem FlM.appT {w w2 : World} {F bw bc bd cw cc cd : Nat} {G : Nat → Nat} {f : Flo} {vt vf vt' : Value} {ns : List (Tg × Value)} (h : FlM w F bw bc bd cw cc cd G f vt vf ns) {t : Tg} {nv : Value} (hn : TgNr w (t, nv)) (hT : TgOw w2 (F + 1) vt' (ns ++ [(t, nv)])) (hg : w.grownBy w2 vt.ownBlock) :
    FlM (w2.setCell ⟨F, 5, none⟩ vt') F bw bc bd cw cc cd G { f with tgs := f.tgs ++ [t] } vt' vf (ns ++ [(t, nv)]) := by
  have hblk : Blk w2 F 47 _ := app_typed h.blk (by decide) h.tg hg
  have ky : ∀ {g : Nat} {ty : TypeId} {cs : Array Value}, ty ≠ 50 → ty ≠ 47 → Blk w g ty cs → Blk (w2.setCell ⟨F, 5, none⟩ vt') g ty cs := fun h1 h2 hb => set_typed hblk (app_typed hb h1 h.tg hg) h2
  have kt : ∀ {p : Tg × Value}, TgNr w p → TgNr (w2.setCell ⟨F, 5, none⟩ vt') p := fun hp => by
    obtain ⟨g, c, e1, e2⟩ := hp
    exact ⟨g, c, e1, e2.keep fun _ hb => ky (by decide) (by decide) hb⟩
  refine ⟨hblk.set 5 vt', h.wl.keep fun _ hb => ky (by decide) (by decide) hb, h.co.keep fun _ hb => ky (by decide) (by decide) hb, h.wy.keep fun _ hb => ky (by decide) (by decide) hb, fun c hc => (h.wr c hc).keep fun _ hb => ky (by decide) (by decide) hb, h.gi, h.gw, own_typed hT fun _ _ hb => set_typed hblk hb (by decide), fun p hp => ?_, ?_, own_typed h.fr fun _ _ hb => ky (by decide) (by decide) hb, h.af, h.lw, h.lc, h.lg⟩
  · rcases List.mem_append.1 hp with q | q
    · exact kt (h.tn p q)
    · rw [List.mem_singleton.1 q]; exact kt hn
  · rw [List.map_append, h.ts]; rfl
theorem FlM.appF {w w2 : World} {F bw bc bd cw cc cd : Nat} {G : Nat → Nat} {f : Flo} {vt vf vf' : Value} {ns : List (Tg × Value)} (h : FlM w F bw bc bd cw cc cd G f vt vf ns) {i : Nat} (hF : Ap w w2 (F + 1) vf vf' ((f.frs.map fun i : Nat => (i : Int)) ++ [(i : Int)])) :
    FlM (w2.setCell ⟨F, 6, none⟩ vf') F bw bc bd cw cc cd G { f with frs := f.frs ++ [i] } vt vf' ns := by
  have hblk : Blk w2 F 47 _ := app_typed h.blk (by decide) h.fr hF.gr
  have ky : ∀ {g : Nat} {ty : TypeId} {cs : Array Value}, ty ≠ 3 → ty ≠ 47 → Blk w g ty cs → Blk (w2.setCell ⟨F, 6, none⟩ vf') g ty cs := fun h1 h2 hb => set_typed hblk (app_typed hb h1 h.fr hF.gr) h2
  refine ⟨hblk.set 6 vf', h.wl.keep fun _ hb => ky (by decide) (by decide) hb, h.co.keep fun _ hb => set_typed hblk ((hF.gr.block _ hb.lt (fun e => h.af e.symm)).trans hb) (by decide), h.wy.keep fun _ hb => ky (by decide) (by decide) hb, fun c hc => (h.wr c hc).keep fun _ hb => ky (by decide) (by decide) hb, h.gi, h.gw, own_typed h.tg fun _ _ hb => ky (by decide) (by decide) hb, fun p hp => ?_, h.ts, ?_, ?_, h.lw, h.lc, h.lg⟩
  · obtain ⟨g, c, e1, e2⟩ := h.tn p hp
    exact ⟨g, c, e1, e2.keep fun _ hb => ky (by decide) (by decide) hb⟩
  · have := hF.own
    show Ow _ _ _ ((f.frs ++ [i]).map _)
    rw [List.map_append]
    exact own_typed this fun _ _ hb => set_typed hblk hb (by decide)
  · obtain ⟨cs, hb, _⟩ := h.co
    have := hb.lt
    rcases hF.at' with e | e
    · rw [e]; exact h.af
    · rw [e]; intro q; injection q with q; omega
set_option maxHeartbeats 4000000 in
set_option maxRecDepth 1000000 in
theorem l4target_ok (F bw bc bd cw cc cd : Nat) (G : Nat → Nat) (f : Flo) (vt vf : Value) (ns : List (Tg × Value)) (d : Dc) (v7 : Value) (i : Nat) (w : World) (hf : FloOk f) (h7 : BS w v7 d.name) (hm : FlM w F bw bc bd cw cc cd G f vt vf ns) (hn : d.name.size ≠ 0) (hnb : d.name.size ≤ 100000) (ht : ¬ tkn2 f.tgs (tgOf f d)) (hnk : d.kind = 14 ∨ d.kind = 15) (h30 : f.tgs.length < 30) (hfr : f.frs.length ≤ 100000) :
    Calls Tryz.prog 43 #[.pointer (some ⟨F, 0, none⟩), dcagg d v7, .int .i64 (tgOf f d).cell, .int .i64 i] w fun e w' => e = .returned (.int .i64 0) ∧ (∃ vt' vf' ns', FlM w' F bw bc bd cw cc cd G { f with tgs := f.tgs ++ [tgOf f d], frs := f.frs ++ [i] } vt' vf' ns') ∧ Below F w w' := by
  have HNS : Hid (ns.length ≤ 30) := by have := hf.tl; rw [← hm.ts, List.length_map] at this; exact this
  obtain ⟨at_, ct, hvt⟩ := hm.tg.slice
  obtain ⟨a0, b0, c0, hv0, ha0, hc0, _⟩ := hm.tg.view
  have HNT : Hid (∀ (j : Nat) (p : Tg × Value), ns[j]? = some p → p.1.name ≠ d.name ∧ p.1.cell ≠ (tgOf f d).cell) := fun j p hp => by
    have hx : p.1 ∈ f.tgs := by rw [← hm.ts]; exact List.mem_map.2 ⟨p, List.mem_of_getElem? hp, rfl⟩
    exact ⟨fun e => ht ⟨p.1, hx, .inl e⟩, fun e => ht ⟨p.1, hx, .inr e⟩⟩
  have h30n : ns.length < 30 := by rw [← hm.ts, List.length_map] at h30; exact h30
  have HCE : Hid (∀ V, Below w.heap.size w V → ∀ j, j < ns.length → ∀ p, ns[j]? = some p → V.cell? ⟨b0, j * 3, none⟩ = some p.2 ∧ V.cell? ⟨b0, j * 3 + 2, none⟩ = some (.int .i64 p.1.cell) ∧ BS V p.2 p.1.name) := fun V hV j hj p hp => by
    have h0 := hc0 j hj p hp 0 (by omega)
    have h2 := hc0 j hj p hp 2 (by omega)
    obtain ⟨g, c, e1, e2⟩ := hm.tn p (List.mem_of_getElem? hp)
    refine ⟨cell_kept h0 hV, cell_kept h2 hV, ?_⟩
    rw [e1]
    exact ⟨_, g, 0, c, rfl, fun _ => rfl, fun j hj => by rw [Nat.zero_add]; exact (e2.below hV).cell hj⟩
  have x5 := hm.blk.cell 5
  simp only [List.getElem?_toArray, List.getElem?_cons_succ, List.getElem?_cons_zero] at x5
  have HX5 : Hid (∀ V, Below w.heap.size w V → V.cell? ⟨F, 5, none⟩ = some (.slice a0 ns.length c0)) := fun V hV => by rw [← hv0]; exact cell_kept x5 hV
  have HA0 : Hid (0 < ns.length → a0 = some ⟨b0, 0, none⟩) := fun h => (ha0 h).1
  have HN7 := hide h7
  obtain ⟨a7, c7, rfl⟩ := h7.slice
  unfold dcagg
  obtain ⟨cell, hcell⟩ : ∃ c, (tgOf f d).cell = c := ⟨_, rfl⟩
  rw [hcell] at HNT ⊢
  obtain ⟨W1, hW1⟩ : ∃ W, w.alloc (.cells #[.int .i64 d.kind, .int .i64 d.x1, .int .i64 d.y1, .int .i64 d.x2, .int .i64 d.y2, .int .i64 d.dir, .int .i64 d.cost, .slice a7 d.name.size c7, .int .i64 d.node] 42) = W := ⟨_, rfl⟩
  have hB1 : Below w.heap.size w W1 := by rw [← hW1]; exact (Below.refl _ _).alloc (Nat.le_refl _) _
  have HB1 := hide hB1
  have HBK : Hid (Blk W1 w.heap.size 42 #[.int .i64 d.kind, .int .i64 d.x1, .int .i64 d.y1, .int .i64 d.x2, .int .i64 d.y2, .int .i64 d.dir, .int .i64 d.cost, .slice a7 d.name.size c7, .int .i64 d.node]) := by rw [← hW1]; exact Blk.new _ _ _
  have z7 := HBK.out.cell 7
  simp only [List.getElem?_toArray, List.getElem?_cons_succ, List.getElem?_cons_zero] at z7
  have t0 : (((d.name.size : Nat) : Int) == 0) = false := by rw [beq_eq_false_iff_ne]; omega
  have x1 := HX5.out W1 hB1
  have hns := HNS.out
  have hW := hW1
  have HFB : Hid (F + 1 ≤ w.heap.size) := hm.blk.lt
  have HFZ : Hid (w.frozen? ⟨F, 5, none⟩ = false) := hm.blk.frozen 5
  have HX50 : Hid (w.cell? ⟨F, 5, none⟩ = some vt) := x5
  have HTG : Hid (tgOf f d = ⟨d.name, if d.kind = 15 then 1 else 0, cell⟩) := by show _ = _; rw [← hcell]; rfl
  have HFV := hide hm.fr
  have x6 := hm.blk.cell 6
  simp only [List.getElem?_toArray, List.getElem?_cons_succ, List.getElem?_cons_zero] at x6
  subst hv0
  obtain ⟨af, cf, rfl, haf, _⟩ := hm.fr.slc
  obtain ⟨FL, hFL⟩ : ∃ l, (f.frs.map fun i : Nat => (i : Int)) = l := ⟨_, rfl⟩
  have hfl : FL.length ≤ 100000 := by rw [← hFL, List.length_map]; exact hfr
  rw [hFL] at x6 hm
  have HFL := hide hFL
  have HX60 : Hid (w.cell? ⟨F, 6, none⟩ = some (.slice af FL.length cf)) := x6
  have HX6 : Hid (∀ V, Below w.heap.size w V → V.cell? ⟨F, 6, none⟩ = some (.slice af FL.length cf)) := fun V hV => cell_kept x6 hV
  have HFF : Hid (∀ V, Below w.heap.size w V → V.frozen? ⟨F, 5, none⟩ = false) := fun V hV => (hm.blk.below hV).frozen 5
  have HN0 : Hid (0 < d.name.size) := by show _ < _; omega
  have HNB : Hid (d.name.size ≤ 100000) := hnb
  have HM := hide hm
  clear hf h7 hm ht h30 hvt ha0 hc0 x5 hcell hW1 hB1 hn hnb x6 haf hFL hfr
  go_enter Tryz.func43, Tryz.ntmps43
  go_wp2
  clear x1 z7 hW t0
  go_loopw [9] (fun ix wr => ∃ k : Nat, k ≤ ns.length ∧ ix = .int .i64 k ∧ Below W1.heap.size W1 wr) (fun ix _ => ns.length - (intOf ix).toNat)
  case atStart => exact ⟨0, Nat.zero_le _, rfl, Below.refl _ _⟩
  case round =>
    obtain ⟨k, hk, rfl, hbl⟩ := hrel
    rename World => V
    have HBE : Hid (Below w.heap.size w V) := HB1.out.trans (hbl.mono HB1.out.size)
    have HBW := hide hbl
    have z7 := (HBK.out.below hbl).cell 7
    simp only [List.getElem?_toArray, List.getElem?_cons_succ, List.getElem?_cons_zero] at z7
    have x1 := HX5.out V HBE.out
    by_cases hlt : ¬ k < ns.length
    · have hge : ¬ (k : Int) < (ns.length : Int) := by omega
      obtain rfl : k = ns.length := by omega
      have t30 : decide ((30 : Int) ≤ (ns.length : Int)) = false := decide_eq_false (by omega)
      clear hbl hlt
      have z0 := (HBK.out.below HBW.out).cell 0
      simp only [List.getElem?_toArray, List.getElem?_cons_zero] at z0
      have HMV := hide (HM.out.below HBE.out)
      have HBN := hide (HN7.out.below HBE.out)
      rcases hnk with q | q
      · have tk : (d.kind == 15) = false := by rw [q]; rfl
        have HTG2 : Hid (tgOf f d = ⟨d.name, 0, cell⟩) := by show _ = _; rw [HTG.out, q]; rfl
        clear q HTG
        go_wp2_with (first
          | (at_builtin; refine wp_app_nr rfl _ _ rfl rfl d.name _ rfl HBN.out HN0.out (by have := HNB.out; omega) ?_; intro gn cn w3 hnr hb3; have hA := (Below.refl _ w3).alloc (Nat.le_refl _) (.cells #[.slice (some ⟨gn, 0, none⟩) d.name.size cn, .int .i64 0, .int .i64 cell] 50); have HNR := hide (hnr.below hA); have HMA := hide ((HMV.out.below hb3).below hA); have HB3 := hide (HBE.out.trans (hb3.mono HBE.out.size)); have HBA := hide (HB3.out.trans (hA.mono HB3.out.size)); have x3 := HX5.out w3 HB3.out; clear hnr hb3 hA)
          | (at_builtin; refine wp_appTg rfl _ _ rfl (F + 1) _ ns rfl HMA.out.tg w3.heap.size 0 1 [(⟨d.name, 0, cell⟩, .slice (some ⟨gn, 0, none⟩) d.name.size cn)] rfl (fun j hj p hp i hi => ?_) (fun p hp => by rw [List.mem_singleton.1 hp]; rfl) (by simp; omega) HMA.out.blk.lt ?_; (case refine_1 => (obtain rfl : j = 0 := (by simp at hj; omega); obtain rfl := (Option.some.inj hp); rw [Nat.zero_mul, Nat.zero_add, Nat.zero_add, (Blk.new _ _ _).cell i, List.getElem?_toArray]; rfl)); intro v4 w4 l4 hl4 hown4 hg4 hat4; obtain rfl := hl4.out; obtain ⟨a4, c4, rfl⟩ := hown4.slice; have hM4 := HMA.out.appT ⟨gn, cn, rfl, HNR.out⟩ hown4 hg4; have hbl4 : Below (F + 1) w w4 := (HBA.out.mono HFB.out).grown hg4 HMA.out.blk.lt (fun k hk => (World.ownsRow.lt HMA.out.tg k hk).1); have k5 := hbl4.cell (p := ⟨F, 5, none⟩) (Nat.lt_succ_self F); have k5f := hbl4.frozen (p := ⟨F, 5, none⟩) (Nat.lt_succ_self F); have k6 := hbl4.cell (p := ⟨F, 6, none⟩) (Nat.lt_succ_self F); rw [HX50.out] at k5; rw [HFZ.out] at k5f; rw [HX60.out] at k6; have HB4 := hide hbl4; simp only [List.length_append, List.length_cons, List.length_nil, Nat.zero_add] at hM4; have hA5 := (Below.refl _ (w4.setCell ⟨F, 5, none⟩ (.slice a4 (ns.length + 1) c4))).alloc (Nat.le_refl _) (.cells #[.int .i64 (i : Nat)] 3); have HM5 := hide (hM4.below hA5); have HN5 : Hid (((w4.setCell ⟨F, 5, none⟩ (.slice a4 (ns.length + 1) c4)).alloc (.cells #[.int .i64 (i : Nat)] 3)).cell? ⟨w4.heap.size, 0, none⟩ = some (.int .i64 (i : Nat))) := (by have h := (Blk.new (w4.setCell ⟨F, 5, none⟩ (.slice a4 (ns.length + 1) c4)) 3 #[.int .i64 (i : Nat)]).cell 0; rw [World.size_setCell] at h; exact h); clear hl4 hown4 hg4 hat4 hM4 hbl4 hA5)
          | (at_builtin; refine wp_app1 rfl _ _ rfl (F + 1) _ FL rfl (by have h := HM5.out.fr; rw [show (List.map (fun i : Nat => (i : Int)) f.frs) = FL from HFL.out] at h; exact h) _ 1 (i : Nat) rfl HN5.out (by omega) HM5.out.blk.lt ?_; intro v6 w6 hap; have hap' : Ap _ _ _ (.slice af FL.length cf) v6 ((f.frs.map fun i : Nat => (i : Int)) ++ [((i : Nat) : Int)]) := (by rw [show (List.map (fun i : Nat => (i : Int)) f.frs) = FL from HFL.out]; exact hap); have hbk6 := app_typed HM5.out.blk (by decide) HM5.out.fr hap.gr; obtain ⟨a6, c6, rfl, _, _⟩ := hap.own.slc; have hM6 := HM5.out.appF hap'; simp only [List.length_append, List.length_cons, List.length_nil, Nat.zero_add] at hM6; have k7 := hbk6.cell 6; have k7f := hbk6.frozen 6; simp only [List.getElem?_toArray, List.getElem?_cons_succ, List.getElem?_cons_zero] at k7; have HM6 := hide hM6; have HB6 : Hid (Below F w w6) := ((((HB4.out.mono (Nat.le_succ F)).setCell (p := ⟨F, 5, none⟩) (Nat.le_refl _) _).alloc (by rw [World.size_setCell]; have h1 := HB4.out.size; have h2 := HFB.out; omega) _).grown hap.gr (by have h1 := HM5.out.blk.lt; omega) (fun k hk => by have h1 := (HM5.out.fr.lt k hk).1; omega)); clear hap hap' hbk6 hM6))
        go_ret
        exact ⟨rfl, ⟨_, _, _, by rw [HTG2.out]; exact HM6.out⟩, HB6.out.setCell (p := ⟨F, 6, none⟩) (Nat.le_refl _) _⟩
      · have tk : (d.kind == 15) = true := by rw [q]; rfl
        have HTG2 : Hid (tgOf f d = ⟨d.name, 1, cell⟩) := by show _ = _; rw [HTG.out, q]; rfl
        clear q HTG
        go_wp2_with (first
          | (at_builtin; refine wp_app_nr rfl _ _ rfl rfl d.name _ rfl HBN.out HN0.out (by have := HNB.out; omega) ?_; intro gn cn w3 hnr hb3; have hA := (Below.refl _ w3).alloc (Nat.le_refl _) (.cells #[.slice (some ⟨gn, 0, none⟩) d.name.size cn, .int .i64 1, .int .i64 cell] 50); have HNR := hide (hnr.below hA); have HMA := hide ((HMV.out.below hb3).below hA); have HB3 := hide (HBE.out.trans (hb3.mono HBE.out.size)); have HBA := hide (HB3.out.trans (hA.mono HB3.out.size)); have x3 := HX5.out w3 HB3.out; clear hnr hb3 hA)
          | (at_builtin; refine wp_appTg rfl _ _ rfl (F + 1) _ ns rfl HMA.out.tg w3.heap.size 0 1 [(⟨d.name, 1, cell⟩, .slice (some ⟨gn, 0, none⟩) d.name.size cn)] rfl (fun j hj p hp i hi => ?_) (fun p hp => by rw [List.mem_singleton.1 hp]; rfl) (by simp; omega) HMA.out.blk.lt ?_; (case refine_1 => (obtain rfl : j = 0 := (by simp at hj; omega); obtain rfl := (Option.some.inj hp); rw [Nat.zero_mul, Nat.zero_add, Nat.zero_add, (Blk.new _ _ _).cell i, List.getElem?_toArray]; rfl)); intro v4 w4 l4 hl4 hown4 hg4 hat4; obtain rfl := hl4.out; obtain ⟨a4, c4, rfl⟩ := hown4.slice; have hM4 := HMA.out.appT ⟨gn, cn, rfl, HNR.out⟩ hown4 hg4; have hbl4 : Below (F + 1) w w4 := (HBA.out.mono HFB.out).grown hg4 HMA.out.blk.lt (fun k hk => (World.ownsRow.lt HMA.out.tg k hk).1); have k5 := hbl4.cell (p := ⟨F, 5, none⟩) (Nat.lt_succ_self F); have k5f := hbl4.frozen (p := ⟨F, 5, none⟩) (Nat.lt_succ_self F); have k6 := hbl4.cell (p := ⟨F, 6, none⟩) (Nat.lt_succ_self F); rw [HX50.out] at k5; rw [HFZ.out] at k5f; rw [HX60.out] at k6; have HB4 := hide hbl4; simp only [List.length_append, List.length_cons, List.length_nil, Nat.zero_add] at hM4; have hA5 := (Below.refl _ (w4.setCell ⟨F, 5, none⟩ (.slice a4 (ns.length + 1) c4))).alloc (Nat.le_refl _) (.cells #[.int .i64 (i : Nat)] 3); have HM5 := hide (hM4.below hA5); have HN5 : Hid (((w4.setCell ⟨F, 5, none⟩ (.slice a4 (ns.length + 1) c4)).alloc (.cells #[.int .i64 (i : Nat)] 3)).cell? ⟨w4.heap.size, 0, none⟩ = some (.int .i64 (i : Nat))) := (by have h := (Blk.new (w4.setCell ⟨F, 5, none⟩ (.slice a4 (ns.length + 1) c4)) 3 #[.int .i64 (i : Nat)]).cell 0; rw [World.size_setCell] at h; exact h); clear hl4 hown4 hg4 hat4 hM4 hbl4 hA5)
          | (at_builtin; refine wp_app1 rfl _ _ rfl (F + 1) _ FL rfl (by have h := HM5.out.fr; rw [show (List.map (fun i : Nat => (i : Int)) f.frs) = FL from HFL.out] at h; exact h) _ 1 (i : Nat) rfl HN5.out (by omega) HM5.out.blk.lt ?_; intro v6 w6 hap; have hap' : Ap _ _ _ (.slice af FL.length cf) v6 ((f.frs.map fun i : Nat => (i : Int)) ++ [((i : Nat) : Int)]) := (by rw [show (List.map (fun i : Nat => (i : Int)) f.frs) = FL from HFL.out]; exact hap); have hbk6 := app_typed HM5.out.blk (by decide) HM5.out.fr hap.gr; obtain ⟨a6, c6, rfl, _, _⟩ := hap.own.slc; have hM6 := HM5.out.appF hap'; simp only [List.length_append, List.length_cons, List.length_nil, Nat.zero_add] at hM6; have k7 := hbk6.cell 6; have k7f := hbk6.frozen 6; simp only [List.getElem?_toArray, List.getElem?_cons_succ, List.getElem?_cons_zero] at k7; have HM6 := hide hM6; have HB6 : Hid (Below F w w6) := ((((HB4.out.mono (Nat.le_succ F)).setCell (p := ⟨F, 5, none⟩) (Nat.le_refl _) _).alloc (by rw [World.size_setCell]; have h1 := HB4.out.size; have h2 := HFB.out; omega) _).grown hap.gr (by have h1 := HM5.out.blk.lt; omega) (fun k hk => by have h1 := (HM5.out.fr.lt k hk).1; omega)); clear hap hap' hbk6 hM6))
        go_ret
        exact ⟨rfl, ⟨_, _, _, by rw [HTG2.out]; exact HM6.out⟩, HB6.out.setCell (p := ⟨F, 6, none⟩) (Nat.le_refl _) _⟩
    have hlt := Classical.not_not.1 hlt
    have hlti : (k : Int) < (ns.length : Int) := by omega
    obtain rfl := HA0.out (by omega)
    obtain ⟨p, hp⟩ : ∃ p, ns[k]? = some p := ⟨_, List.getElem?_eq_getElem hlt⟩
    obtain ⟨g0, g2, hbs⟩ := HCE.out V HBE.out k hlt p hp
    obtain ⟨nm, hnm⟩ : ∃ m, p.1.name = m := ⟨_, rfl⟩
    obtain ⟨ce, hce⟩ : ∃ m, p.1.cell = m := ⟨_, rfl⟩
    obtain ⟨pv, hpv⟩ : ∃ m, p.2 = m := ⟨_, rfl⟩
    rw [hpv] at g0 hbs
    rw [hnm] at hbs
    rw [hce] at g2
    have hnn := HNT.out k p hp
    rw [hnm, hce] at hnn
    obtain ⟨an, cn, rfl⟩ := hbs.slice
    have c5 : ∀ n, (convert 38 9 (.slice an nm.size cn)).run Tryz.prog (V.drewN n) = .ok (.string nm) (V.drewN n) := fun n => toStr_bs (w := V.drewN n) hbs
    have c6 : ∀ n, (convert 38 9 (.slice a7 d.name.size c7)).run Tryz.prog (V.drewN n) = .ok (.string d.name) (V.drewN n) := fun n => toStr_bs (w := V.drewN n) (HN7.out.below (below_drewN HBE.out n))
    obtain ⟨s, hs⟩ : ∃ s, d.name = s := ⟨_, rfl⟩
    rw [hs] at c6 z7 hnn
    obtain ⟨q, q2⟩ := hnn
    clear hbl hp hnm hce hpv hbs
    have s6 : (nm.toList == s.toList) = false := by
      rw [beq_eq_false_iff_ne]
      intro h
      exact q (tl_inj h)
    have s7 : (ce == cell) = false := by rw [beq_eq_false_iff_ne]; exact q2
    clear q q2 hs
    go_wp2_with fail
    go_quiet (fail)
    go_wp2
    go_roundw
    case rel => exact ⟨k + 1, by omega, by go_num, below_drewN HBW.out _⟩
    case measure => simp [intOf]; omega

end Go.Proofs.YtijdlbanfdhfnaaGreatDoor

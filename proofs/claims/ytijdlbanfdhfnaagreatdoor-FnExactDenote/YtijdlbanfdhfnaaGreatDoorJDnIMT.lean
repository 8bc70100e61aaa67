/-
  Impl's target.
-/
import Derived.Test.YtijdlbanfdhfnaaGreatDoorJDnIMM
import Derived.Test.YtijdlbanfdhfnaaGreatDoorJDnSD5
import Derived.Deep.RegionHeld3
import Derived.Deep.RegionLaw
import Derived.Lib.ConvBytes
namespace Go.Proofs.YtijdlbanfdhfnaaGreatDoor
open Go.RowKit

/-- append of one target onto a row of the call's own, as a step of a region that draws. -/
theorem step_appTg {ops : Array Oper} {o : Oper} {a : Act} {w : World} {K : Act → World → Prop} {Q : Exit → Act → World → Prop} {E : Prop} (hgd : o.guard = none) (s x : Operand)
    (ho : o.op = .call { callee := .builtin .append, args := #[s, x], argTypes := #[25, 25] }) (B : Nat) (v : Value) (xs : List (Tg × Value)) (hs : a.eval s = v) (hown : TgOw w B v xs)
    (g c : Nat) (p : Tg × Value) (hx : a.eval x = .slice (some ⟨g, 0, none⟩) 1 c) (hnew : ∀ i, i < 3 → w.cell? ⟨g, i, none⟩ = (tgc p.1 p.2)[i]?) (hone : p.2.oneCell' = true) (hlen : xs.length ≤ 10000000) (hbase : B ≤ w.heap.size)
    (h : ∀ v' w', TgOw w' B v' (xs ++ [p]) → w.grownBy w' v.ownBlock → (v'.ownBlock = v.ownBlock ∨ v'.ownBlock = some w.heap.size) → K (a.put o.dst v') w') :
    if Region.wanted o (yielded ops a.tmps) = true then Oper.wp Tryz.prog o a w K Q else E := by
  have hw : Region.wanted o (yielded ops a.tmps) = true := by simp [Region.wanted, hgd]
  rw [if_pos hw]
  obtain ⟨i0, hi, hz0, hz1, hz2⟩ := info_partsTg Tryz.infoTg
  have hn : ∀ j u, (tgcs [p])[j]? = some u → w.cell? ((⟨g, 0, none⟩ : Addr).add j) = some u := fun j u hj => by
    have hjl : j < 3 := by
      rcases Nat.lt_or_ge j 3 with q | q
      · exact q
      · rw [List.getElem?_eq_none (by rw [tgcs_length]; exact q)] at hj; cases hj
    have e : (⟨g, 0, none⟩ : Addr).add j = ⟨g, j, none⟩ := by unfold Addr.add; split <;> simp_all
    rw [e, hnew j hjl, ← hj]
    have h1 := tgcs_at [p] 0 p rfl j hjl
    rw [Nat.zero_mul, Nat.zero_add] at h1
    exact h1.symm
  obtain ⟨v', w', hr, h1, h2, _, h4⟩ := run_append_own_at (P := Tryz.prog) w B 25 o.type 50 i0 _ 3 40 Tryz.underlying25 hi hz0 hz1 hz2 rfl (by decide) v xs.length (tgcs xs) hown ⟨g, 0, none⟩ 1 c (tgcs [p]) (tgcs_length [p]) hn (tgcs_one (fun q hq => by rw [List.mem_singleton.1 hq]; exact hone)) (by unfold maxLen; omega) (by omega) hbase
  unfold Oper.wp execOp
  simp only [ho, resolve, invoke, builtin, Sem.run_bind, Sem.run_pure, Result.andThen_ok, List.map_toArray, List.map_cons, List.map_nil, hs, hx, hr]
  refine h v' w' ?_ h2 h4
  unfold TgOw
  rw [List.length_append, tgcs_append]
  exact h1
theorem inF_ff {fw fh : Nat} {d : Dc} (hn : ¬ inF fw fh d) : (insd fw fh d.x1 d.y1 && insd fw fh d.x2 d.y2) = false := by
  have h := inF_iff fw fh d
  cases hb : (insd fw fh d.x1 d.y1 && insd fw fh d.x2 d.y2) with
  | false => rfl
  | true => exact absurd (h.1 hb) hn
theorem inF_tt {fw fh : Nat} {d : Dc} (hn : inF fw fh d) : (insd fw fh d.x1 d.y1 && insd fw fh d.x2 d.y2) = true := (inF_iff fw fh d).2 hn
theorem bytes_tgnf (w : World) (t : Tg) (c : Nat) : TgNf (Lib.bytesWorld w 5 t.name) (t, .slice (some ⟨w.heap.size, 0, none⟩) t.name.size c) := by
  have h1 := Lib.bytesWorld_at_new w 5 t.name
  have h2 : ∀ j, j < t.name.size → (Lib.bytesCells w 5 t.name)[j]? = some (bts t.name j) := fun j hj => by
    have h3 := Lib.bytesWorld_cell w 5 t.name j hj
    have h5 : (Lib.bytesWorld w 5 t.name).cell? ⟨w.heap.size, j, none⟩ = (Lib.bytesCells w 5 t.name)[j]? := by simp [World.cell?, h1]
    rw [← h5, h3]
    unfold bts
    rw [Utf8W.get!_of_lt t.name j hj]
    have h' : j < t.name.data.size := hj
    simp only [List.getD]
    rw [Array.getElem?_toList, Array.getElem?_eq_getElem h']
    rfl
  refine ⟨w.heap.size, c, _, _, rfl, h1, h2, ?_⟩
  show t.name.size ≤ (Lib.bytesCells w 5 t.name).size
  rcases Nat.lt_or_ge (Lib.bytesCells w 5 t.name).size t.name.size with q | q
  · have h4 := h2 _ q
    rw [Array.getElem?_eq_none (Nat.le_refl _)] at h4
    cases h4
  · exact q
theorem bytes_below (w : World) (s : ByteArray) : Below w.heap.size w (Lib.bytesWorld w 5 s) := ⟨rfl, rfl, rfl, by rw [Lib.bytesWorld_size]; omega, fun j hj => Lib.bytesWorld_at_old w 5 s j hj⟩
open Classical in
theorem apC_tg {f : Flo} {d : Dc} (hk : d.kind = 14 ∨ d.kind = 15) (hin : inF f.w f.h d) : apC f d = (if d.name.size = 0 ∨ tkn2 f.tgs (tgOf f d) then 8 else if 30 ≤ f.tgs.length then 7 else 0) := by
  unfold apC
  rw [if_neg (by omega), if_neg (by rintro (h | h); exact h hin; omega), if_pos (by rcases hk with q | q <;> rw [q] <;> rfl)]
theorem apC_t8 {f : Flo} {d : Dc} (hk : d.kind = 14 ∨ d.kind = 15) (hin : inF f.w f.h d) (h : d.name.size = 0 ∨ tkn2 f.tgs (tgOf f d)) : apC f d = 8 := by rw [apC_tg hk hin, if_pos h]
theorem apC_t7 {f : Flo} {d : Dc} (hk : d.kind = 14 ∨ d.kind = 15) (hin : inF f.w f.h d) (h : ¬ (d.name.size = 0 ∨ tkn2 f.tgs (tgOf f d))) (h3 : 30 ≤ f.tgs.length) : apC f d = 7 := by rw [apC_tg hk hin, if_neg h, if_pos h3]
theorem apC_t0 {f : Flo} {d : Dc} (hk : d.kind = 14 ∨ d.kind = 15) (hin : inF f.w f.h d) (h : ¬ (d.name.size = 0 ∨ tkn2 f.tgs (tgOf f d))) (h3 : f.tgs.length < 30) : apC f d = 0 := by rw [apC_tg hk hin, if_neg h, if_neg (by omega)]
theorem tgt_fin {w w4 W5 w9 : World} {F cb cc M mn c i gc : Nat} {f : Flo} {d : Dc} {vt v9 : Value} {ns : List (Tg × Value)} {s : ByteArray} {T : Tg} {o8 : Obj}
    (hm : FlI w F cb cc M mn f vt ns) (hM : M < F) (hb4 : Below w.heap.size w w4) (h5 : MapN W5 M (mn + 1) (fun x => nmC f.tgs x + (if s = x then 1 else 0))) (hg5 : w4.grownBy W5 (some M)) (hc : c < f.w * f.h) (hTn : T.name = s) (hTc : T.cell = (c : Int))
    (ho9 : TgOw w9 (F + 1) v9 (ns ++ [(T, .slice (some ⟨W5.heap.size, 0, none⟩) s.size gc)])) (hg9 : ((Lib.bytesWorld (W5.setCell ⟨cb, c * 4 + 3, none⟩ (.bool true)).drew 5 s).alloc o8).grownBy w9 vt.ownBlock) (hap : apC f d = 0) (hapf : apF f d i = { f with tgs := f.tgs ++ [T], frs := f.frs ++ [i] }) :
    ApQ w F cb cc M f d i (.returned (.int .i64 0)) (w9.setCell ⟨F, 3, none⟩ v9) := by
  subst hTn
  have J4 := (hm.below hb4).toJ
  have J5 := J4.map h5 hg5
  have J6 := J5.gr hc (show 3 < 4 by decide) (.bool true)
  obtain ⟨W6, hW6⟩ : ∃ W, W5.setCell ⟨cb, c * 4 + 3, none⟩ (.bool true) = W := ⟨_, rfl⟩
  have hz6 : W6.heap.size = W5.heap.size := by rw [← hW6, World.size_setCell]
  have hB7 : Below W6.heap.size W6 (Lib.bytesWorld W6.drew 5 T.name) := (Below.refl _ W6).drew.trans (bytes_below W6.drew T.name)
  have hn7 := bytes_tgnf W6.drew T gc
  have e7 : W6.drew.heap.size = W5.heap.size := by rw [← hz6]; rfl
  rw [e7] at hn7
  obtain ⟨cs6, hcs6, _⟩ := J5.ce
  have k6 : ∀ {g : Nat} {t : TypeId} {cs : Array Value}, t ≠ 63 → Blk w g t cs → Blk W6 g t cs := fun e q => by
    rw [← hW6]
    exact set_typed hcs6 (map_typed (q.below hb4) J4.mp.obj hg5) e
  have b6 : Below M w W6 := by
    rw [← hW6]
    have h1 := J4.lc
    have h2 := hm.mp.lt
    have h3 := hb4.size
    exact ((hb4.mono (Nat.le_of_lt h2)).grown hg5 (by omega) (fun k hk => by injection hk with hk; omega)).setCell (p := ⟨cb, c * 4 + 3, none⟩) (by show M ≤ cb; omega) _
  rw [hW6] at J6 hg9
  clear hW6 hcs6
  obtain ⟨W7, hW7⟩ : ∃ W, Lib.bytesWorld W6.drew 5 T.name = W := ⟨_, rfl⟩
  rw [hW7] at hB7 hn7 hg9
  have J7 := J6.below hB7
  have hA : Below W7.heap.size W7 (W7.alloc o8) := (Below.refl _ W7).alloc (Nat.le_refl _) _
  have J8 := J7.below hA
  have hz7 := hB7.size
  have J9 := J8.app ho9 hg9 (hn7.keep fun q => cel_below q hA) (fun q hq => by
    obtain ⟨g, hg, hl⟩ := tgnf_old (J6.tn q hq)
    rw [hg]
    show some g ≠ some W5.heap.size
    intro e
    injection e with e
    omega) (fun g hg => by
    have hg' : some W5.heap.size = some g := hg
    injection hg' with hg'
    have := J6.blk.lt
    omega)
  have hls := hm.mp.lt
  have b8 : Below M w (W7.alloc o8) := (b6.trans (hB7.mono (by have := b6.size; omega))).trans (hA.mono (by have := b6.size; omega))
  have b9 : Below M w (w9.setCell ⟨F, 3, none⟩ v9) := (b8.grown hg9 (by have := b8.size; omega) (fun k hk => by have := (J8.tg.lt k hk).1; omega)).setCell (p := ⟨F, 3, none⟩) (by show M ≤ F; omega) _
  refine ⟨0, rfl, hap.symm, b9, b9.size, fun g t cs e1 e2 e3 q => J8.app_cel hg9 e2 e3 (((k6 e1 q).below hB7).below hA), fun _ => ⟨mn + 1, v9, ns ++ [(T, .slice (some ⟨W5.heap.size, 0, none⟩) T.name.size gc)], ?_⟩⟩
  rw [hapf]
  refine FlJ.toI ⟨J9.blk, J9.ce.congr (fun x j _ hj => grv_tg f T (f.frs ++ [i]) c hTc x j hj), by rw [← nmC_snoc]; exact J9.mp, J9.tg, J9.tn, J9.nd, J9.nf, J9.lc, J9.lm⟩ ?_ ?_
  · show mn + 1 ≤ (f.tgs ++ [T]).length
    have := hm.ml
    rw [List.length_append]
    simp
    exact this
  · show _ = f.tgs ++ [T]
    rw [List.map_append, hm.ts]
    rfl
theorem nmC_pos {L : List Tg} {s : ByteArray} : 0 < nmC L s ↔ ∃ x ∈ L, x.name = s := by
  unfold nmC
  rw [List.countP_pos_iff]
  simp only [decide_eq_true_eq]
theorem tkB_iff {L : List Tg} {c : Nat} : tkB L c = true ↔ ∃ x ∈ L, x.cell = (c : Int) := by
  unfold tkB
  rw [List.any_eq_true]
  simp only [decide_eq_true_eq]
set_option maxHeartbeats 2000000 in
set_option maxRecDepth 1000000 in
/-- Out of the floor. -/
theorem target_out (F fw fh : Nat) (d : Dc) (v7 : Value) (w : World) (h7 : BS w v7 d.name)
    (f0 : w.cell? ⟨F, 0, none⟩ = some (.int .i64 (fw : Nat))) (f1 : w.cell? ⟨F, 1, none⟩ = some (.int .i64 (fh : Nat))) (hn : ¬ inF fw fh d) :
    Calls Tryz.prog 26 #[.pointer (some ⟨F, 0, none⟩), dcagg d v7] w fun e w' => e = .returned (.int .i64 8) ∧ Below w.heap.size w w' := by
  have HN7 := hide h7
  obtain ⟨a7, c7, rfl⟩ := h7.slice
  have HFT := hide (fun V (hV : Below w.heap.size w V) => fits_any F fw fh d (.slice a7 d.name.size c7) V ⟨_, _, _, rfl⟩ (cell_kept f0 hV) (cell_kept f1 hV))
  rw [inF_ff hn] at HFT
  unfold dcagg at HFT ⊢
  have HB1 : Hid (Below w.heap.size w (w.alloc (.cells #[.int .i64 d.kind, .int .i64 d.x1, .int .i64 d.y1, .int .i64 d.x2, .int .i64 d.y2, .int .i64 d.dir, .int .i64 d.cost, .slice a7 d.name.size c7, .int .i64 d.node] 42))) := (Below.refl _ w).alloc (Nat.le_refl _) _
  have HBK : Hid (Blk (w.alloc (.cells #[.int .i64 d.kind, .int .i64 d.x1, .int .i64 d.y1, .int .i64 d.x2, .int .i64 d.y2, .int .i64 d.dir, .int .i64 d.cost, .slice a7 d.name.size c7, .int .i64 d.node] 42)) w.heap.size 42 #[.int .i64 d.kind, .int .i64 d.x1, .int .i64 d.y1, .int .i64 d.x2, .int .i64 d.y2, .int .i64 d.dir, .int .i64 d.cost, .slice a7 d.name.size c7, .int .i64 d.node]) := Blk.new _ _ _
  have c5 := toStr_bs (HN7.out.below HB1.out)
  obtain ⟨s, hs⟩ : ∃ s, d.name = s := ⟨_, rfl⟩
  obtain ⟨n7, hn7⟩ : ∃ s, d.name.size = s := ⟨_, rfl⟩
  rw [hn7] at HFT HB1 HBK c5 ⊢
  clear f0 f1 hn HN7 h7
  go_enter Tryz.func26, Tryz.ntmps26
  go_wp2_with (go_at_call 57; refine (HFT.out _ HB1.out).mono ?_; rintro e w4 ⟨rfl, hb4⟩; have HB4 : Hid (Below w.heap.size w w4) := HB1.out.trans (hb4.mono HB1.out.size); clear hb4)
  go_ret
  exact ⟨rfl, HB4.out⟩
set_option maxHeartbeats 4000000 in
set_option maxRecDepth 1000000 in
theorem target_ap (F cb cc M mn : Nat) (f : Flo) (vt : Value) (ns : List (Tg × Value)) (d : Dc) (v7 : Value) (i : Nat) (w : World) (h7 : BS w v7 d.name) (hf : FloOk f) (hm : FlI w F cb cc M mn f vt ns) (hM : M < F) (hd : DcOk d) (hk : d.kind = 14 ∨ d.kind = 15) :
    Calls Tryz.prog 26 #[.pointer (some ⟨F, 0, none⟩), dcagg d v7] w (ApQ w F cb cc M f d i) := by
  have hnk : nmK d.kind = true := by rcases hk with q | q <;> rw [q] <;> rfl
  have hk7 : d.kind ≠ 7 := by omega
  have hk13 : ¬ (d.kind = 13 ∧ (d.cost < 1 ∨ 9 < d.cost)) := by omega
  have f0 := hm.blk.cell 0
  have f1 := hm.blk.cell 1
  have f2 := hm.blk.cell 2
  have f3 := hm.blk.cell 3
  have f4 := hm.blk.cell 4
  simp only [List.getElem?_toArray, List.getElem?_cons_succ, List.getElem?_cons_zero] at f0 f1 f2 f3 f4
  have HMF : Hid (M < F ∧ F < w.heap.size ∧ M < w.heap.size ∧ cb < w.heap.size ∧ F < cb) := ⟨hM, hm.blk.lt, hm.mp.lt, hm.ce.lt, hm.lc⟩
  by_cases hin : ¬ inF f.w f.h d
  · refine (target_out F f.w f.h d v7 w h7 f0 f1 hin).mono ?_
    rintro e w' ⟨rfl, hb⟩
    refine ⟨8, rfl, ?_, hb.mono (by have := HMF.out; omega), hb.size, fun g t cs _ _ _ q => q.below hb, fun h => by omega⟩
    unfold apC
    rw [if_neg hk7, if_pos (.inl hin)]
  replace hin := Classical.not_not.1 hin
  have hxy : d.x1 = d.x2 ∧ d.y1 = d.y2 := ⟨hd.ax (by rcases hk with q | q <;> rw [q] <;> rfl), hd.ay (by rcases hk with q | q <;> rw [q] <;> rfl)⟩
  have hcell : (tgOf f d).cell = d.y1 * (f.w : Int) + d.x1 := by
    show loI d.y1 d.y2 * (f.w : Int) + loI d.x1 d.x2 = _
    rw [← hxy.1, ← hxy.2]
    unfold loI
    rw [if_pos (Int.le_refl _), if_pos (Int.le_refl _)]
  obtain ⟨c, hc, hcn⟩ : ∃ c : Nat, d.y1 * (f.w : Int) + d.x1 = (c : Int) ∧ c < f.w * f.h := by
    have h := tgOf_in hin
    rw [hcell] at h
    exact ⟨(d.y1 * (f.w : Int) + d.x1).toNat, by omega, by omega⟩
  have hns : ns.length = f.tgs.length := by rw [← hm.ts, List.length_map]
  have htk : tkn2 f.tgs (tgOf f d) ↔ (0 < nmC f.tgs d.name ∨ tkB f.tgs c = true) := by
    rw [nmC_pos, tkB_iff]
    unfold tkn2
    rw [hcell, hc]
    show (∃ x ∈ f.tgs, x.name = d.name ∨ x.cell = (c : Int)) ↔ _
    constructor
    · rintro ⟨x, hx, h | h⟩
      · exact .inl ⟨x, hx, h⟩
      · exact .inr ⟨x, hx, h⟩
    · rintro (⟨x, hx, h⟩ | ⟨x, hx, h⟩)
      · exact ⟨x, hx, .inl h⟩
      · exact ⟨x, hx, .inr h⟩
  have hnsz : d.name.size ≤ 60 := hd.n0 hnk
  have HN7 := hide h7
  have vx := (vlB_iff d.x1).1 hd.x1
  have vy := (vlB_iff d.y1).1 hd.y1
  obtain ⟨a7, c7, rfl⟩ := h7.slice
  have HFT := hide (fun V (hV : Below w.heap.size w V) => fits_any F f.w f.h d (.slice a7 d.name.size c7) V ⟨_, _, _, rfl⟩ (cell_kept f0 hV) (cell_kept f1 hV))
  rw [inF_tt hin] at HFT
  unfold dcagg at HFT ⊢
  have HB1 : Hid (Below w.heap.size w (w.alloc (.cells #[.int .i64 d.kind, .int .i64 d.x1, .int .i64 d.y1, .int .i64 d.x2, .int .i64 d.y2, .int .i64 d.dir, .int .i64 d.cost, .slice a7 d.name.size c7, .int .i64 d.node] 42))) := (Below.refl _ w).alloc (Nat.le_refl _) _
  have HBK : Hid (Blk (w.alloc (.cells #[.int .i64 d.kind, .int .i64 d.x1, .int .i64 d.y1, .int .i64 d.x2, .int .i64 d.y2, .int .i64 d.dir, .int .i64 d.cost, .slice a7 d.name.size c7, .int .i64 d.node] 42)) w.heap.size 42 #[.int .i64 d.kind, .int .i64 d.x1, .int .i64 d.y1, .int .i64 d.x2, .int .i64 d.y2, .int .i64 d.dir, .int .i64 d.cost, .slice a7 d.name.size c7, .int .i64 d.node]) := Blk.new _ _ _
  have c5 := toStr_bs (HN7.out.below HB1.out)
  have HM0 := hide hm
  have HK := hide hk
  have HIN := hide hin
  have HCE : Hid ((tgOf f d).cell = (c : Int)) := hcell.trans hc
  have HTK := hide htk
  have HAQ : Hid (∀ (b : Int) (w' : World), apC f d = b → b ≠ 0 → Below w.heap.size w w' → ApQ w F cb cc M f d i (.returned (.int .i64 b)) w') := fun b w' h1 h2 hb => ⟨b, rfl, h1.symm, hb.mono (by have := HMF.out; omega), hb.size, fun g t cs _ _ _ q => q.below hb, fun h => absurd h h2⟩
  have HFO := hide hf
  have HW4 : Hid (f.w ≤ 40) := hf.w1
  obtain ⟨s, hs⟩ : ∃ s, d.name = s := ⟨_, rfl⟩
  have HS := hide hs
  have hsl : s.toList.isEmpty = decide (s.size = 0) := by
    rw [Lib.toList_data, Lib.size_eq]
    cases s.data.toList <;> rfl
  rw [hs] at htk hnsz c5
  obtain ⟨n7, hn7⟩ : ∃ n, d.name.size = n := ⟨_, rfl⟩
  rw [hn7] at HFT HB1 HBK ⊢
  have hc5 : (convert 38 9 (.slice a7 n7 c7)).run Tryz.prog (w.alloc (.cells #[.int .i64 d.kind, .int .i64 d.x1, .int .i64 d.y1, .int .i64 d.x2, .int .i64 d.y2, .int .i64 d.dir, .int .i64 d.cost, .slice a7 n7 c7, .int .i64 d.node] 42)) = .ok (.string s) (w.alloc (.cells #[.int .i64 d.kind, .int .i64 d.x1, .int .i64 d.y1, .int .i64 d.x2, .int .i64 d.y2, .int .i64 d.dir, .int .i64 d.cost, .slice a7 n7 c7, .int .i64 d.node] 42)) := by rw [← hn7, hs]; exact c5
  have HLK : Hid (∀ V, Below w.heap.size w V → (Instr.lookup 55 (.map (some M)) (.string s) false).run Tryz.prog V = .ok (.int .i64 (nmC f.tgs s : Nat)) V) := fun V hV => (hm.mp.keep (hV.block _ hm.mp.lt)).look (by omega)
  clear c5 f1 hin hxy hcell htk hk hk13 hk7 h7 hnk hn7 hs hd
  by_cases h0 : s.size = 0
  · rw [decide_eq_true h0] at hsl
    have HA := hide (HAQ.out 8 · (apC_t8 HK.out HIN.out (.inl (by rw [HS.out]; exact h0))) (by decide))
    clear h0 hm HAQ
    go_enter Tryz.func26, Tryz.ntmps26
    go_wp2_with (go_at_call 57; refine (HFT.out _ HB1.out).mono ?_; rintro e w4 ⟨rfl, hb4⟩; have HB4 : Hid (Below w.heap.size w w4) := HB1.out.trans (hb4.mono HB1.out.size); have k4 := cell_kept f4 HB4.out; have k2 := cell_kept f2 HB4.out; have k3 := cell_kept f3 HB4.out; have lk := HLK.out _ HB4.out; have HBK4 := hide (HBK.out.below hb4); have z0 := HBK4.out.cell 0; have z1 := HBK4.out.cell 1; have z2 := HBK4.out.cell 2; simp only [List.getElem?_toArray, List.getElem?_cons_succ, List.getElem?_cons_zero] at z0 z1 z2; clear hb4)
    go_ret
    exact HA.out _ HB4.out
  rw [decide_eq_false h0] at hsl
  obtain ⟨nc, hnc⟩ : ∃ n, nmC f.tgs s = n := ⟨_, rfl⟩
  rw [hnc] at HLK
  by_cases h1 : 0 < nc
  · have hgt : (0 : Int) < (nc : Int) := by omega
    have HA := hide (HAQ.out 8 · (apC_t8 HK.out HIN.out (.inr (HTK.out.2 (.inl (by rw [HS.out, hnc]; exact h1))))) (by decide))
    clear h0 hm HAQ h1 hnc
    go_enter Tryz.func26, Tryz.ntmps26
    go_wp2_with (go_at_call 57; refine (HFT.out _ HB1.out).mono ?_; rintro e w4 ⟨rfl, hb4⟩; have HB4 : Hid (Below w.heap.size w w4) := HB1.out.trans (hb4.mono HB1.out.size); have k4 := cell_kept f4 HB4.out; have k2 := cell_kept f2 HB4.out; have k3 := cell_kept f3 HB4.out; have lk := HLK.out _ HB4.out; have HBK4 := hide (HBK.out.below hb4); have z0 := HBK4.out.cell 0; have z1 := HBK4.out.cell 1; have z2 := HBK4.out.cell 2; simp only [List.getElem?_toArray, List.getElem?_cons_succ, List.getElem?_cons_zero] at z0 z1 z2; clear hb4)
    go_ret
    exact HA.out _ HB4.out
  obtain rfl : nc = 0 := by omega
  have HNT : Hid (¬ (d.name.size = 0 ∨ tkn2 f.tgs (tgOf f d)) ↔ tkB f.tgs c = false) := by
    show _ ↔ _
    rw [HTK.out, HS.out, hnc]
    constructor
    · intro h
      cases hb : tkB f.tgs c with
      | false => rfl
      | true => exact absurd (.inr (.inr hb)) h
    · rintro hb (h | h | h)
      · exact h0 h
      · omega
      · rw [hb] at h; cases h
  have HCA := hide (fun V (hV : Below w.heap.size w V) => cellAt_any F f.w d.x1 d.y1 V (cell_kept f0 hV) HW4.out vx vy)
  rw [hc] at HCA
  have HG3 : Hid (∀ V, Below w.heap.size w V → V.cell? ⟨cb, c * 4 + 3, none⟩ = some (.bool (tkB f.tgs c))) := fun V hV => cell_kept (hm.ce.cell (i := 3) hcn (by decide)) hV
  obtain ⟨nn, hnn⟩ : ∃ n, f.w * f.h = n := ⟨_, rfl⟩
  have HNN := hide hnn
  rw [hnn] at f2
  have hci : (c : Int) < (nn : Int) := by omega
  obtain ⟨at3, ct3, hvt⟩ := hm.tg.slice
  rw [hvt] at f3
  have HVT := hide hvt
  have hnl : ns.length ≤ 30 := by rw [hns]; exact hf.tl
  by_cases h2 : tkB f.tgs c = true
  · have HA := hide (HAQ.out 8 · (apC_t8 HK.out HIN.out (.inr (HTK.out.2 (.inr h2)))) (by decide))
    rw [h2] at HG3
    clear h0 hm HAQ h1 hnc h2 f0 hc hns vx vy hvt
    go_enter Tryz.func26, Tryz.ntmps26
    go_wp2_with (first | (go_at_call 57; refine (HFT.out _ HB1.out).mono ?_; rintro e w4 ⟨rfl, hb4⟩; have HB4 : Hid (Below w.heap.size w w4) := HB1.out.trans (hb4.mono HB1.out.size); have k4 := cell_kept f4 HB4.out; have k2 := cell_kept f2 HB4.out; have k3 := cell_kept f3 HB4.out; have lk := HLK.out _ HB4.out; have HBK4 := hide (HBK.out.below hb4); have z0 := HBK4.out.cell 0; have z1 := HBK4.out.cell 1; have z2 := HBK4.out.cell 2; simp only [List.getElem?_toArray, List.getElem?_cons_succ, List.getElem?_cons_zero] at z0 z1 z2; clear hb4) | (go_at_call 28; refine (HCA.out _ HB4.out).mono ?_; rintro e w5 ⟨rfl, rfl⟩; have g3 := HG3.out _ HB4.out))
    go_ret
    exact HA.out _ HB4.out
  have h2 : tkB f.tgs c = false := by cases hb : tkB f.tgs c with
    | false => rfl
    | true => exact absurd hb h2
  rw [h2] at HG3
  by_cases h3 : ns.length = 30
  · have HA := hide (HAQ.out 7 · (apC_t7 HK.out HIN.out (HNT.out.2 h2) (by omega)) (by decide))
    rw [h3] at f3
    clear h0 hm HAQ h1 hnc h2 f0 hc hns vx vy hvt h3 hnl
    go_enter Tryz.func26, Tryz.ntmps26
    go_wp2_with (first | (go_at_call 57; refine (HFT.out _ HB1.out).mono ?_; rintro e w4 ⟨rfl, hb4⟩; have HB4 : Hid (Below w.heap.size w w4) := HB1.out.trans (hb4.mono HB1.out.size); have k4 := cell_kept f4 HB4.out; have k2 := cell_kept f2 HB4.out; have k3 := cell_kept f3 HB4.out; have lk := HLK.out _ HB4.out; have HBK4 := hide (HBK.out.below hb4); have z0 := HBK4.out.cell 0; have z1 := HBK4.out.cell 1; have z2 := HBK4.out.cell 2; simp only [List.getElem?_toArray, List.getElem?_cons_succ, List.getElem?_cons_zero] at z0 z1 z2; clear hb4) | (go_at_call 28; refine (HCA.out _ HB4.out).mono ?_; rintro e w5 ⟨rfl, rfl⟩; have g3 := HG3.out _ HB4.out))
    go_ret
    exact HA.out _ HB4.out
  have h3l : ns.length < 30 := by omega
  have h30 : (((ns.length : Nat) : Int) == 30) = false := by rw [beq_eq_false_iff_ne]; omega
  have HAP : Hid (apC f d = 0) := apC_t0 HK.out HIN.out (HNT.out.2 h2) (by omega)
  have HAF : Hid (apF f d i = { f with tgs := f.tgs ++ [tgOf f d], frs := f.frs ++ [i] }) := by show _ = _; unfold apF; rw [if_pos (by rcases HK.out with q | q <;> rw [q] <;> rfl)]
  have HPUT : Hid (∀ V, Below w.heap.size w V → ∃ W', (Instr.mapUpdate 55 (.map (some M)) (.string s) (.int .i64 1)).run Tryz.prog V = .ok () W' ∧ MapN W' M (mn + 1) (fun x => nmC f.tgs x + (if s = x then 1 else 0)) ∧ V.grownBy W' (some M)) := fun V hV => by
    have hmn := hm.ml
    obtain ⟨W', p1, p2, p3, _⟩ := (hm.mp.keep (hV.block _ hm.mp.lt)).put (s := s) (by omega) (by omega) (by rw [hnc]; omega)
    rw [hnc] at p1
    exact ⟨W', p1, p2, p3⟩
  have HCN := hide hcn
  have HTN : Hid ((tgOf f d).name = s) := HS.out
  have HTK2 : Hid ((tgOf f d).kind = if d.kind = 15 then 1 else 0) := rfl
  obtain ⟨T, hT⟩ : ∃ T, tgOf f d = T := ⟨_, rfl⟩
  rw [hT] at HTN HTK2 HCE HAF
  clear h0 hm HAQ h1 hnc h2 f0 hc hns vx vy h3 hT HNT HTK hnn hcn hvt hf
  go_enter Tryz.func26, Tryz.ntmps26
  go_wp2_with (first | (go_at_call 57; refine (HFT.out _ HB1.out).mono ?_; rintro e w4 ⟨rfl, hb4⟩; have HB4 : Hid (Below w.heap.size w w4) := HB1.out.trans (hb4.mono HB1.out.size); have k4 := cell_kept f4 HB4.out; have k2 := cell_kept f2 HB4.out; have k3 := cell_kept f3 HB4.out; have lk := HLK.out _ HB4.out; have HBK4 := hide (HBK.out.below hb4); have z0 := HBK4.out.cell 0; have z1 := HBK4.out.cell 1; have z2 := HBK4.out.cell 2; simp only [List.getElem?_toArray, List.getElem?_cons_succ, List.getElem?_cons_zero] at z0 z1 z2; clear hb4) | (go_at_call 28; refine (HCA.out _ HB4.out).mono ?_; rintro e w5 ⟨rfl, rfl⟩; have g3 := HG3.out _ HB4.out; have hj4 := (HM0.out.below HB4.out).toJ; obtain ⟨W5, hp5, hmp5, hg5⟩ := HPUT.out _ HB4.out; have HMO := hide hj4.mp.obj; have hj5 := hj4.map hmp5 hg5; have y2 := hj5.blk.cell 2; have y4 := hj5.blk.cell 4; simp only [List.getElem?_toArray, List.getElem?_cons_succ, List.getElem?_cons_zero] at y2 y4; rw [HNN.out] at y2; have g5 := hj5.ce.cell (i := 3) HCN.out (by decide); have u3 := hj5.ce.frozen (c * 4 + 3); simp only [grv] at g5; have HJ5 := hide hj5; have HMP5 := hide hmp5; have HG5 := hide hg5; clear hj4 hj5 hmp5 hg5))
  clear lk hp5 y2 y4 u3 g5 z0 z1 z2 k2 k3 k4 g3 hc5 f2 f3 f4 h30
  obtain ⟨W6, hW6⟩ : ∃ W, W5.setCell ⟨cb, c * 4 + 3, none⟩ (.bool true) = W := ⟨_, rfl⟩
  have HW6 := hide hW6
  have J6 := HJ5.out.gr HCN.out (show 3 < 4 by decide) (.bool true)
  obtain ⟨cs6, hcs6, _⟩ := HJ5.out.ce
  have HD6 : Hid (Blk W6 w.heap.size 42 #[.int .i64 d.kind, .int .i64 d.x1, .int .i64 d.y1, .int .i64 d.x2, .int .i64 d.y2, .int .i64 d.dir, .int .i64 d.cost, .slice a7 n7 c7, .int .i64 d.node]) := by
    rw [← hW6]
    exact set_typed hcs6 (map_typed HBK4.out HMO.out HG5.out) (by decide)
  have hz6 : W6.heap.size = W5.heap.size := by rw [← hW6, World.size_setCell]
  have HZ6 := hide hz6
  rw [hW6] at J6 ⊢
  clear hW6 hcs6 hz6
  have y3 := J6.blk.cell 3
  have y0 := HD6.out.cell 0
  simp only [List.getElem?_toArray, List.getElem?_cons_succ, List.getElem?_cons_zero] at y3 y0
  rw [HVT.out] at y3
  obtain ⟨W7, hW7⟩ : ∃ W, Lib.bytesWorld W6.drew 5 s = W := ⟨_, rfl⟩
  obtain ⟨gc, hgc⟩ : ∃ x, grownCap W6.drew s.size 0 5 = x := ⟨_, rfl⟩
  have hcv : (convert 9 38 (.string s)).run Tryz.prog W6.drew = .ok (.slice (some ⟨W6.heap.size, 0, none⟩) s.size gc) W7 := by
    rw [← hW7, ← hgc]
    exact Lib.run_convert_string_bytes (P := Tryz.prog) W6.drew 9 38 5 s Tryz.underlying9 Tryz.underlying38 Tryz.underlying5
  have HB7 : Hid (Below W6.heap.size W6 W7) := by
    rw [← hW7]
    exact (Below.refl _ W6).drew.trans (bytes_below W6.drew s)
  have HW7 := hide hW7
  have y37 := cell_kept y3 HB7.out
  have y07 := cell_kept y0 HB7.out
  have HJ7 := hide (J6.below HB7.out)
  clear hW7 hgc J6
  rcases HK.out with hk | hk
  · have hkT : T.kind = 0 := by rw [HTK2.out, hk]; rfl
    rw [hk] at y0 y07
    have hA8 := (Below.refl _ W7).alloc (Nat.le_refl _) (.cells #[.slice (some ⟨W6.heap.size, 0, none⟩) s.size gc, .int .i64 0, .int .i64 c] 50)
    have HJ8 := hide (HJ7.out.below hA8)
    have y38 := cell_kept y37 hA8
    have y08 := cell_kept y07 hA8
    have HN8 : Hid (∀ i, i < 3 → (W7.alloc (.cells #[.slice (some ⟨W6.heap.size, 0, none⟩) s.size gc, .int .i64 0, .int .i64 c] 50)).cell? ⟨W7.heap.size, i, none⟩ = (tgc T (.slice (some ⟨W6.heap.size, 0, none⟩) s.size gc))[i]?) := fun i hi => by
      rw [(Blk.new W7 50 _).cell i]
      match i, hi with
      | 0, _ => rfl
      | 1, _ => show _ = some (Value.int .i64 T.kind); rw [hkT]; rfl
      | 2, _ => show _ = some (Value.int .i64 T.cell); rw [HCE.out]; rfl
    have HL3 : Hid (ns.length < 30) := h3l
    clear hkT hk hA8 h3l hnl HK HTK2
    have y38w : (W7.alloc (.cells #[.slice (some ⟨W6.heap.size, 0, none⟩) s.size gc, .int .i64 (IntKind.i64.wrap 0), .int .i64 c] 50)).cell? ⟨F, 3, none⟩ = some (.slice at3 ns.length ct3) := y38
    go_region_law (refine step_appTg rfl (.tmp 65) (.tmp 73) rfl (F + 1) (.slice at3 ns.length ct3) ns rfl (by have h := HJ8.out.tg; rw [HVT.out] at h; exact h) W7.heap.size 1 (T, .slice (some ⟨W6.heap.size, 0, none⟩) s.size gc) rfl HN8.out rfl (by have := HL3.out; omega) HJ8.out.blk.lt ?_; intro v9 w9 ho9 hg9 _; rw [← HVT.out] at hg9; obtain ⟨a9, c9, hv9⟩ := ho9.slice; rw [List.length_append] at hv9; replace hv9 : v9 = .slice a9 (ns.length + 1) c9 := hv9; subst hv9; have hbk9 := app_typed HJ8.out.blk (by decide) HJ8.out.tg hg9; have k9 := hbk9.cell 3; have k9f := hbk9.frozen 3; simp only [List.getElem?_toArray, List.getElem?_cons_succ, List.getElem?_cons_zero] at k9; have HO9 := hide ho9; have HG9 := hide hg9; clear hbk9 ho9 hg9)
    all_goals
      go_wp2
      go_ret
      exact tgt_fin HM0.out hM HB4.out HMP5.out HG5.out HCN.out HTN.out HCE.out (by rw [← HZ6.out]; exact HO9.out) (by rw [HW6.out, HW7.out]; exact HG9.out) HAP.out HAF.out
  · have hkT : T.kind = 1 := by rw [HTK2.out, hk]; rfl
    rw [hk] at y0 y07
    have hA8 := (Below.refl _ W7).alloc (Nat.le_refl _) (.cells #[.slice (some ⟨W6.heap.size, 0, none⟩) s.size gc, .int .i64 1, .int .i64 c] 50)
    have HJ8 := hide (HJ7.out.below hA8)
    have y38 := cell_kept y37 hA8
    have y08 := cell_kept y07 hA8
    have HN8 : Hid (∀ i, i < 3 → (W7.alloc (.cells #[.slice (some ⟨W6.heap.size, 0, none⟩) s.size gc, .int .i64 1, .int .i64 c] 50)).cell? ⟨W7.heap.size, i, none⟩ = (tgc T (.slice (some ⟨W6.heap.size, 0, none⟩) s.size gc))[i]?) := fun i hi => by
      rw [(Blk.new W7 50 _).cell i]
      match i, hi with
      | 0, _ => rfl
      | 1, _ => show _ = some (Value.int .i64 T.kind); rw [hkT]; rfl
      | 2, _ => show _ = some (Value.int .i64 T.cell); rw [HCE.out]; rfl
    have HL3 : Hid (ns.length < 30) := h3l
    clear hkT hk hA8 h3l hnl HK HTK2
    have y38w : (W7.alloc (.cells #[.slice (some ⟨W6.heap.size, 0, none⟩) s.size gc, .int .i64 (IntKind.i64.wrap 1), .int .i64 c] 50)).cell? ⟨F, 3, none⟩ = some (.slice at3 ns.length ct3) := y38
    go_region_law (refine step_appTg rfl (.tmp 65) (.tmp 73) rfl (F + 1) (.slice at3 ns.length ct3) ns rfl (by have h := HJ8.out.tg; rw [HVT.out] at h; exact h) W7.heap.size 1 (T, .slice (some ⟨W6.heap.size, 0, none⟩) s.size gc) rfl HN8.out rfl (by have := HL3.out; omega) HJ8.out.blk.lt ?_; intro v9 w9 ho9 hg9 _; rw [← HVT.out] at hg9; obtain ⟨a9, c9, hv9⟩ := ho9.slice; rw [List.length_append] at hv9; replace hv9 : v9 = .slice a9 (ns.length + 1) c9 := hv9; subst hv9; have hbk9 := app_typed HJ8.out.blk (by decide) HJ8.out.tg hg9; have k9 := hbk9.cell 3; have k9f := hbk9.frozen 3; simp only [List.getElem?_toArray, List.getElem?_cons_succ, List.getElem?_cons_zero] at k9; have HO9 := hide ho9; have HG9 := hide hg9; clear hbk9 ho9 hg9)
    all_goals
      go_wp2
      go_ret
      exact tgt_fin HM0.out hM HB4.out HMP5.out HG5.out HCN.out HTN.out HCE.out (by rw [← HZ6.out]; exact HO9.out) (by rw [HW6.out, HW7.out]; exact HG9.out) HAP.out HAF.out
end Go.Proofs.YtijdlbanfdhfnaaGreatDoor

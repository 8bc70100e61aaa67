/-
  spec.l9inner: a writer of its own, with the names that are seen.
-/
import Derived.Test.YthoinjddamlapaaGreatDoorJToGN0
import Derived.Test.YthoinjddamlapaaGreatDoorJToGA7
import Derived.BigRegion
import Derived.Deep.RegionLaw
namespace Go.Proofs.YthoinjddamlapaaGreatDoor
open Go.RowKit

theorem Tryz.info9z : (Tryz.prog.info? 9).map (fun i => (i.zero, i.size, i.bytes)) = some (some (.string ⟨#[]⟩), 1, 16) := by kernel_rfl
/-- Several values of one cell put onto a row, as a step of a region that draws. -/
theorem step_appMV {P : Program} {ops : Array Oper} {o : Oper} {a : Act} {w : World} {K : Act → World → Prop} {Q : Exit → Act → World → Prop} {E : Prop} (hgd : o.guard = none) (s x : Operand) (t e : TypeId)
    (ho : o.op = .call { callee := .builtin .append, args := #[s, x], argTypes := #[t, t] }) (z : Value) (bytes : Nat) (ht : P.underlying t = some (.slice e)) (hinfo : (P.info? e).map (fun i => (i.zero, i.size, i.bytes)) = some (some z, 1, bytes)) (hzc : z.cells.size = 1) (hby : bytes ≤ 1000)
    (B : Nat) (v : Value) (n : Nat) (xs : List Value) (hs : a.eval s = v) (hown : w.ownsRow B e 1 v n xs)
    (g m c : Nat) (us : List Value) (hm : us.length = m) (hx : a.eval x = .slice (some ⟨g, 0, none⟩) m c) (hnew : ∀ j u, us[j]? = some u → w.cell? ((⟨g, 0, none⟩ : Addr).add j) = some u) (hone : ∀ u ∈ us, u.oneCell' = true) (hlen : n + m ≤ 10000000) (hbase : B ≤ w.heap.size)
    (h : ∀ v' w', w'.ownsRow B e 1 v' (n + m) (xs ++ us) → w.grownBy w' v.ownBlock → (v'.ownBlock = v.ownBlock ∨ v'.ownBlock = some w.heap.size) → K (a.put o.dst v') w') :
    if Region.wanted o (yielded ops a.tmps) = true then Oper.wp P o a w K Q else E := by
  have hw : Region.wanted o (yielded ops a.tmps) = true := by simp [Region.wanted, hgd]
  rw [if_pos hw]
  obtain ⟨i0, hi, hz0, hz1, hz2⟩ := info_partsV hinfo
  have hb2 : (n + m) * bytes ≤ 140737488355328 := by
    have : (n + m) * bytes ≤ 10000000 * 1000 := Nat.mul_le_mul hlen hby
    omega
  obtain ⟨v', w', hr, h1, h2, _, h4⟩ := run_append_own_at (P := P) w B t o.type e i0 z 1 bytes ht hi hz0 hz1 hz2 hzc (by decide) v n xs hown ⟨g, 0, none⟩ m c us (by rw [hm, Nat.mul_one]) hnew hone (by unfold maxLen; omega) hb2 hbase
  unfold Oper.wp execOp
  simp only [ho, resolve, invoke, builtin, Sem.run_bind, Sem.run_pure, Result.andThen_ok, List.map_toArray, List.map_cons, List.map_nil, hs, hx, hr]
  exact h v' w' h1 h2 h4
/-- What l9inner leaves. -/
def InQ (c : GnC) (e : GE) (i : Nat) (vt : Value) (ints : List ByteArray) (f : Int) (w : World) (r : Ending) (w' : World) : Prop :=
  ∃ G' vi', r = .returned (.pointer (some ⟨G', 0, none⟩)) ∧ w.heap.size ≤ G' ∧ (∀ k, vi'.ownBlock = some k → w.heap.size ≤ k) ∧ GnAt w' { c with G := G' } e i vi' vt ints (f - 1) ∧ Below w.heap.size w w'
/-- A new writer. -/
theorem mem_i {L : List ByteArray} (h : ∀ x ∈ L, x.size ≤ 4) : ∀ x ∈ L ++ [(⟨#[105]⟩ : ByteArray)], x.size ≤ 4 := fun x hx => by
  rcases List.mem_append.1 hx with q | q
  · exact h x q
  · rw [List.mem_singleton.1 q]; decide
theorem gn_new {w W : World} {c : GnC} {e : GE} {i : Nat} {vi vt v' : Value} {ints ints' : List ByteArray} {f f' : Int} (h : GnAt w c e i vi vt ints f) (hb : Below w.heap.size w W) (hk : Blk W w.heap.size 57 #[.pointer (some ⟨c.R, 0, none⟩), .int .i64 (e.w : Nat), .int .i64 (e.h : Nat), v', vt, .int .i64 f'])
    (ho : W.ownsRow (w.heap.size + 1) 9 1 v' ints'.length (ist ints')) (hR : c.R < w.heap.size) (hn : ∀ x ∈ ints', x.size ≤ 4) (hl : ints'.length ≤ 10000) (hz : ints'.length = 0 → v' = .slice none 0 0) : GnAt W { c with G := w.heap.size } e i v' vt ints' f' := by
  have hlt := fun k hk => (ho.lt k hk).1
  refine ⟨h.rd.gw (P := fun _ => False) (Gw.of_below hb) (fun g => g) (fun _ g => g), hk, ⟨ho.1, ?_⟩, fun q => by have := hlt _ q; simp only at this; omega, ?_, hR, h.bb, h.n6, h.wb, h.hb, hn, h.ts, hl, h.tl, hz⟩
  · rcases ho.2 with q | ⟨g, cap, cur, q1, q2, q3⟩
    · exact .inl q
    · exact .inr ⟨g, cap, cur, q1, by simp only; omega, q3⟩
  · refine h.tx.gw (P := fun _ => False) (Gw.of_below hb) (fun _ g => g.elim) (fun k hk q => ?_)
    rcases q with q | q | q
    · exact .inl q
    · simp only at q; omega
    · have := hlt k q; omega
set_option maxHeartbeats 4000000 in
set_option maxRecDepth 1000000 in
theorem inner_gn (c : GnC) (e : GE) (i : Nat) (vi vt : Value) (ints : List ByteArray) (f : Int) (w : World) (h : GnAt w c e i vi vt ints f) (hf : -1000 ≤ f ∧ f ≤ 1000) (hi0 : 0 < ints.length) (hi1 : ints.length ≤ 9999) :
    Calls Tryz.prog 56 #[.pointer (some ⟨c.G, 0, none⟩), .string ⟨#[]⟩] w (InQ c e i vt ints f w) := by
  obtain ⟨g0, g1, g2, g3, g4, g5⟩ := gc0 h
  obtain ⟨at4, bt4, ot4, ct4, hvt, _, _⟩ := h.tx
  obtain ⟨ai, gi, ki, hvi, hai, hci⟩ := h.ivw
  obtain rfl := hai hi0
  subst hvt hvi
  have HCI := hide hci
  have HG := hide h
  have hfw : IntKind.i64.wrap (f - 1) = f - 1 := by rw [IntKind.wrap_i64]; omega
  have HRl : Hid (c.R < w.heap.size) := h.rd.lt
  have hwb := h.wb
  have hhb := h.hb
  clear h hai hci
  go_enter Tryz.func56, Tryz.ntmps56
  go_wp2_with fail
  go_region
  clear g0 g1 g2 g3 g4 g5 hfw
  obtain ⟨W1, hW1⟩ : ∃ W, (w.alloc (.cells #[.pointer (some ⟨c.R, 0, none⟩), .int .i64 (e.w : Nat), .int .i64 (e.h : Nat), .slice none 0 0, .slice at4 e.texts.length ct4, .int .i64 (f - 1)] 57)).drew = W := ⟨_, rfl⟩
  have HB1 : Hid (Below w.heap.size w W1) := by rw [← hW1]; exact ((Below.refl _ _).alloc (Nat.le_refl _) _).drew
  have HZ1 : Hid (W1.heap.size = w.heap.size + 1) := by show _ = _; rw [← hW1]; simp
  have HK1 : Hid (Blk W1 w.heap.size 57 #[.pointer (some ⟨c.R, 0, none⟩), .int .i64 (e.w : Nat), .int .i64 (e.h : Nat), .slice none 0 0, .slice at4 e.texts.length ct4, .int .i64 (f - 1)]) := by rw [← hW1]; exact Blk.new _ _ _
  have HG1 := hide (HG.out.below HB1.out)
  rw [hW1]
  clear hW1
  have y3 := (gc0 HG1.out).2.2.2.1
  have x3 := HK1.out.cell 3
  have x3f := HK1.out.frozen 3
  simp only [List.getElem?_toArray, List.getElem?_cons_succ, List.getElem?_cons_zero] at x3
  have HNW : Hid (∀ j u, (ist ints)[j]? = some u → W1.cell? ((⟨gi, 0, none⟩ : Addr).add j) = some u) := fun j u hj => by
    have hjl : j < ints.length := by
      rcases Nat.lt_or_ge j ints.length with h | h
      · exact h
      · rw [List.getElem?_eq_none (by rw [ist_length]; exact h)] at hj; cases hj
    have e1 : (⟨gi, 0, none⟩ : Addr).add j = ⟨gi, j, none⟩ := by unfold Addr.add; split <;> simp_all
    rw [e1, cell_kept (HCI.out j hjl) HB1.out]
    rw [← hj]
    simp [ist, List.getD, hjl]
  have HON : Hid (∀ u ∈ ist ints, u.oneCell' = true) := fun u hu => by obtain ⟨x, _, rfl⟩ := List.mem_map.1 hu; rfl
  go_wp2_with fail
  go_region_law (refine step_appMV rfl (.tmp 33) (.tmp 37) 51 9 rfl (.string ⟨#[]⟩) 16 Tryz.underlying51 Tryz.info9z rfl (by decide) (w.heap.size + 1) (.slice none 0 0) 0 [] rfl (World.ownsRow_nil _ _ _ _) gi ints.length ki (ist ints) (ist_length ints) rfl HNW.out HON.out (by omega) (by have := HZ1.out; show w.heap.size + 1 ≤ W1.heap.size; omega) ?_; intro v2 w2 ho2 hg2 _; rw [Nat.zero_add, List.nil_append] at ho2; obtain ⟨a2, c2, rfl⟩ := own_slcV ho2; have hbk2 : Blk w2 w.heap.size 57 #[.pointer (some ⟨c.R, 0, none⟩), .int .i64 (e.w : Nat), .int .i64 (e.h : Nat), .slice none 0 0, .slice at4 e.texts.length ct4, .int .i64 (f - 1)] := (hg2.block _ HK1.out.lt (by simp [Value.ownBlock])).trans HK1.out; have z3 := hbk2.cell 3; have z3f := hbk2.frozen 3; simp only [List.getElem?_toArray, List.getElem?_cons_succ, List.getElem?_cons_zero] at z3; have HK2 := hide hbk2; have HO2 := hide ho2; have HB2 : Hid (Below w.heap.size w w2) := HB1.out.trans ⟨hg2.os, hg2.tape, hg2.output, hg2.size, fun k hk => hg2.block k (by show k < W1.heap.size; have := HZ1.out; omega) (by simp [Value.ownBlock])⟩; have HZ2 : Hid (w.heap.size + 1 ≤ w2.heap.size) := (by have h1 := HZ1.out; have h2 : W1.heap.size ≤ w2.heap.size := hg2.size; show _ ≤ _; omega); clear ho2 hg2 hbk2)
  all_goals
    have HK3 : Hid (Blk (w2.setCell ⟨w.heap.size, 3, none⟩ (.slice a2 ints.length c2)) w.heap.size 57 #[.pointer (some ⟨c.R, 0, none⟩), .int .i64 (e.w : Nat), .int .i64 (e.h : Nat), .slice a2 ints.length c2, .slice at4 e.texts.length ct4, .int .i64 (f - 1)]) := HK2.out.set 3 _
    have HB3 : Hid (Below w.heap.size w (w2.setCell ⟨w.heap.size, 3, none⟩ (.slice a2 ints.length c2))) := HB2.out.setCell (p := ⟨w.heap.size, 3, none⟩) (Nat.le_refl _) _
    have HO3 : Hid ((w2.setCell ⟨w.heap.size, 3, none⟩ (.slice a2 ints.length c2)).ownsRow (w.heap.size + 1) 9 1 (.slice a2 ints.length c2) ints.length (ist ints)) := (Gw.set w2 w.heap.size 3 (.slice a2 ints.length c2)).own HO2.out (fun k hk => by have := (HO2.out.lt k hk).1; omega)
    go_wp2
    go_ret
    refine ⟨w.heap.size, _, rfl, Nat.le_refl _, fun k hk => by have := (HO2.out.lt k hk).1; omega, ?_, ?_⟩
    · first
        | exact gn_new HG.out HB3.out HK3.out HO3.out HRl.out HG.out.ns HG.out.il (fun q => by omega)
        | exact gn_new HG.out HB3.out.drew HK3.out HO3.out HRl.out HG.out.ns HG.out.il (fun q => by omega)
    · first | exact HB3.out | exact HB3.out.drew
set_option maxHeartbeats 4000000 in
set_option maxRecDepth 1000000 in
theorem inner_gn0 (c : GnC) (e : GE) (i : Nat) (vi vt : Value) (ints : List ByteArray) (f : Int) (w : World) (h : GnAt w c e i vi vt ints f) (hf : -1000 ≤ f ∧ f ≤ 1000) (hi0 : ints.length = 0) (hi1 : ints.length ≤ 9999) :
    Calls Tryz.prog 56 #[.pointer (some ⟨c.G, 0, none⟩), .string ⟨#[]⟩] w (InQ c e i vt ints f w) := by
  obtain ⟨g0, g1, g2, g3, g4, g5⟩ := gc0 h
  obtain ⟨at4, bt4, ot4, ct4, hvt, _, _⟩ := h.tx
  obtain rfl : ints = [] := List.length_eq_zero_iff.1 hi0
  have hvi := h.iz rfl
  subst hvt hvi
  have HG := hide h
  have hfw : IntKind.i64.wrap (f - 1) = f - 1 := by rw [IntKind.wrap_i64]; omega
  have HRl : Hid (c.R < w.heap.size) := h.rd.lt
  have hwb := h.wb
  have hhb := h.hb
  clear h
  go_enter Tryz.func56, Tryz.ntmps56
  go_wp2_with fail
  go_region
  clear g0 g1 g2 g3 g4 g5 hfw
  obtain ⟨W1, hW1⟩ : ∃ W, (w.alloc (.cells #[.pointer (some ⟨c.R, 0, none⟩), .int .i64 (e.w : Nat), .int .i64 (e.h : Nat), .slice none 0 0, .slice at4 e.texts.length ct4, .int .i64 (f - 1)] 57)).drew = W := ⟨_, rfl⟩
  have HB1 : Hid (Below w.heap.size w W1) := by rw [← hW1]; exact ((Below.refl _ _).alloc (Nat.le_refl _) _).drew
  have HZ1 : Hid (W1.heap.size = w.heap.size + 1) := by show _ = _; rw [← hW1]; simp
  have HK1 : Hid (Blk W1 w.heap.size 57 #[.pointer (some ⟨c.R, 0, none⟩), .int .i64 (e.w : Nat), .int .i64 (e.h : Nat), .slice none 0 0, .slice at4 e.texts.length ct4, .int .i64 (f - 1)]) := by rw [← hW1]; exact Blk.new _ _ _
  have HG1 := hide (HG.out.below HB1.out)
  rw [hW1]
  clear hW1
  have y3 := (gc0 HG1.out).2.2.2.1
  have x3 := HK1.out.cell 3
  have x3f := HK1.out.frozen 3
  simp only [List.getElem?_toArray, List.getElem?_cons_succ, List.getElem?_cons_zero] at x3
  go_wp2_with fail
  go_region
  have HK2 := hide HK1.out
  have HB2 := hide HB1.out
  have HO2 : Hid (W1.ownsRow (w.heap.size + 1) 9 1 (.slice none 0 0) 0 []) := World.ownsRow_nil _ _ _ _
  have HZ2 : Hid (w.heap.size + 1 ≤ W1.heap.size) := by have := HZ1.out; show _ ≤ _; omega
  have HK3 : Hid (Blk (W1.setCell ⟨w.heap.size, 3, none⟩ (.slice none 0 0)) w.heap.size 57 #[.pointer (some ⟨c.R, 0, none⟩), .int .i64 (e.w : Nat), .int .i64 (e.h : Nat), .slice none 0 0, .slice at4 e.texts.length ct4, .int .i64 (f - 1)]) := HK2.out.set 3 _
  have HB3 : Hid (Below w.heap.size w (W1.setCell ⟨w.heap.size, 3, none⟩ (.slice none 0 0))) := HB2.out.setCell (p := ⟨w.heap.size, 3, none⟩) (Nat.le_refl _) _
  have HO3 : Hid ((W1.setCell ⟨w.heap.size, 3, none⟩ (.slice none 0 0)).ownsRow (w.heap.size + 1) 9 1 (.slice none 0 0) 0 (ist ([] : List ByteArray))) := (Gw.set W1 w.heap.size 3 (.slice none 0 0)).own HO2.out (fun k hk => by have := (HO2.out.lt k hk).1; omega)
  go_wp2
  go_ret
  refine ⟨w.heap.size, _, rfl, Nat.le_refl _, fun k hk => by have := (HO2.out.lt k hk).1; omega, ?_, ?_⟩
  · first
      | exact gn_new HG.out HB3.out HK3.out HO3.out HRl.out HG.out.ns HG.out.il (fun q => rfl)
      | exact gn_new HG.out HB3.out.drew HK3.out HO3.out HRl.out HG.out.ns HG.out.il (fun q => rfl)
  · first | exact HB3.out | exact HB3.out.drew
set_option maxHeartbeats 4000000 in
set_option maxRecDepth 1000000 in
theorem inner_gni (c : GnC) (e : GE) (i : Nat) (vi vt : Value) (ints : List ByteArray) (f : Int) (w : World) (h : GnAt w c e i vi vt ints f) (hf : -1000 ≤ f ∧ f ≤ 1000) (hi0 : 0 < ints.length) (hi1 : ints.length ≤ 9999) :
    Calls Tryz.prog 56 #[.pointer (some ⟨c.G, 0, none⟩), .string ⟨#[105]⟩] w (InQ c e i vt (ints ++ [⟨#[105]⟩]) f w) := by
  obtain ⟨g0, g1, g2, g3, g4, g5⟩ := gc0 h
  obtain ⟨at4, bt4, ot4, ct4, hvt, _, _⟩ := h.tx
  obtain ⟨ai, gi, ki, hvi, hai, hci⟩ := h.ivw
  obtain rfl := hai hi0
  subst hvt hvi
  have HCI := hide hci
  have HG := hide h
  have hfw : IntKind.i64.wrap (f - 1) = f - 1 := by rw [IntKind.wrap_i64]; omega
  have HRl : Hid (c.R < w.heap.size) := h.rd.lt
  have hwb := h.wb
  have hhb := h.hb
  clear h hai hci
  go_enter Tryz.func56, Tryz.ntmps56
  go_wp2_with fail
  go_region
  clear g0 g1 g2 g3 g4 g5 hfw
  obtain ⟨W1, hW1⟩ : ∃ W, (w.alloc (.cells #[.pointer (some ⟨c.R, 0, none⟩), .int .i64 (e.w : Nat), .int .i64 (e.h : Nat), .slice none 0 0, .slice at4 e.texts.length ct4, .int .i64 (f - 1)] 57)).drew = W := ⟨_, rfl⟩
  have HB1 : Hid (Below w.heap.size w W1) := by rw [← hW1]; exact ((Below.refl _ _).alloc (Nat.le_refl _) _).drew
  have HZ1 : Hid (W1.heap.size = w.heap.size + 1) := by show _ = _; rw [← hW1]; simp
  have HK1 : Hid (Blk W1 w.heap.size 57 #[.pointer (some ⟨c.R, 0, none⟩), .int .i64 (e.w : Nat), .int .i64 (e.h : Nat), .slice none 0 0, .slice at4 e.texts.length ct4, .int .i64 (f - 1)]) := by rw [← hW1]; exact Blk.new _ _ _
  have HG1 := hide (HG.out.below HB1.out)
  rw [hW1]
  clear hW1
  have y3 := (gc0 HG1.out).2.2.2.1
  have x3 := HK1.out.cell 3
  have x3f := HK1.out.frozen 3
  simp only [List.getElem?_toArray, List.getElem?_cons_succ, List.getElem?_cons_zero] at x3
  have HNW : Hid (∀ j u, (ist ints)[j]? = some u → W1.cell? ((⟨gi, 0, none⟩ : Addr).add j) = some u) := fun j u hj => by
    have hjl : j < ints.length := by
      rcases Nat.lt_or_ge j ints.length with h | h
      · exact h
      · rw [List.getElem?_eq_none (by rw [ist_length]; exact h)] at hj; cases hj
    have e1 : (⟨gi, 0, none⟩ : Addr).add j = ⟨gi, j, none⟩ := by unfold Addr.add; split <;> simp_all
    rw [e1, cell_kept (HCI.out j hjl) HB1.out]
    rw [← hj]
    simp [ist, List.getD, hjl]
  have HON : Hid (∀ u ∈ ist ints, u.oneCell' = true) := fun u hu => by obtain ⟨x, _, rfl⟩ := List.mem_map.1 hu; rfl
  go_wp2_with fail
  go_region_law (refine step_appMV rfl (.tmp 33) (.tmp 37) 51 9 rfl (.string ⟨#[]⟩) 16 Tryz.underlying51 Tryz.info9z rfl (by decide) (w.heap.size + 1) (.slice none 0 0) 0 [] rfl (World.ownsRow_nil _ _ _ _) gi ints.length ki (ist ints) (ist_length ints) rfl HNW.out HON.out (by omega) (by have := HZ1.out; show w.heap.size + 1 ≤ W1.heap.size; omega) ?_; intro v2 w2 ho2 hg2 _; rw [Nat.zero_add, List.nil_append] at ho2; obtain ⟨a2, c2, rfl⟩ := own_slcV ho2; have hbk2 : Blk w2 w.heap.size 57 #[.pointer (some ⟨c.R, 0, none⟩), .int .i64 (e.w : Nat), .int .i64 (e.h : Nat), .slice none 0 0, .slice at4 e.texts.length ct4, .int .i64 (f - 1)] := (hg2.block _ HK1.out.lt (by simp [Value.ownBlock])).trans HK1.out; have z3 := hbk2.cell 3; have z3f := hbk2.frozen 3; simp only [List.getElem?_toArray, List.getElem?_cons_succ, List.getElem?_cons_zero] at z3; have HK2 := hide hbk2; have HO2 := hide ho2; have HB2 : Hid (Below w.heap.size w w2) := HB1.out.trans ⟨hg2.os, hg2.tape, hg2.output, hg2.size, fun k hk => hg2.block k (by show k < W1.heap.size; have := HZ1.out; omega) (by simp [Value.ownBlock])⟩; have HZ2 : Hid (w.heap.size + 1 ≤ w2.heap.size) := (by have h1 := HZ1.out; have h2 : W1.heap.size ≤ w2.heap.size := hg2.size; show _ ≤ _; omega); clear ho2 hg2 hbk2)
  all_goals
    have HK3 : Hid (Blk (w2.setCell ⟨w.heap.size, 3, none⟩ (.slice a2 ints.length c2)) w.heap.size 57 #[.pointer (some ⟨c.R, 0, none⟩), .int .i64 (e.w : Nat), .int .i64 (e.h : Nat), .slice a2 ints.length c2, .slice at4 e.texts.length ct4, .int .i64 (f - 1)]) := HK2.out.set 3 _
    have HB3 : Hid (Below w.heap.size w (w2.setCell ⟨w.heap.size, 3, none⟩ (.slice a2 ints.length c2))) := HB2.out.setCell (p := ⟨w.heap.size, 3, none⟩) (Nat.le_refl _) _
    have HO3 : Hid ((w2.setCell ⟨w.heap.size, 3, none⟩ (.slice a2 ints.length c2)).ownsRow (w.heap.size + 1) 9 1 (.slice a2 ints.length c2) ints.length (ist ints)) := (Gw.set w2 w.heap.size 3 (.slice a2 ints.length c2)).own HO2.out (fun k hk => by have := (HO2.out.lt k hk).1; omega)
    obtain ⟨W4, hW4⟩ : ∃ W, (w2.setCell ⟨w.heap.size, 3, none⟩ (.slice a2 ints.length c2)) = W := ⟨_, rfl⟩
    have HK4 : Hid (Blk W4 w.heap.size 57 #[.pointer (some ⟨c.R, 0, none⟩), .int .i64 (e.w : Nat), .int .i64 (e.h : Nat), .slice a2 ints.length c2, .slice at4 e.texts.length ct4, .int .i64 (f - 1)]) := by rw [← hW4]; exact HK3.out
    have HB4 : Hid (Below w.heap.size w W4) := by rw [← hW4]; exact HB3.out
    have HO4 : Hid (W4.ownsRow (w.heap.size + 1) 9 1 (.slice a2 ints.length c2) ints.length (ist ints)) := by rw [← hW4]; exact HO3.out
    have HZ4 : Hid (w.heap.size + 1 ≤ W4.heap.size) := by rw [← hW4]; have := HZ2.out; show _ ≤ _; simpa using this
    rw [hW4]
    have k3 := HK4.out.cell 3
    have k3a := (HK4.out.alloc (.cells #[.string ⟨#[105]⟩] 9)).cell 3
    simp only [List.getElem?_toArray, List.getElem?_cons_succ, List.getElem?_cons_zero] at k3 k3a
    have hne : (({ data := #[105] } : ByteArray) != { data := #[] }) = true := by decide
    clear hW4 x3 x3f y3
    go_wp2_with (at_builtin; refine wp_app1V rfl _ _ 51 9 rfl (.string ⟨#[]⟩) 16 Tryz.underlying51 Tryz.info9z rfl (by decide) (w.heap.size + 1) _ ints.length (ist ints) rfl (HO4.out.alloc _) W4.heap.size 1 (.string ⟨#[105]⟩) rfl (by simp) rfl (by omega) (by have := HZ4.out; simp; omega) ?_; intro v5 w5 ho5 hg5 _; obtain ⟨a5, c5, rfl⟩ := own_slcV ho5; have hbk5 : Blk w5 w.heap.size 57 #[.pointer (some ⟨c.R, 0, none⟩), .int .i64 (e.w : Nat), .int .i64 (e.h : Nat), .slice a2 ints.length c2, .slice at4 e.texts.length ct4, .int .i64 (f - 1)] := (hg5.block _ (HK4.out.alloc _).lt (fun q => by have := (HO4.out.lt _ q.symm).1; omega)).trans (HK4.out.alloc _); have q3 := hbk5.cell 3; have q3f := hbk5.frozen 3; simp only [List.getElem?_toArray, List.getElem?_cons_succ, List.getElem?_cons_zero] at q3; have HK5 := hide hbk5; have HO5 := hide ho5; have HB5 : Hid (Below w.heap.size w w5) := (HB4.out.alloc (by have := HB4.out.size; omega) _).grown hg5 (by have := HB4.out.size; simp; omega) (fun k hk => by have := (HO4.out.lt _ hk).1; omega); clear ho5 hg5 hbk5)
    have HK6 : Hid (Blk (w5.setCell ⟨w.heap.size, 3, none⟩ (.slice a5 (ints.length + 1) c5)) w.heap.size 57 #[.pointer (some ⟨c.R, 0, none⟩), .int .i64 (e.w : Nat), .int .i64 (e.h : Nat), .slice a5 (ints.length + 1) c5, .slice at4 e.texts.length ct4, .int .i64 (f - 1)]) := HK5.out.set 3 _
    have HB6 : Hid (Below w.heap.size w (w5.setCell ⟨w.heap.size, 3, none⟩ (.slice a5 (ints.length + 1) c5))) := HB5.out.setCell (p := ⟨w.heap.size, 3, none⟩) (Nat.le_refl _) _
    have HO6 : Hid ((w5.setCell ⟨w.heap.size, 3, none⟩ (.slice a5 (ints.length + 1) c5)).ownsRow (w.heap.size + 1) 9 1 (.slice a5 (ints.length + 1) c5) (ints ++ [(⟨#[105]⟩ : ByteArray)]).length (ist (ints ++ [(⟨#[105]⟩ : ByteArray)]))) := by
      refine hide ?_
      have := (Gw.set w5 w.heap.size 3 (.slice a5 (ints.length + 1) c5)).own HO5.out (fun k hk => by have := (HO5.out.lt k hk).1; omega)
      simpa [ist] using this
    go_ret
    refine ⟨w.heap.size, _, rfl, Nat.le_refl _, fun k hk => by have := (HO6.out.lt k hk).1; omega, ?_, ?_⟩
    · exact gn_new HG.out HB6.out HK6.out HO6.out HRl.out (mem_i HG.out.ns) (by first | (simp; done) | (simp; omega)) (fun q => by simp at q)
    · exact HB6.out
set_option maxHeartbeats 4000000 in
set_option maxRecDepth 1000000 in
theorem inner_gni0 (c : GnC) (e : GE) (i : Nat) (vi vt : Value) (ints : List ByteArray) (f : Int) (w : World) (h : GnAt w c e i vi vt ints f) (hf : -1000 ≤ f ∧ f ≤ 1000) (hi0 : ints.length = 0) (hi1 : ints.length ≤ 9999) :
    Calls Tryz.prog 56 #[.pointer (some ⟨c.G, 0, none⟩), .string ⟨#[105]⟩] w (InQ c e i vt (ints ++ [⟨#[105]⟩]) f w) := by
  obtain ⟨g0, g1, g2, g3, g4, g5⟩ := gc0 h
  obtain ⟨at4, bt4, ot4, ct4, hvt, _, _⟩ := h.tx
  obtain rfl : ints = [] := List.length_eq_zero_iff.1 hi0
  have hvi := h.iz rfl
  subst hvt hvi
  have HG := hide h
  have hfw : IntKind.i64.wrap (f - 1) = f - 1 := by rw [IntKind.wrap_i64]; omega
  have HRl : Hid (c.R < w.heap.size) := h.rd.lt
  have hwb := h.wb
  have hhb := h.hb
  clear h
  go_enter Tryz.func56, Tryz.ntmps56
  go_wp2_with fail
  go_region
  clear g0 g1 g2 g3 g4 g5 hfw
  obtain ⟨W1, hW1⟩ : ∃ W, (w.alloc (.cells #[.pointer (some ⟨c.R, 0, none⟩), .int .i64 (e.w : Nat), .int .i64 (e.h : Nat), .slice none 0 0, .slice at4 e.texts.length ct4, .int .i64 (f - 1)] 57)).drew = W := ⟨_, rfl⟩
  have HB1 : Hid (Below w.heap.size w W1) := by rw [← hW1]; exact ((Below.refl _ _).alloc (Nat.le_refl _) _).drew
  have HZ1 : Hid (W1.heap.size = w.heap.size + 1) := by show _ = _; rw [← hW1]; simp
  have HK1 : Hid (Blk W1 w.heap.size 57 #[.pointer (some ⟨c.R, 0, none⟩), .int .i64 (e.w : Nat), .int .i64 (e.h : Nat), .slice none 0 0, .slice at4 e.texts.length ct4, .int .i64 (f - 1)]) := by rw [← hW1]; exact Blk.new _ _ _
  have HG1 := hide (HG.out.below HB1.out)
  rw [hW1]
  clear hW1
  have y3 := (gc0 HG1.out).2.2.2.1
  have x3 := HK1.out.cell 3
  have x3f := HK1.out.frozen 3
  simp only [List.getElem?_toArray, List.getElem?_cons_succ, List.getElem?_cons_zero] at x3
  go_wp2_with fail
  go_region
  have HK2 := hide HK1.out
  have HB2 := hide HB1.out
  have HO2 : Hid (W1.ownsRow (w.heap.size + 1) 9 1 (.slice none 0 0) 0 []) := World.ownsRow_nil _ _ _ _
  have HZ2 : Hid (w.heap.size + 1 ≤ W1.heap.size) := by have := HZ1.out; show _ ≤ _; omega
  have HK3 : Hid (Blk (W1.setCell ⟨w.heap.size, 3, none⟩ (.slice none 0 0)) w.heap.size 57 #[.pointer (some ⟨c.R, 0, none⟩), .int .i64 (e.w : Nat), .int .i64 (e.h : Nat), .slice none 0 0, .slice at4 e.texts.length ct4, .int .i64 (f - 1)]) := HK2.out.set 3 _
  have HB3 : Hid (Below w.heap.size w (W1.setCell ⟨w.heap.size, 3, none⟩ (.slice none 0 0))) := HB2.out.setCell (p := ⟨w.heap.size, 3, none⟩) (Nat.le_refl _) _
  have HO3 : Hid ((W1.setCell ⟨w.heap.size, 3, none⟩ (.slice none 0 0)).ownsRow (w.heap.size + 1) 9 1 (.slice none 0 0) 0 (ist ([] : List ByteArray))) := (Gw.set W1 w.heap.size 3 (.slice none 0 0)).own HO2.out (fun k hk => by have := (HO2.out.lt k hk).1; omega)
  obtain ⟨W4, hW4⟩ : ∃ W, (W1.setCell ⟨w.heap.size, 3, none⟩ (.slice none 0 0)).drew = W := ⟨_, rfl⟩
  have HK4 : Hid (Blk W4 w.heap.size 57 #[.pointer (some ⟨c.R, 0, none⟩), .int .i64 (e.w : Nat), .int .i64 (e.h : Nat), .slice none 0 0, .slice at4 e.texts.length ct4, .int .i64 (f - 1)]) := by rw [← hW4]; exact HK3.out
  have HB4 : Hid (Below w.heap.size w W4) := by rw [← hW4]; exact HB3.out.drew
  have HO4 : Hid (W4.ownsRow (w.heap.size + 1) 9 1 (.slice none 0 0) 0 (ist ([] : List ByteArray))) := by rw [← hW4]; exact HO3.out
  have HZ4 : Hid (w.heap.size + 1 ≤ W4.heap.size) := by rw [← hW4]; have := HZ2.out; show _ ≤ _; simpa using this
  rw [hW4]
  have k3 := HK4.out.cell 3
  have k3a := (HK4.out.alloc (.cells #[.string ⟨#[105]⟩] 9)).cell 3
  simp only [List.getElem?_toArray, List.getElem?_cons_succ, List.getElem?_cons_zero] at k3 k3a
  have hne : (({ data := #[105] } : ByteArray) != { data := #[] }) = true := by decide
  clear hW4 x3 x3f y3
  go_wp2_with (at_builtin; refine wp_app1V rfl _ _ 51 9 rfl (.string ⟨#[]⟩) 16 Tryz.underlying51 Tryz.info9z rfl (by decide) (w.heap.size + 1) _ 0 (ist ([] : List ByteArray)) rfl (HO4.out.alloc _) W4.heap.size 1 (.string ⟨#[105]⟩) rfl (by simp) rfl (by omega) (by have := HZ4.out; simp; omega) ?_; intro v5 w5 ho5 hg5 _; obtain ⟨a5, c5, rfl⟩ := own_slcV ho5; have hbk5 : Blk w5 w.heap.size 57 #[.pointer (some ⟨c.R, 0, none⟩), .int .i64 (e.w : Nat), .int .i64 (e.h : Nat), .slice none 0 0, .slice at4 e.texts.length ct4, .int .i64 (f - 1)] := (hg5.block _ (HK4.out.alloc _).lt (fun q => by have := (HO4.out.lt _ q.symm).1; omega)).trans (HK4.out.alloc _); have q3 := hbk5.cell 3; have q3f := hbk5.frozen 3; simp only [List.getElem?_toArray, List.getElem?_cons_succ, List.getElem?_cons_zero] at q3; have HK5 := hide hbk5; have HO5 := hide ho5; have HB5 : Hid (Below w.heap.size w w5) := (HB4.out.alloc (by have := HB4.out.size; omega) _).grown hg5 (by have := HB4.out.size; simp; omega) (fun k hk => by have := (HO4.out.lt _ hk).1; omega); clear ho5 hg5 hbk5)
  have HK6 : Hid (Blk (w5.setCell ⟨w.heap.size, 3, none⟩ (.slice a5 (0 + 1) c5)) w.heap.size 57 #[.pointer (some ⟨c.R, 0, none⟩), .int .i64 (e.w : Nat), .int .i64 (e.h : Nat), .slice a5 (0 + 1) c5, .slice at4 e.texts.length ct4, .int .i64 (f - 1)]) := HK5.out.set 3 _
  have HB6 : Hid (Below w.heap.size w (w5.setCell ⟨w.heap.size, 3, none⟩ (.slice a5 (0 + 1) c5))) := HB5.out.setCell (p := ⟨w.heap.size, 3, none⟩) (Nat.le_refl _) _
  have HO6 : Hid ((w5.setCell ⟨w.heap.size, 3, none⟩ (.slice a5 (0 + 1) c5)).ownsRow (w.heap.size + 1) 9 1 (.slice a5 (0 + 1) c5) (([] : List ByteArray) ++ [(⟨#[105]⟩ : ByteArray)]).length (ist (([] : List ByteArray) ++ [(⟨#[105]⟩ : ByteArray)]))) := by
    refine hide ?_
    have := (Gw.set w5 w.heap.size 3 (.slice a5 (0 + 1) c5)).own HO5.out (fun k hk => by have := (HO5.out.lt k hk).1; omega)
    simpa [ist] using this
  go_ret
  refine ⟨w.heap.size, _, rfl, Nat.le_refl _, fun k hk => by have := (HO6.out.lt k hk).1; omega, ?_, ?_⟩
  · exact gn_new HG.out HB6.out HK6.out HO6.out HRl.out (mem_i HG.out.ns) (by first | (simp; done) | (simp; omega)) (fun q => by simp at q)
  · exact HB6.out
end Go.Proofs.YthoinjddamlapaaGreatDoor

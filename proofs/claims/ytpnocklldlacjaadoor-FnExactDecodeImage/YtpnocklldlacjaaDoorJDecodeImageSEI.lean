/-
  The walk of spec.EncodeImage.
  Rows and boxes told apart by their types.
  A struct of five cells, written whole; as a result.
  Rows of Target of the call's own; appends onto them.
-/
import Derived.Test.YtpnocklldlacjaaDoorJDecodeImageSIM
import Derived.Test.YtpnocklldlacjaaDoorJDecodeImageMK
import Derived.Laws.Rows
import Derived.Test.YtpnocklldlacjaaDoorJDecodeImageTgS3
import Derived.Maps.AppendAt
namespace Go.Proofs.YtpnocklldlacjaaDoor
open Go.RowKit

set_option maxHeartbeats 4000000 in
set_option maxRecDepth 1000000 in
theorem specEncode_any (d : Tb) (v2 v3 v4 : Value) (w : World) (hb : TbB d) (h : TbV w d v2 v3 v4) :
    Calls Tryd.prog 14 #[tbagg d v2 v3 v4] w fun e w' => ∃ v, e = .returned v ∧ BS w' v (eiF d) ∧ Below w.heap.size w w' := by
  have HVT := hide (fun V (hV : Below w.heap.size w V) => specTables_any d v2 v3 v4 V hb (h.below hV))
  have HIM := hide (fun V (hV : Below w.heap.size w V) hok => l7image_any d v2 v3 v4 V hok (h.below hV))
  obtain ⟨a2, c2, rfl⟩ := h.targets.slice
  obtain ⟨a3, c3, rfl⟩ := h.dist.slice
  obtain ⟨a4, c4, rfl⟩ := h.hop.slice
  clear h hb
  unfold tbagg at HVT HIM ⊢
  obtain ⟨X, Y, T, Ds, Hs⟩ := d
  simp only at HVT HIM ⊢
  obtain ⟨W0, hW0⟩ : ∃ W, w.alloc (.cells #[.int .i64 X, .int .i64 Y, .slice a2 T.length c2, .slice a3 Ds.length c3, .slice a4 Hs.length c4] 30) = W := ⟨_, rfl⟩
  have hB0 : Below w.heap.size w W0 := by rw [← hW0]; exact (Below.refl _ _).alloc (Nat.le_refl _) _
  have hA0 : Blk W0 w.heap.size 30 #[.int .i64 X, .int .i64 Y, .slice a2 T.length c2, .slice a3 Ds.length c3, .slice a4 Hs.length c4] := by rw [← hW0]; exact Blk.new _ _ _
  have z0 := hA0.cell 0
  have z1 := hA0.cell 1
  have z2 := hA0.cell 2
  have z3 := hA0.cell 3
  have z4 := hA0.cell 4
  simp only [List.getElem?_toArray, List.getElem?_cons_succ, List.getElem?_cons_zero] at z0 z1 z2 z3 z4
  have HB := hide hB0
  have HTC := hide (HVT.out W0 hB0)
  have hW := hW0
  clear hW0 hB0 hA0 HVT
  go_enter Tryd.func14, Tryd.ntmps14
  go_wp2_with fail
  refine HTC.out.mono ?_
  rintro e w1 ⟨⟨tb, rfl, hti⟩, hb1⟩
  have HTI := hide hti
  have HB1 : Hid (Below w.heap.size w w1) := HB.out.trans (hb1.mono HB.out.size)
  have y0 := cell_kept z0 hb1
  have y1 := cell_kept z1 hb1
  have y2 := cell_kept z2 hb1
  have y3 := cell_kept z3 hb1
  have y4 := cell_kept z4 hb1
  clear hti hb1 z0 z1 z2 z3 z4 hW HTC
  cases tb with
  | false =>
    have HR : Hid (¬ TbOk ⟨X, Y, T, Ds, Hs⟩) := fun h => by have := HTI.out.2 h; cases this
    go_wp2
    go_ret
    rw [eiF_no HR.out]
    exact ⟨_, rfl, bs_nil _ 0, HB1.out⟩
  | true =>
  have HOK := hide (HTI.out.1 rfl)
  have HM1 := hide (HIM.out w1 HB1.out HOK.out)
  have HLO := hide (im_lo HOK.out)
  have HE : Hid (eiF ⟨X, Y, T, Ds, Hs⟩ = byt (im ⟨X, Y, T, Ds, Hs⟩)) := eiF_yes HOK.out
  go_wp2_with fail
  refine HM1.out.mono ?_
  rintro e w2 ⟨u, rfl, ho, hb2⟩
  have HB2 : Hid (Below w.heap.size w w2) := HB1.out.trans (hb2.mono HB1.out.size)
  have HBS := hide (own_bs ho HLO.out)
  clear ho hb2
  go_wp2
  go_ret
  rw [HE.out]
  exact ⟨_, rfl, HBS.out, HB2.out⟩
end Go.Proofs.YtpnocklldlacjaaDoor

namespace Go.Proofs.YtpnocklldlacjaaDoor
open Go.RowKit

/-- A row of the call's own stays where its block stays. -/
theorem own_typed {w w' : World} {B e sz n : Nat} {v : Value} {xs : List Value} (h : w.ownsRow B e sz v n xs) (hk : ∀ g cur, Blk w g e cur → Blk w' g e cur) : w'.ownsRow B e sz v n xs := by
  refine ⟨h.1, ?_⟩
  rcases h.2 with hn | ⟨g, cap, cur, hv, hb, hgg, rest⟩
  · exact .inl hn
  · exact .inr ⟨g, cap, cur, hv, hb, hk g cur hgg, rest⟩
/-- Behind an append the blocks of other types are as they were. -/
theorem app_typed {w w' : World} {B b e sz n : Nat} {v : Value} {xs : List Value} {t : TypeId} {cs : Array Value} (h : Blk w b t cs) (ht : t ≠ e) (hown : w.ownsRow B e sz v n xs) (hg : w.grownBy w' v.ownBlock) : Blk w' b t cs := by
  refine (hg.block b h.lt (fun q => ht ?_)).trans h
  rcases hown.2 with ⟨rfl, _⟩ | ⟨g, cap, cur, rfl, _, hgg, _⟩
  · simp [Value.ownBlock] at q
  · simp only [Value.ownBlock, Option.some.injEq] at q
    subst q
    unfold Blk at h
    rw [h] at hgg
    injection hgg with h1
    injection h1 with _ h2
theorem set_typed {w : World} {M k g : Nat} {v : Value} {t T : TypeId} {cs cs0 : Array Value} (hM : Blk w M T cs0) (h : Blk w g t cs) (ht : t ≠ T) : Blk (w.setCell ⟨M, k, none⟩ v) g t cs :=
  h.other k v (fun e => by
    subst e
    unfold Blk at h hM
    rw [h] at hM
    injection hM with h1
    injection h1 with _ h2
    exact ht h2)
theorem wrs_new {bl : List Nat} {w w' : World} {M k : Nat} {v : Value} (h : Wrs bl w w') (hM : w.heap.size ≤ M) : Wrs bl w (w'.setCell ⟨M, k, none⟩ v) :=
  ⟨h.os, h.tape, h.output, by rw [World.size_setCell]; exact h.size, fun g hg hb => (Below.heap_setCell _ _ _ _ (by show g ≠ M; omega)).trans (h.blk g hg hb)⟩
theorem own_base {w : World} {B B' e sz n : Nat} {v : Value} {xs : List Value} (h : w.ownsRow B e sz v n xs) (hB : B' ≤ B) : w.ownsRow B' e sz v n xs := by
  refine ⟨h.1, ?_⟩
  rcases h.2 with h | ⟨g, cap, cur, h1, h2, h3⟩
  · exact .inl h
  · exact .inr ⟨g, cap, cur, h1, Nat.le_trans hB h2, h3⟩
theorem wrs_blk {w w' : World} {g k : Nat} {t : TypeId} {cs : Array Value} (hw : Wrs [g] w w') (h : Blk w k t cs) (hk : k ≠ g) : Blk w' k t cs := (hw.blk k h.lt (by simp; exact hk)).trans h
theorem wrs_far {bl : List Nat} {w0 w w' : World} {B e sz n : Nat} {v : Value} {xs : List Value} (h : Wrs bl w0 w) (hB : w0.heap.size ≤ B) (hown : w.ownsRow B e sz v n xs) (hg : w.grownBy w' v.ownBlock) : Wrs bl w0 w' := by
  have h1 : Below w0.heap.size w w' := (Below.refl _ w).grown hg h.size (fun k hk => by have := (hown.lt k hk).1; omega)
  exact ⟨h1.os.trans h.os, h1.tape.trans h.tape, h1.output.trans h.output, Nat.le_trans h.size h1.size, fun g hg hb => (h1.block g hg).trans (h.blk g hg hb)⟩
end Go.Proofs.YtpnocklldlacjaaDoor

namespace Go.Proofs.YtpnocklldlacjaaDoor
open Go.RowKit

theorem Blk.five {w : World} {g : Nat} {t : TypeId} {x0 x1 x2 x3 x4 : Value} (h : Blk w g t #[x0, x1, x2, x3, x4]) (a0 a1 a2 a3 a4 : Value) : Blk (((((w.setCell ⟨g, 0, none⟩ a0).setCell ⟨g, 1, none⟩ a1).setCell ⟨g, 2, none⟩ a2).setCell ⟨g, 3, none⟩ a3).setCell ⟨g, 4, none⟩ a4) g t #[a0, a1, a2, a3, a4] :=
  ((((h.set 0 a0).set 1 a1).set 2 a2).set 3 a3).set 4 a4
theorem below_five {w0 w : World} {g B : Nat} (h : Below B w0 w) (hg : B ≤ g) (a0 a1 a2 a3 a4 : Value) : Below B w0 (((((w.setCell ⟨g, 0, none⟩ a0).setCell ⟨g, 1, none⟩ a1).setCell ⟨g, 2, none⟩ a2).setCell ⟨g, 3, none⟩ a3).setCell ⟨g, 4, none⟩ a4) :=
  ((((h.setCell hg a0).setCell hg a1).setCell hg a2).setCell hg a3).setCell hg a4
theorem typed_five {w : World} {g k : Nat} {t T : TypeId} {cs cs0 : Array Value} (hM : Blk w g T cs0) (h : Blk w k t cs) (ht : t ≠ T) (a0 a1 a2 a3 a4 : Value) : Blk (((((w.setCell ⟨g, 0, none⟩ a0).setCell ⟨g, 1, none⟩ a1).setCell ⟨g, 2, none⟩ a2).setCell ⟨g, 3, none⟩ a3).setCell ⟨g, 4, none⟩ a4) k t cs :=
  set_typed ((((hM.set 0 a0).set 1 a1).set 2 a2).set 3 a3) (set_typed (((hM.set 0 a0).set 1 a1).set 2 a2) (set_typed ((hM.set 0 a0).set 1 a1) (set_typed (hM.set 0 a0) (set_typed hM h ht) ht) ht) ht) ht
theorem results_row_tmp {fn : Func} {p u : Tmp} {ty : TypeId} (h : fn.results = #[.cell p ty, .tmp u]) (P : Program) (tmps : Array Value) (w : World) (g : Nat) (t : TypeId) (cs : Array Value) (fr : Nat × Nat) {fs : Array Field}
    (hp : tmps.getD p undef = .pointer (some ⟨g, 0, none⟩)) (hg : w.heap[g]? = some (.cells cs t fr))
    (hu : P.underlying ty = some (.struct fs)) (hi : (P.info? ty).map (·.size) = some cs.size) :
    (results fn tmps).run P w = .ok (.tuple #[.agg cs, tmps.getD u undef]) w := by
  have hp' : tmps[p]?.getD undef = .pointer (some ⟨g, 0, none⟩) := by simpa using hp
  simp [results, h, hp', asAddr, run_loadVar_row w g t ty cs fr _ hg hu rfl hi]

/-- .. beside two numbers. -/
theorem results_row_tmp2 {fn : Func} {p u v : Tmp} {ty : TypeId} (h : fn.results = #[.cell p ty, .tmp u, .tmp v]) (P : Program) (tmps : Array Value) (w : World) (g : Nat) (t : TypeId) (cs : Array Value) (fr : Nat × Nat) {fs : Array Field}
    (hp : tmps.getD p undef = .pointer (some ⟨g, 0, none⟩)) (hg : w.heap[g]? = some (.cells cs t fr))
    (hu : P.underlying ty = some (.struct fs)) (hi : (P.info? ty).map (·.size) = some cs.size) :
    (results fn tmps).run P w = .ok (.tuple #[.agg cs, tmps.getD u undef, tmps.getD v undef]) w := by
  have hp' : tmps[p]?.getD undef = .pointer (some ⟨g, 0, none⟩) := by simpa using hp
  simp [results, h, hp', asAddr, run_loadVar_row w g t ty cs fr _ hg hu rfl hi]
end Go.Proofs.YtpnocklldlacjaaDoor

namespace Go.Proofs.YtpnocklldlacjaaDoor
open Go.RowKit

/-- Its cells. -/
def tgc (d : Tg) (v : Value) : List Value := [v, .int .i64 d.kind, .int .i64 d.cell]
def tgcs (L : List (Tg × Value)) : List Value := L.flatMap fun p => tgc p.1 p.2
theorem tgcs_length : ∀ L, (tgcs L).length = L.length * 3
  | [] => rfl
  | p :: L => by
    have := tgcs_length L
    unfold tgcs at *
    rw [List.flatMap_cons, List.length_append, this, List.length_cons]
    show 3 + _ = _
    omega
theorem tgcs_append (a b : List (Tg × Value)) : tgcs (a ++ b) = tgcs a ++ tgcs b := List.flatMap_append
theorem tgcs_one {L : List (Tg × Value)} (h : ∀ p ∈ L, p.2.oneCell' = true) : ∀ u ∈ tgcs L, u.oneCell' = true := by
  intro u hu
  obtain ⟨p, hp, hu⟩ := List.mem_flatMap.1 hu
  unfold tgc at hu
  simp only [List.mem_cons, List.not_mem_nil, or_false] at hu
  rcases hu with rfl | rfl | rfl
  · exact h p hp
  · rfl
  · rfl
theorem tgcs_at : ∀ (L : List (Tg × Value)) (j : Nat) (p : Tg × Value), L[j]? = some p → ∀ i, i < 3 → (tgcs L)[j * 3 + i]? = (tgc p.1 p.2)[i]?
  | [], j, p, h, _, _ => by simp at h
  | a :: L, 0, p, h, i, hi => by
    obtain rfl : a = p := by simpa using h
    show (tgc a.1 a.2 ++ tgcs L)[0 * 3 + i]? = _
    rw [Nat.zero_mul, Nat.zero_add, List.getElem?_append_left (by show i < 3; exact hi)]
  | a :: L, j + 1, p, h, i, hi => by
    show (tgc a.1 a.2 ++ tgcs L)[(j + 1) * 3 + i]? = _
    rw [List.getElem?_append_right (by show 3 ≤ _; omega)]
    rw [show (j + 1) * 3 + i - (tgc a.1 a.2).length = j * 3 + i by show _ - 3 = _; omega]
    exact tgcs_at L j p (by simpa using h) i hi
/-- A slice of the call's own holds them. -/
def TgOw (w : World) (B : Nat) (v : Value) (L : List (Tg × Value)) : Prop := w.ownsRow B 56 3 v L.length (tgcs L)
theorem TgOw.nil (w : World) (B : Nat) : TgOw w B (.slice none 0 0) [] := World.ownsRow_nil _ _ _ _
theorem TgOw.kept {w w' : World} {B : Nat} {v : Value} {L : List (Tg × Value)} (h : TgOw w B v L) (hb : Below w.heap.size w w') : TgOw w' B v L :=
  World.ownsRow.kept h (row := none) ⟨hb.os, hb.tape, hb.output, hb.size, fun k hk _ => hb.block k hk⟩ (by cases v.ownBlock <;> simp)
theorem TgOw.slice {w : World} {B : Nat} {v : Value} {L : List (Tg × Value)} (h : TgOw w B v L) : ∃ a c, v = .slice a L.length c := by
  rcases h.2 with ⟨h1, h0⟩ | ⟨g, c, cur, hv, _⟩
  · exact ⟨none, 0, by rw [h1, h0]⟩
  · exact ⟨_, c, hv⟩
theorem TgOw.view {w : World} {B : Nat} {v : Value} {L : List (Tg × Value)} (h : TgOw w B v L) :
    ∃ a b c, v = .slice a L.length c ∧ (0 < L.length → a = some ⟨b, 0, none⟩ ∧ B ≤ b ∧ ∃ cur, w.heap[b]? = some (.cells cur 56 (0, 0))) ∧ (∀ j, j < L.length → ∀ p, L[j]? = some p → ∀ i, i < 3 → w.cell? ⟨b, j * 3 + i, none⟩ = (tgc p.1 p.2)[i]?) ∧ (0 < L.length → Fz w b) ∧ v.ownBlock = a.map (·.block) := by
  obtain ⟨hl, h⟩ := h
  rcases h with ⟨rfl, h0⟩ | ⟨g, c, cur, rfl, hb, hg, hn, _, hcz, ht⟩
  · exact ⟨none, 0, 0, by rw [h0], fun h => absurd h (by omega), fun j hj => absurd hj (by omega), fun h => absurd h (by omega), rfl⟩
  · refine ⟨_, g, c, rfl, fun _ => ⟨rfl, hb, cur, hg⟩, fun j hj p hp i hi => ?_, fun _ j => by simp [World.frozen?, hg], rfl⟩
    rw [← tgcs_at L j p hp i hi, ← ht]
    have hlt : j * 3 + i < L.length * 3 := by
      have : (j + 1) * 3 ≤ L.length * 3 := Nat.mul_le_mul_right _ hj
      omega
    rw [List.getElem?_take, if_pos hlt, Array.getElem?_toList]
    simp [World.cell?, hg]
theorem TgOw.below {B : Nat} {w0 w w' : World} {v : Value} {L : List (Tg × Value)} (h : TgOw w B v L) (hb : Below B w0 w) (hB : B ≤ w.heap.size) (hg : w.grownBy w' v.ownBlock) : Below B w0 w' :=
  hb.grown hg hB (fun k hk => (World.ownsRow.lt h k hk).1)
theorem TgOw.nilOf {w : World} {B : Nat} {v : Value} {L : List (Tg × Value)} (h : TgOw w B v L) (hz : L.length = 0) : v = .slice none 0 0 ∨ ∃ g c, v = .slice (some ⟨g, 0, none⟩) 0 c ∧ ∃ cur, w.heap[g]? = some (.cells cur 56 (0, 0)) := by
  rcases h.2 with ⟨h1, _⟩ | ⟨g, c, cur, hv, _, hg, _⟩
  · exact .inl h1
  · exact .inr ⟨g, c, by rw [hv, hz], cur, hg⟩
theorem TgOw.blk {w : World} {B : Nat} {v : Value} {L : List (Tg × Value)} (h : TgOw w B v L) {g : Nat} (hg : v.ownBlock = some g) : ∃ cur, w.heap[g]? = some (.cells cur 56 (0, 0)) := by
  rcases h.2 with ⟨h1, _⟩ | ⟨g', c, cur, hv, _, hg', _⟩
  · rw [h1] at hg; cases hg
  · rw [hv] at hg
    obtain rfl : g' = g := by simpa [Value.ownBlock] using hg
    exact ⟨cur, hg'⟩
/-- What it reads as. -/
theorem TgOw.rd {w : World} {B : Nat} {v : Value} {L : List (Tg × Value)} (h : TgOw w B v L) (hn : ∀ p ∈ L, BS w p.2 p.1.name) : TgS w v (L.map (·.1)) := by
  obtain ⟨a, b, c, h1, h2, h3, _⟩ := h.view
  refine ⟨a, b, 0, c, by rw [List.length_map]; exact h1, fun hz => (h2 (by rw [List.length_map] at hz; exact hz)).1, fun j hj => ?_⟩
  rw [List.length_map] at hj
  obtain ⟨p, hp⟩ : ∃ p, L[j]? = some p := ⟨L[j], List.getElem?_eq_getElem hj⟩
  have hd : (L.map (·.1)).getD j .zero = p.1 := by rw [List.getD_eq_getElem?_getD, List.getElem?_map, hp]; rfl
  rw [hd]
  have hc := h3 j hj p hp
  simp only [Nat.zero_add]
  refine ⟨p.2, ⟨by have := hc 0 (by omega); rw [Nat.add_zero] at this; exact this, by have := hc 1 (by omega); exact this, by have := hc 2 (by omega); exact this⟩, ⟨hn p (List.mem_of_getElem? hp)⟩⟩

theorem Tryd.infoTg : (Tryd.prog.info? 56).map (fun i => (i.zero, i.size, i.bytes)) = some (some (.agg #[.slice none 0 0, .int .i64 0, .int .i64 0]), 3, 40) := by kernel_rfl
theorem info_partsTg {P : Program} {t : TypeId} {z : Value} {a b : Nat} (h : (P.info? t).map (fun i => (i.zero, i.size, i.bytes)) = some (some z, a, b)) : ∃ i, P.info? t = some i ∧ i.zero = some z ∧ i.size = a ∧ i.bytes = b := by
  cases hi : P.info? t with
  | none => rw [hi] at h; cases h
  | some i => rw [hi] at h; simp at h; exact ⟨i, rfl, h.1, h.2.1, h.2.2⟩
/-- append of some onto a row of the call's own. -/
theorem wp_appTg {ops : Array Oper} {rest : List Oper} {o : Oper} {a : Act} {Q : Exit → Act → World → Prop} {w : World} (hgd : o.guard = none) (s x : Operand)
    (ho : o.op = .call { callee := .builtin .append, args := #[s, x], argTypes := #[28, 28] }) (B : Nat) (v : Value) (xs : List (Tg × Value)) (hs : a.eval s = v) (hown : TgOw w B v xs)
    (g f c : Nat) (ys : List (Tg × Value)) (hx : a.eval x = .slice (some ⟨g, f, none⟩) ys.length c) (hnews : ∀ j, j < ys.length → ∀ p, ys[j]? = some p → ∀ i, i < 3 → w.cell? ⟨g, f + (j * 3 + i), none⟩ = (tgc p.1 p.2)[i]?) (hone : ∀ p ∈ ys, p.2.oneCell' = true) (hlen : xs.length + ys.length ≤ 100000000) (hbase : B ≤ w.heap.size)
    (h : ∀ v' w' l, Hid (l = xs ++ ys) → TgOw w' B v' l → w.grownBy w' v.ownBlock → (v'.ownBlock = v.ownBlock ∨ v'.ownBlock = some w.heap.size) → wpList Tryd.prog ops Q rest (a.put o.dst v') w') : wpList Tryd.prog ops Q (o :: rest) a w := by
  obtain ⟨i0, hi, hz0, hz1, hz2⟩ := info_partsTg Tryd.infoTg
  refine wpList_append_own_at _ hgd s x 28 ho B 56 i0 _ 3 40 Tryd.underlying28 hi hz0 hz1 hz2 rfl (by decide) v xs.length (tgcs xs) hs hown ⟨g, f, none⟩ ys.length c (tgcs ys) hx (tgcs_length ys) (fun j u hj => ?_) (tgcs_one hone) (by unfold maxLen; omega) (by omega) hbase (fun v' w' h1 h2 _ h4 => ?_)
  · have hjl : j < ys.length * 3 := by
      rcases Nat.lt_or_ge j (ys.length * 3) with h | h
      · exact h
      · rw [List.getElem?_eq_none (by rw [tgcs_length]; exact h)] at hj; cases hj
    have e : (⟨g, f, none⟩ : Addr).add j = ⟨g, f + j, none⟩ := by unfold Addr.add; split <;> simp_all
    have hm : j / 3 < ys.length := Nat.div_lt_of_lt_mul (by rw [Nat.mul_comm]; exact hjl)
    obtain ⟨p, hp⟩ : ∃ p, ys[j / 3]? = some p := ⟨ys[j / 3], List.getElem?_eq_getElem hm⟩
    have hi : j % 3 < 3 := Nat.mod_lt _ (by decide)
    have ej : j / 3 * 3 + j % 3 = j := by rw [Nat.mul_comm]; exact Nat.div_add_mod j 3
    have h1 := hnews (j / 3) hm p hp (j % 3) hi
    rw [ej] at h1
    rw [e, h1, ← tgcs_at ys (j / 3) p hp (j % 3) hi, ej]
    exact hj
  · refine h v' w' (xs ++ ys) rfl ?_ h2 h4
    unfold TgOw
    rw [List.length_append, tgcs_append]
    exact h1
end Go.Proofs.YtpnocklldlacjaaDoor

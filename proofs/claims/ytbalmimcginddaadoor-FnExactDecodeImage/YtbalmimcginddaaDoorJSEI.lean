/-
  The walk of spec.EncodeImage.
  Rows of Target of the call's own; appends onto them.
-/
import Derived.Test.YtbalmimcginddaaDoorSIM
import Derived.Test.YtbalmimcginddaaDoorJTgS3
import Derived.Maps.AppendAt
namespace Go.Proofs.YtbalmimcginddaaDoor
open Go.RowKit

set_option maxHeartbeats 4000000 in
set_option maxRecDepth 1000000 in
theorem specEncode_any (d : Tb) (v2 v3 v4 : Value) (w : World) (hb : TbB d) (h : TbV w d v2 v3 v4) :
    Calls Tryd.prog 14 #[tbagg d v2 v3 v4] w fun e w' => ∃ v, e = .returned v ∧ BS w' v (eiF d) ∧ Below w.heap.size w w' := by
  have HVT := hide (fun V (hV : Below w.heap.size w V) => specTables_any d v2 v3 v4 V hb (h.below hV))
  have HIM := hide (fun V (hV : Below w.heap.size w V) hok => l7image_any d v2 v3 v4 V hok (h.below hV))
  obtain ⟨a2, c2, rfl⟩ := h.targets.slice
  obtain ⟨a3, c3, rfl⟩ := h.dist.slice
  obtain ⟨a4, c4, rfl⟩ := h.hop.slice
  clear h hb
  unfold tbagg at HVT HIM ⊢
  obtain ⟨X, Y, T, Ds, Hs⟩ := d
  simp only at HVT HIM ⊢
  obtain ⟨W0, hW0⟩ : ∃ W, w.alloc (.cells #[.int .i64 X, .int .i64 Y, .slice a2 T.length c2, .slice a3 Ds.length c3, .slice a4 Hs.length c4] 26) = W := ⟨_, rfl⟩
  have hB0 : Below w.heap.size w W0 := by rw [← hW0]; exact (Below.refl _ _).alloc (Nat.le_refl _) _
  have hA0 : Blk W0 w.heap.size 26 #[.int .i64 X, .int .i64 Y, .slice a2 T.length c2, .slice a3 Ds.length c3, .slice a4 Hs.length c4] := by rw [← hW0]; exact Blk.new _ _ _
  have z0 := hA0.cell 0
  have z1 := hA0.cell 1
  have z2 := hA0.cell 2
  have z3 := hA0.cell 3
  have z4 := hA0.cell 4
  simp only [List.getElem?_toArray, List.getElem?_cons_succ, List.getElem?_cons_zero] at z0 z1 z2 z3 z4
  have HB := hide hB0
  have HTC := hide (HVT.out W0 hB0)
  have hW := hW0
  clear hW0 hB0 hA0 HVT
  go_enter Tryd.func14, Tryd.ntmps14
  go_wp2_with fail
  refine HTC.out.mono ?_
  rintro e w1 ⟨⟨tb, rfl, hti⟩, hb1⟩
  have HTI := hide hti
  have HB1 : Hid (Below w.heap.size w w1) := HB.out.trans (hb1.mono HB.out.size)
  have y0 := cell_kept z0 hb1
  have y1 := cell_kept z1 hb1
  have y2 := cell_kept z2 hb1
  have y3 := cell_kept z3 hb1
  have y4 := cell_kept z4 hb1
  clear hti hb1 z0 z1 z2 z3 z4 hW HTC
  cases tb with
  | false =>
    have HR : Hid (¬ TbOk ⟨X, Y, T, Ds, Hs⟩) := fun h => by have := HTI.out.2 h; cases this
    go_wp2
    go_ret
    rw [eiF_no HR.out]
    exact ⟨_, rfl, bs_nil _ 0, HB1.out⟩
  | true =>
  have HOK := hide (HTI.out.1 rfl)
  have HM1 := hide (HIM.out w1 HB1.out HOK.out)
  have HLO := hide (im_lo HOK.out)
  have HE : Hid (eiF ⟨X, Y, T, Ds, Hs⟩ = byt (im ⟨X, Y, T, Ds, Hs⟩)) := eiF_yes HOK.out
  go_wp2_with fail
  refine HM1.out.mono ?_
  rintro e w2 ⟨u, rfl, ho, hb2⟩
  have HB2 : Hid (Below w.heap.size w w2) := HB1.out.trans (hb2.mono HB1.out.size)
  have HBS := hide (own_bs ho HLO.out)
  clear ho hb2
  go_wp2
  go_ret
  rw [HE.out]
  exact ⟨_, rfl, HBS.out, HB2.out⟩
end Go.Proofs.YtbalmimcginddaaDoor

namespace Go.Proofs.YtbalmimcginddaaDoor
open Go.RowKit

/-- Its cells. -/
def tgc (d : Tg) (v : Value) : List Value := [v, .int .i64 d.kind, .int .i64 d.cell]
def tgcs (L : List (Tg × Value)) : List Value := L.flatMap fun p => tgc p.1 p.2
theorem tgcs_length : ∀ L, (tgcs L).length = L.length * 3
  | [] => rfl
  | p :: L => by
    have := tgcs_length L
    unfold tgcs at *
    rw [List.flatMap_cons, List.length_append, this, List.length_cons]
    show 3 + _ = _
    omega
theorem tgcs_append (a b : List (Tg × Value)) : tgcs (a ++ b) = tgcs a ++ tgcs b := List.flatMap_append
theorem tgcs_one {L : List (Tg × Value)} (h : ∀ p ∈ L, p.2.oneCell' = true) : ∀ u ∈ tgcs L, u.oneCell' = true := by
  intro u hu
  obtain ⟨p, hp, hu⟩ := List.mem_flatMap.1 hu
  unfold tgc at hu
  simp only [List.mem_cons, List.not_mem_nil, or_false] at hu
  rcases hu with rfl | rfl | rfl
  · exact h p hp
  · rfl
  · rfl
theorem tgcs_at : ∀ (L : List (Tg × Value)) (j : Nat) (p : Tg × Value), L[j]? = some p → ∀ i, i < 3 → (tgcs L)[j * 3 + i]? = (tgc p.1 p.2)[i]?
  | [], j, p, h, _, _ => by simp at h
  | a :: L, 0, p, h, i, hi => by
    obtain rfl : a = p := by simpa using h
    show (tgc a.1 a.2 ++ tgcs L)[0 * 3 + i]? = _
    rw [Nat.zero_mul, Nat.zero_add, List.getElem?_append_left (by show i < 3; exact hi)]
  | a :: L, j + 1, p, h, i, hi => by
    show (tgc a.1 a.2 ++ tgcs L)[(j + 1) * 3 + i]? = _
    rw [List.getElem?_append_right (by show 3 ≤ _; omega)]
    rw [show (j + 1) * 3 + i - (tgc a.1 a.2).length = j * 3 + i by show _ - 3 = _; omega]
    exact tgcs_at L j p (by simpa using h) i hi
/-- A slice of the call's own holds them. -/
def TgOw (w : World) (B : Nat) (v : Value) (L : List (Tg × Value)) : Prop := w.ownsRow B 48 3 v L.length (tgcs L)
theorem TgOw.nil (w : World) (B : Nat) : TgOw w B (.slice none 0 0) [] := World.ownsRow_nil _ _ _ _
theorem TgOw.kept {w w' : World} {B : Nat} {v : Value} {L : List (Tg × Value)} (h : TgOw w B v L) (hb : Below w.heap.size w w') : TgOw w' B v L :=
  World.ownsRow.kept h (row := none) ⟨hb.os, hb.tape, hb.output, hb.size, fun k hk _ => hb.block k hk⟩ (by cases v.ownBlock <;> simp)
theorem TgOw.slice {w : World} {B : Nat} {v : Value} {L : List (Tg × Value)} (h : TgOw w B v L) : ∃ a c, v = .slice a L.length c := by
  rcases h.2 with ⟨h1, h0⟩ | ⟨g, c, cur, hv, _⟩
  · exact ⟨none, 0, by rw [h1, h0]⟩
  · exact ⟨_, c, hv⟩
theorem TgOw.view {w : World} {B : Nat} {v : Value} {L : List (Tg × Value)} (h : TgOw w B v L) :
    ∃ a b c, v = .slice a L.length c ∧ (0 < L.length → a = some ⟨b, 0, none⟩ ∧ B ≤ b ∧ ∃ cur, w.heap[b]? = some (.cells cur 48 (0, 0))) ∧ (∀ j, j < L.length → ∀ p, L[j]? = some p → ∀ i, i < 3 → w.cell? ⟨b, j * 3 + i, none⟩ = (tgc p.1 p.2)[i]?) ∧ (0 < L.length → Fz w b) ∧ v.ownBlock = a.map (·.block) := by
  obtain ⟨hl, h⟩ := h
  rcases h with ⟨rfl, h0⟩ | ⟨g, c, cur, rfl, hb, hg, hn, _, hcz, ht⟩
  · exact ⟨none, 0, 0, by rw [h0], fun h => absurd h (by omega), fun j hj => absurd hj (by omega), fun h => absurd h (by omega), rfl⟩
  · refine ⟨_, g, c, rfl, fun _ => ⟨rfl, hb, cur, hg⟩, fun j hj p hp i hi => ?_, fun _ j => by simp [World.frozen?, hg], rfl⟩
    rw [← tgcs_at L j p hp i hi, ← ht]
    have hlt : j * 3 + i < L.length * 3 := by
      have : (j + 1) * 3 ≤ L.length * 3 := Nat.mul_le_mul_right _ hj
      omega
    rw [List.getElem?_take, if_pos hlt, Array.getElem?_toList]
    simp [World.cell?, hg]
theorem TgOw.below {B : Nat} {w0 w w' : World} {v : Value} {L : List (Tg × Value)} (h : TgOw w B v L) (hb : Below B w0 w) (hB : B ≤ w.heap.size) (hg : w.grownBy w' v.ownBlock) : Below B w0 w' :=
  hb.grown hg hB (fun k hk => (World.ownsRow.lt h k hk).1)
theorem TgOw.nilOf {w : World} {B : Nat} {v : Value} {L : List (Tg × Value)} (h : TgOw w B v L) (hz : L.length = 0) : v = .slice none 0 0 ∨ ∃ g c, v = .slice (some ⟨g, 0, none⟩) 0 c ∧ ∃ cur, w.heap[g]? = some (.cells cur 48 (0, 0)) := by
  rcases h.2 with ⟨h1, _⟩ | ⟨g, c, cur, hv, _, hg, _⟩
  · exact .inl h1
  · exact .inr ⟨g, c, by rw [hv, hz], cur, hg⟩
theorem TgOw.blk {w : World} {B : Nat} {v : Value} {L : List (Tg × Value)} (h : TgOw w B v L) {g : Nat} (hg : v.ownBlock = some g) : ∃ cur, w.heap[g]? = some (.cells cur 48 (0, 0)) := by
  rcases h.2 with ⟨h1, _⟩ | ⟨g', c, cur, hv, _, hg', _⟩
  · rw [h1] at hg; cases hg
  · rw [hv] at hg
    obtain rfl : g' = g := by simpa [Value.ownBlock] using hg
    exact ⟨cur, hg'⟩
/-- What it reads as. -/
theorem TgOw.rd {w : World} {B : Nat} {v : Value} {L : List (Tg × Value)} (h : TgOw w B v L) (hn : ∀ p ∈ L, BS w p.2 p.1.name) : TgS w v (L.map (·.1)) := by
  obtain ⟨a, b, c, h1, h2, h3, _⟩ := h.view
  refine ⟨a, b, 0, c, by rw [List.length_map]; exact h1, fun hz => (h2 (by rw [List.length_map] at hz; exact hz)).1, fun j hj => ?_⟩
  rw [List.length_map] at hj
  obtain ⟨p, hp⟩ : ∃ p, L[j]? = some p := ⟨L[j], List.getElem?_eq_getElem hj⟩
  have hd : (L.map (·.1)).getD j .zero = p.1 := by rw [List.getD_eq_getElem?_getD, List.getElem?_map, hp]; rfl
  rw [hd]
  have hc := h3 j hj p hp
  simp only [Nat.zero_add]
  refine ⟨p.2, ⟨by have := hc 0 (by omega); rw [Nat.add_zero] at this; exact this, by have := hc 1 (by omega); exact this, by have := hc 2 (by omega); exact this⟩, ⟨hn p (List.mem_of_getElem? hp)⟩⟩

theorem Tryd.infoTg : (Tryd.prog.info? 48).map (fun i => (i.zero, i.size, i.bytes)) = some (some (.agg #[.slice none 0 0, .int .i64 0, .int .i64 0]), 3, 40) := by kernel_rfl
theorem info_partsTg {P : Program} {t : TypeId} {z : Value} {a b : Nat} (h : (P.info? t).map (fun i => (i.zero, i.size, i.bytes)) = some (some z, a, b)) : ∃ i, P.info? t = some i ∧ i.zero = some z ∧ i.size = a ∧ i.bytes = b := by
  cases hi : P.info? t with
  | none => rw [hi] at h; cases h
  | some i => rw [hi] at h; simp at h; exact ⟨i, rfl, h.1, h.2.1, h.2.2⟩
/-- append of some onto a row of the call's own. -/
theorem wp_appTg {ops : Array Oper} {rest : List Oper} {o : Oper} {a : Act} {Q : Exit → Act → World → Prop} {w : World} (hgd : o.guard = none) (s x : Operand)
    (ho : o.op = .call { callee := .builtin .append, args := #[s, x], argTypes := #[23, 23] }) (B : Nat) (v : Value) (xs : List (Tg × Value)) (hs : a.eval s = v) (hown : TgOw w B v xs)
    (g f c : Nat) (ys : List (Tg × Value)) (hx : a.eval x = .slice (some ⟨g, f, none⟩) ys.length c) (hnews : ∀ j, j < ys.length → ∀ p, ys[j]? = some p → ∀ i, i < 3 → w.cell? ⟨g, f + (j * 3 + i), none⟩ = (tgc p.1 p.2)[i]?) (hone : ∀ p ∈ ys, p.2.oneCell' = true) (hlen : xs.length + ys.length ≤ 100000000) (hbase : B ≤ w.heap.size)
    (h : ∀ v' w' l, Hid (l = xs ++ ys) → TgOw w' B v' l → w.grownBy w' v.ownBlock → (v'.ownBlock = v.ownBlock ∨ v'.ownBlock = some w.heap.size) → wpList Tryd.prog ops Q rest (a.put o.dst v') w') : wpList Tryd.prog ops Q (o :: rest) a w := by
  obtain ⟨i0, hi, hz0, hz1, hz2⟩ := info_partsTg Tryd.infoTg
  refine wpList_append_own_at _ hgd s x 23 ho B 48 i0 _ 3 40 Tryd.underlying23 hi hz0 hz1 hz2 rfl (by decide) v xs.length (tgcs xs) hs hown ⟨g, f, none⟩ ys.length c (tgcs ys) hx (tgcs_length ys) (fun j u hj => ?_) (tgcs_one hone) (by unfold maxLen; omega) (by omega) hbase (fun v' w' h1 h2 _ h4 => ?_)
  · have hjl : j < ys.length * 3 := by
      rcases Nat.lt_or_ge j (ys.length * 3) with h | h
      · exact h
      · rw [List.getElem?_eq_none (by rw [tgcs_length]; exact h)] at hj; cases hj
    have e : (⟨g, f, none⟩ : Addr).add j = ⟨g, f + j, none⟩ := by unfold Addr.add; split <;> simp_all
    have hm : j / 3 < ys.length := Nat.div_lt_of_lt_mul (by rw [Nat.mul_comm]; exact hjl)
    obtain ⟨p, hp⟩ : ∃ p, ys[j / 3]? = some p := ⟨ys[j / 3], List.getElem?_eq_getElem hm⟩
    have hi : j % 3 < 3 := Nat.mod_lt _ (by decide)
    have ej : j / 3 * 3 + j % 3 = j := by rw [Nat.mul_comm]; exact Nat.div_add_mod j 3
    have h1 := hnews (j / 3) hm p hp (j % 3) hi
    rw [ej] at h1
    rw [e, h1, ← tgcs_at ys (j / 3) p hp (j % 3) hi, ej]
    exact hj
  · refine h v' w' (xs ++ ys) rfl ?_ h2 h4
    unfold TgOw
    rw [List.length_append, tgcs_append]
    exact h1
end Go.Proofs.YtbalmimcginddaaDoor

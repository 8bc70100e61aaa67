/-
  Rows of Decl of the call's own; appends onto them.
-/
import Derived.Test.YtaapababeecmeaaDoorJLayoutDeclsDcSF
import Derived.Maps.AppendAt
namespace Go.Proofs.YtaapababeecmeaaDoor
open Go.RowKit

/-- Its cells. -/
def dcc (d : Dc) (v : Value) : List Value := [.int .i64 d.kind, .int .i64 d.x1, .int .i64 d.y1, .int .i64 d.x2, .int .i64 d.y2, .int .i64 d.dir, .int .i64 d.cost, v, .int .i64 d.node]
def dccs (L : List (Dc × Value)) : List Value := L.flatMap fun p => dcc p.1 p.2
theorem dccs_length : ∀ L, (dccs L).length = L.length * 9
  | [] => rfl
  | p :: L => by
    have := dccs_length L
    unfold dccs at *
    rw [List.flatMap_cons, List.length_append, this, List.length_cons]
    show 9 + _ = _
    omega
theorem dccs_append (a b : List (Dc × Value)) : dccs (a ++ b) = dccs a ++ dccs b := List.flatMap_append
theorem dccs_one {L : List (Dc × Value)} (h : ∀ p ∈ L, p.2.oneCell' = true) : ∀ u ∈ dccs L, u.oneCell' = true := by
  intro u hu
  obtain ⟨p, hp, hu⟩ := List.mem_flatMap.1 hu
  unfold dcc at hu
  simp only [List.mem_cons, List.not_mem_nil, or_false] at hu
  rcases hu with rfl | rfl | rfl | rfl | rfl | rfl | rfl | rfl | rfl
  · rfl
  · rfl
  · rfl
  · rfl
  · rfl
  · rfl
  · rfl
  · exact h p hp
  · rfl
theorem dccs_at : ∀ (L : List (Dc × Value)) (j : Nat) (p : Dc × Value), L[j]? = some p → ∀ i, i < 9 → (dccs L)[j * 9 + i]? = (dcc p.1 p.2)[i]?
  | [], j, p, h, _, _ => by simp at h
  | a :: L, 0, p, h, i, hi => by
    obtain rfl : a = p := by simpa using h
    show (dcc a.1 a.2 ++ dccs L)[0 * 9 + i]? = _
    rw [Nat.zero_mul, Nat.zero_add, List.getElem?_append_left (by show i < 9; exact hi)]
  | a :: L, j + 1, p, h, i, hi => by
    show (dcc a.1 a.2 ++ dccs L)[(j + 1) * 9 + i]? = _
    rw [List.getElem?_append_right (by show 9 ≤ _; omega)]
    rw [show (j + 1) * 9 + i - (dcc a.1 a.2).length = j * 9 + i by show _ - 9 = _; omega]
    exact dccs_at L j p (by simpa using h) i hi
/-- A slice of the call's own holds them. -/
def DcOw (w : World) (B : Nat) (v : Value) (L : List (Dc × Value)) : Prop := w.ownsRow B 59 9 v L.length (dccs L)
theorem DcOw.nil (w : World) (B : Nat) : DcOw w B (.slice none 0 0) [] := World.ownsRow_nil _ _ _ _
theorem DcOw.kept {w w' : World} {B : Nat} {v : Value} {L : List (Dc × Value)} (h : DcOw w B v L) (hb : Below w.heap.size w w') : DcOw w' B v L :=
  World.ownsRow.kept h (row := none) ⟨hb.os, hb.tape, hb.output, hb.size, fun k hk _ => hb.block k hk⟩ (by cases v.ownBlock <;> simp)
theorem DcOw.slice {w : World} {B : Nat} {v : Value} {L : List (Dc × Value)} (h : DcOw w B v L) : ∃ a c, v = .slice a L.length c := by
  rcases h.2 with ⟨h1, h0⟩ | ⟨g, c, cur, hv, _⟩
  · exact ⟨none, 0, by rw [h1, h0]⟩
  · exact ⟨_, c, hv⟩
theorem DcOw.view {w : World} {B : Nat} {v : Value} {L : List (Dc × Value)} (h : DcOw w B v L) :
    ∃ a b c, v = .slice a L.length c ∧ (0 < L.length → a = some ⟨b, 0, none⟩ ∧ B ≤ b ∧ ∃ cur, w.heap[b]? = some (.cells cur 59 (0, 0))) ∧ (∀ j, j < L.length → ∀ p, L[j]? = some p → ∀ i, i < 9 → w.cell? ⟨b, j * 9 + i, none⟩ = (dcc p.1 p.2)[i]?) ∧ (0 < L.length → Fz w b) ∧ v.ownBlock = a.map (·.block) := by
  obtain ⟨hl, h⟩ := h
  rcases h with ⟨rfl, h0⟩ | ⟨g, c, cur, rfl, hb, hg, hn, _, hcz, ht⟩
  · exact ⟨none, 0, 0, by rw [h0], fun h => absurd h (by omega), fun j hj => absurd hj (by omega), fun h => absurd h (by omega), rfl⟩
  · refine ⟨_, g, c, rfl, fun _ => ⟨rfl, hb, cur, hg⟩, fun j hj p hp i hi => ?_, fun _ j => by simp [World.frozen?, hg], rfl⟩
    rw [← dccs_at L j p hp i hi, ← ht]
    have hlt : j * 9 + i < L.length * 9 := by
      have : (j + 1) * 9 ≤ L.length * 9 := Nat.mul_le_mul_right _ hj
      omega
    rw [List.getElem?_take, if_pos hlt, Array.getElem?_toList]
    simp [World.cell?, hg]
theorem DcOw.below {B : Nat} {w0 w w' : World} {v : Value} {L : List (Dc × Value)} (h : DcOw w B v L) (hb : Below B w0 w) (hB : B ≤ w.heap.size) (hg : w.grownBy w' v.ownBlock) : Below B w0 w' :=
  hb.grown hg hB (fun k hk => (World.ownsRow.lt h k hk).1)
theorem DcOw.nilOf {w : World} {B : Nat} {v : Value} {L : List (Dc × Value)} (h : DcOw w B v L) (hz : L.length = 0) : v = .slice none 0 0 ∨ ∃ g c, v = .slice (some ⟨g, 0, none⟩) 0 c ∧ ∃ cur, w.heap[g]? = some (.cells cur 59 (0, 0)) := by
  rcases h.2 with ⟨h1, _⟩ | ⟨g, c, cur, hv, _, hg, _⟩
  · exact .inl h1
  · exact .inr ⟨g, c, by rw [hv, hz], cur, hg⟩
theorem DcOw.blk {w : World} {B : Nat} {v : Value} {L : List (Dc × Value)} (h : DcOw w B v L) {g : Nat} (hg : v.ownBlock = some g) : ∃ cur, w.heap[g]? = some (.cells cur 59 (0, 0)) := by
  rcases h.2 with ⟨h1, _⟩ | ⟨g', c, cur, hv, _, hg', _⟩
  · rw [h1] at hg; cases hg
  · rw [hv] at hg
    obtain rfl : g' = g := by simpa [Value.ownBlock] using hg
    exact ⟨cur, hg'⟩
/-- What it reads as. -/
theorem DcOw.rd {w : World} {B : Nat} {v : Value} {L : List (Dc × Value)} (h : DcOw w B v L) (hn : ∀ p ∈ L, BS w p.2 p.1.name) : DcS w v (L.map (·.1)) := by
  obtain ⟨a, b, c, h1, h2, h3, _⟩ := h.view
  refine ⟨a, b, 0, c, by rw [List.length_map]; exact h1, fun hz => (h2 (by rw [List.length_map] at hz; exact hz)).1, fun j hj => ?_⟩
  rw [List.length_map] at hj
  obtain ⟨p, hp⟩ : ∃ p, L[j]? = some p := ⟨L[j], List.getElem?_eq_getElem hj⟩
  have hd : (L.map (·.1)).getD j .zero = p.1 := by rw [List.getD_eq_getElem?_getD, List.getElem?_map, hp]; rfl
  rw [hd]
  have hc := h3 j hj p hp
  simp only [Nat.zero_add]
  refine ⟨p.2, ⟨by have := hc 0 (by omega); rw [Nat.add_zero] at this; exact this, by have := hc 1 (by omega); exact this, by have := hc 2 (by omega); exact this, by have := hc 3 (by omega); exact this, by have := hc 4 (by omega); exact this, by have := hc 5 (by omega); exact this, by have := hc 6 (by omega); exact this, by have := hc 7 (by omega); exact this, by have := hc 8 (by omega); exact this⟩, ⟨hn p (List.mem_of_getElem? hp)⟩⟩

theorem Tryd.infoDc : (Tryd.prog.info? 59).map (fun i => (i.zero, i.size, i.bytes)) = some (some (.agg #[.int .i64 0, .int .i64 0, .int .i64 0, .int .i64 0, .int .i64 0, .int .i64 0, .int .i64 0, .slice none 0 0, .int .i64 0]), 9, 88) := by kernel_rfl
theorem info_partsDc {P : Program} {t : TypeId} {z : Value} {a b : Nat} (h : (P.info? t).map (fun i => (i.zero, i.size, i.bytes)) = some (some z, a, b)) : ∃ i, P.info? t = some i ∧ i.zero = some z ∧ i.size = a ∧ i.bytes = b := by
  cases hi : P.info? t with
  | none => rw [hi] at h; cases h
  | some i => rw [hi] at h; simp at h; exact ⟨i, rfl, h.1, h.2.1, h.2.2⟩
/-- append of some onto a row of the call's own. -/
theorem wp_appDc {ops : Array Oper} {rest : List Oper} {o : Oper} {a : Act} {Q : Exit → Act → World → Prop} {w : World} (hgd : o.guard = none) (s x : Operand)
    (ho : o.op = .call { callee := .builtin .append, args := #[s, x], argTypes := #[34, 34] }) (B : Nat) (v : Value) (xs : List (Dc × Value)) (hs : a.eval s = v) (hown : DcOw w B v xs)
    (g f c : Nat) (ys : List (Dc × Value)) (hx : a.eval x = .slice (some ⟨g, f, none⟩) ys.length c) (hnews : ∀ j, j < ys.length → ∀ p, ys[j]? = some p → ∀ i, i < 9 → w.cell? ⟨g, f + (j * 9 + i), none⟩ = (dcc p.1 p.2)[i]?) (hone : ∀ p ∈ ys, p.2.oneCell' = true) (hlen : xs.length + ys.length ≤ 100000000) (hbase : B ≤ w.heap.size)
    (h : ∀ v' w' l, Hid (l = xs ++ ys) → DcOw w' B v' l → w.grownBy w' v.ownBlock → (v'.ownBlock = v.ownBlock ∨ v'.ownBlock = some w.heap.size) → wpList Tryd.prog ops Q rest (a.put o.dst v') w') : wpList Tryd.prog ops Q (o :: rest) a w := by
  obtain ⟨i0, hi, hz0, hz1, hz2⟩ := info_partsDc Tryd.infoDc
  refine wpList_append_own_at _ hgd s x 34 ho B 59 i0 _ 9 88 Tryd.underlying34 hi hz0 hz1 hz2 rfl (by decide) v xs.length (dccs xs) hs hown ⟨g, f, none⟩ ys.length c (dccs ys) hx (dccs_length ys) (fun j u hj => ?_) (dccs_one hone) (by unfold maxLen; omega) (by omega) hbase (fun v' w' h1 h2 _ h4 => ?_)
  · have hjl : j < ys.length * 9 := by
      rcases Nat.lt_or_ge j (ys.length * 9) with h | h
      · exact h
      · rw [List.getElem?_eq_none (by rw [dccs_length]; exact h)] at hj; cases hj
    have e : (⟨g, f, none⟩ : Addr).add j = ⟨g, f + j, none⟩ := by unfold Addr.add; split <;> simp_all
    have hm : j / 9 < ys.length := Nat.div_lt_of_lt_mul (by rw [Nat.mul_comm]; exact hjl)
    obtain ⟨p, hp⟩ : ∃ p, ys[j / 9]? = some p := ⟨ys[j / 9], List.getElem?_eq_getElem hm⟩
    have hi : j % 9 < 9 := Nat.mod_lt _ (by decide)
    have ej : j / 9 * 9 + j % 9 = j := by rw [Nat.mul_comm]; exact Nat.div_add_mod j 9
    have h1 := hnews (j / 9) hm p hp (j % 9) hi
    rw [ej] at h1
    rw [e, h1, ← dccs_at ys (j / 9) p hp (j % 9) hi, ej]
    exact hj
  · refine h v' w' (xs ++ ys) rfl ?_ h2 h4
    unfold DcOw
    rw [List.length_append, dccs_append]
    exact h1
end Go.Proofs.YtaapababeecmeaaDoor

/-
  Rows of robots of the call's own; the walk of slices.Clone over robots.
-/
import Derived.Test.YteicpjbeihabnaaDoorJRunFleetTbMK
import Derived.Test.YteicpjbeihabnaaDoorJRunFleetE
import Derived.Laws.AppendOwn
import Derived.Laws.AppendOwnNone
namespace Go.Proofs.YteicpjbeihabnaaDoor
open Go.RowKit

/-- Its cells. -/
def roc (d : Ro) : List Value := [.int .i64 d.cell, .int .i64 d.target, .int .i64 d.moves, .int .i64 d.waits, .bool d.done]
def rocs (L : List Ro) : List Value := L.flatMap roc
theorem rocs_length : ∀ L, (rocs L).length = L.length * 5
  | [] => rfl
  | p :: L => by
    have := rocs_length L
    unfold rocs at *
    rw [List.flatMap_cons, List.length_append, this, List.length_cons]
    show 5 + _ = _
    omega
theorem rocs_append (a b : List Ro) : rocs (a ++ b) = rocs a ++ rocs b := List.flatMap_append
theorem rocs_one (L : List Ro) : ∀ u ∈ rocs L, u.oneCell' = true := by
  intro u hu
  obtain ⟨p, hp, hu⟩ := List.mem_flatMap.1 hu
  unfold roc at hu
  simp only [List.mem_cons, List.not_mem_nil, or_false] at hu
  rcases hu with rfl | rfl | rfl | rfl | rfl <;> rfl
theorem rocs_at : ∀ (L : List Ro) (j : Nat) (p : Ro), L[j]? = some p → ∀ i, i < 5 → (rocs L)[j * 5 + i]? = (roc p)[i]?
  | [], j, p, h, _, _ => by simp at h
  | a :: L, 0, p, h, i, hi => by
    obtain rfl : a = p := by simpa using h
    show (roc a ++ rocs L)[0 * 5 + i]? = _
    rw [Nat.zero_mul, Nat.zero_add, List.getElem?_append_left (by show i < 5; exact hi)]
  | a :: L, j + 1, p, h, i, hi => by
    show (roc a ++ rocs L)[(j + 1) * 5 + i]? = _
    rw [List.getElem?_append_right (by show 5 ≤ _; omega)]
    rw [show (j + 1) * 5 + i - (roc a).length = j * 5 + i by show _ - 5 = _; omega]
    exact rocs_at L j p (by simpa using h) i hi
/-- Cells that hold a robot are its cells. -/
theorem roc_cell {w : World} {b p : Nat} {d : Ro} (h : RoC w b p d) {i : Nat} (hi : i < 5) : w.cell? ⟨b, p + i, none⟩ = (roc d)[i]? := by
  match i, hi with
  | 0, _ => exact h.cell
  | 1, _ => exact h.target
  | 2, _ => exact h.moves
  | 3, _ => exact h.waits
  | 4, _ => exact h.done
theorem roc_of {w : World} {b p : Nat} {d : Ro} (h : ∀ i, i < 5 → w.cell? ⟨b, p + i, none⟩ = (roc d)[i]?) : RoC w b p d :=
  ⟨h 0 (by omega), h 1 (by omega), h 2 (by omega), h 3 (by omega), h 4 (by omega)⟩

/-- One field of a robot was written. -/
theorem RoC.setDone {w : World} {b p : Nat} {r : Ro} (h : RoC w b p r) (x : Bool) : RoC (w.setCell ⟨b, p + 4, none⟩ (.bool x)) b p { r with done := x } := by
  have o : ∀ q, q ≠ 4 → (w.setCell ⟨b, p + 4, none⟩ (.bool x)).cell? ⟨b, p + q, none⟩ = w.cell? ⟨b, p + q, none⟩ := fun q hq => World.cell?_setCell_other _ _ _ _ (fun e => by injection e with _ e _; omega)
  exact ⟨(o 0 (by omega)).trans h.cell, (o 1 (by omega)).trans h.target, (o 2 (by omega)).trans h.moves, (o 3 (by omega)).trans h.waits, World.cell?_setCell_same _ _ _ h.done⟩
theorem RoC.setWaits {w : World} {b p : Nat} {r : Ro} (h : RoC w b p r) (x : Int) : RoC (w.setCell ⟨b, p + 3, none⟩ (.int .i64 x)) b p { r with waits := x } := by
  have o : ∀ q, q ≠ 3 → (w.setCell ⟨b, p + 3, none⟩ (.int .i64 x)).cell? ⟨b, p + q, none⟩ = w.cell? ⟨b, p + q, none⟩ := fun q hq => World.cell?_setCell_other _ _ _ _ (fun e => by injection e with _ e _; omega)
  exact ⟨(o 0 (by omega)).trans h.cell, (o 1 (by omega)).trans h.target, (o 2 (by omega)).trans h.moves, World.cell?_setCell_same _ _ _ h.waits, (o 4 (by omega)).trans h.done⟩
theorem RoC.setMoves {w : World} {b p : Nat} {r : Ro} (h : RoC w b p r) (x : Int) : RoC (w.setCell ⟨b, p + 2, none⟩ (.int .i64 x)) b p { r with moves := x } := by
  have o : ∀ q, q ≠ 2 → (w.setCell ⟨b, p + 2, none⟩ (.int .i64 x)).cell? ⟨b, p + q, none⟩ = w.cell? ⟨b, p + q, none⟩ := fun q hq => World.cell?_setCell_other _ _ _ _ (fun e => by injection e with _ e _; omega)
  exact ⟨(o 0 (by omega)).trans h.cell, (o 1 (by omega)).trans h.target, World.cell?_setCell_same _ _ _ h.moves, (o 3 (by omega)).trans h.waits, (o 4 (by omega)).trans h.done⟩
theorem RoC.setCel {w : World} {b p : Nat} {r : Ro} (h : RoC w b p r) (x : Int) : RoC (w.setCell ⟨b, p + 0, none⟩ (.int .i64 x)) b p { r with cell := x } := by
  have o : ∀ q, q ≠ 0 → (w.setCell ⟨b, p + 0, none⟩ (.int .i64 x)).cell? ⟨b, p + q, none⟩ = w.cell? ⟨b, p + q, none⟩ := fun q hq => World.cell?_setCell_other _ _ _ _ (fun e => by injection e with _ e _; omega)
  exact ⟨World.cell?_setCell_same _ _ _ h.cell, (o 1 (by omega)).trans h.target, (o 2 (by omega)).trans h.moves, (o 3 (by omega)).trans h.waits, (o 4 (by omega)).trans h.done⟩
/-- A slice of the fleet's own robots, in block R. -/
structure RobR (w : World) (R : Nat) (v : Value) (L : List Ro) : Prop where
  slc : ∃ a c, v = .slice a L.length c ∧ (0 < L.length → a = some ⟨R, 0, none⟩)
  blk : 0 < L.length → ∃ cur, Blk w R 76 cur ∧ L.length * 5 ≤ cur.size
  each : ∀ j, j < L.length → RoC w R (j * 5) (L.getD j .zero)
theorem RobR.rd {w : World} {R : Nat} {v : Value} {L : List Ro} (h : RobR w R v L) : RoS w v L := by
  obtain ⟨a, c, h1, h2⟩ := h.slc
  exact ⟨a, R, 0, c, h1, h2, fun j hj => by rw [Nat.zero_add]; exact h.each j hj⟩
theorem RobR.keep {w w' : World} {R : Nat} {v : Value} {L : List Ro} (h : RobR w R v L) (hk : 0 < L.length → w'.heap[R]? = w.heap[R]?) : RobR w' R v L :=
  ⟨h.slc, fun h0 => by obtain ⟨cur, h1, h2⟩ := h.blk h0; exact ⟨cur, (hk h0).trans h1, h2⟩, fun j hj => (h.each j hj).of_eq fun j' => World.cell?_of_block (w := w) (a := ⟨R, j', none⟩) (hk (by omega))⟩
theorem RobR.below {w w' : World} {R : Nat} {v : Value} {L : List Ro} (h : RobR w R v L) (hb : Below w.heap.size w w') : RobR w' R v L :=
  h.keep fun h0 => by obtain ⟨cur, h1, _⟩ := h.blk h0; exact hb.block R h1.lt
theorem RobR.rf {w0 w : World} {R : Nat} {v : Value} {L : List Ro} (h : RobR w R v L) (hR : w0.heap.size ≤ R) : ∃ bl, RoF w v L bl ∧ Fr w0 w bl := by
  obtain ⟨a, c, h1, h2⟩ := h.slc
  by_cases h0 : 0 < L.length
  · obtain ⟨cur, hb, _⟩ := h.blk h0
    exact ⟨_, ⟨a, R, 0, c, h1, h2, rfl, fun j _ => by rw [Nat.zero_add]; exact hb.frozen j, fun j hj => by rw [Nat.zero_add]; exact h.each j hj⟩, Fr.one hR hb.lt _⟩
  · exact ⟨[], ⟨a, R, 0, c, h1, h2, by rw [if_neg h0], fun j hj => absurd hj (by omega), fun j hj => absurd hj (by omega)⟩, Fr.nil _ _⟩
theorem rob_set_eq {L : List Ro} {i : Nat} (h : i < L.length) (r : Ro) : (L.set i r).getD i .zero = r := by
  rw [List.getD_eq_getElem?_getD, List.getElem?_set_self h]; rfl
theorem rob_set_ne {L : List Ro} {i j : Nat} (h : i ≠ j) (r : Ro) : (L.set i r).getD j .zero = L.getD j .zero := by
  rw [List.getD_eq_getElem?_getD, List.getElem?_set_ne h, ← List.getD_eq_getElem?_getD]
/-- A block of another type is another. -/
theorem rob_ne {W : World} {R O : Nat} {rv : Value} {L : List Ro} {t : TypeId} {cs : Array Value} (h : RobR W R rv L) (h0 : 0 < L.length) (hO : Blk W O t cs) (ht : t ≠ 76) : R ≠ O := fun e => by
  obtain ⟨cur, h1, _⟩ := h.blk h0
  rw [e] at h1
  unfold Blk at h1 hO
  rw [hO] at h1
  injection h1 with h1
  injection h1 with _ h2
  exact ht h2
/-- A cell of a block of another type was written. -/
theorem RobR.set_other {W : World} {R O : Nat} {rv : Value} {L : List Ro} {t : TypeId} {cs : Array Value} (h : RobR W R rv L) (hO : Blk W O t cs) (ht : t ≠ 76) (k : Nat) (u : Value) : RobR (W.setCell ⟨O, k, none⟩ u) R rv L :=
  h.keep fun h0 => by
    obtain ⟨cur, h1, _⟩ := h.blk h0
    exact Below.heap_setCell _ _ _ _ (fun e => by
      rw [e] at h1
      unfold Blk at h1 hO
      rw [hO] at h1
      injection h1 with h1
      injection h1 with _ h2
      exact ht h2)
/-- One robot was changed. -/
theorem RobR.set1 {W : World} {R : Nat} {rv : Value} {L : List Ro} (h : RobR W R rv L) {i k : Nat} (hi : i < L.length) (hk : k < 5) (u : Value) (r' : Ro) (hr : RoC (W.setCell ⟨R, i * 5 + k, none⟩ u) R (i * 5) r') : RobR (W.setCell ⟨R, i * 5 + k, none⟩ u) R rv (L.set i r') := by
  refine ⟨?_, fun _ => ?_, fun j hj => ?_⟩
  · obtain ⟨a, c, h1, h2⟩ := h.slc
    exact ⟨a, c, by rw [List.length_set]; exact h1, by rw [List.length_set]; exact h2⟩
  · obtain ⟨cur, h1, h2⟩ := h.blk (by omega)
    exact ⟨_, h1.set _ u, by rw [List.length_set]; simpa using h2⟩
  · rw [List.length_set] at hj
    by_cases e : j = i
    · subst e; rw [rob_set_eq hj]; exact hr
    · rw [rob_set_ne (fun q => e q.symm)]
      have h1 := h.each j hj
      have key : ∀ q, q < 5 → (W.setCell ⟨R, i * 5 + k, none⟩ u).cell? ⟨R, j * 5 + q, none⟩ = W.cell? ⟨R, j * 5 + q, none⟩ := fun q hq => World.cell?_setCell_other _ _ _ _ (fun e2 => by
        injection e2 with _ e3 _
        omega)
      exact roc_of fun q hq => (key q hq).trans (roc_cell h1 hq)
/-- New robots. -/
def RoNw (w w' : World) (v : Value) (L : List Ro) : Prop := ∃ bl, RoF w' v L bl ∧ Fr w w' bl
theorem ro_nil (w w' : World) (c : Nat) : RoNw w w' (.slice none 0 c) [] := ⟨[], ⟨none, 0, 0, c, rfl, fun h => absurd h (by decide), rfl, fun j hj => absurd hj (Nat.not_lt_zero _), fun j hj => absurd hj (Nat.not_lt_zero _)⟩, Fr.nil _ _⟩
/-- A row of the call's own. -/
theorem own_rob {w : World} {B : Nat} {v : Value} {L : List Ro} (h : w.ownsRow B 76 5 v L.length (rocs L)) : ∃ R, RobR w R v L ∧ B ≤ R := by
  obtain ⟨hl, h⟩ := h
  rcases h with ⟨rfl, h0⟩ | ⟨g, c, cur, rfl, hb, hg, hn, _, hcz, ht⟩
  · exact ⟨B, ⟨⟨none, 0, by rw [h0], fun h => absurd h (by omega)⟩, fun h => absurd h (by omega), fun j hj => absurd hj (by omega)⟩, Nat.le_refl _⟩
  · refine ⟨g, ⟨⟨_, c, rfl, fun _ => rfl⟩, fun _ => ⟨cur, hg, by rw [hcz]; exact Nat.mul_le_mul_right _ hn⟩, fun j hj => roc_of fun i hi => ?_⟩, hb⟩
    have hp : L[j]? = some (L.getD j .zero) := by rw [List.getD_eq_getElem?_getD, List.getElem?_eq_getElem hj]; rfl
    rw [← rocs_at L j _ hp i hi, ← ht]
    have hlt : j * 5 + i < L.length * 5 := by
      have : (j + 1) * 5 ≤ L.length * 5 := Nat.mul_le_mul_right _ hj
      omega
    rw [List.getElem?_take, if_pos hlt, Array.getElem?_toList]
    simp [World.cell?, hg]
theorem own_rob_at {w : World} {B : Nat} {v : Value} {L : List Ro} (h : w.ownsRow B 76 5 v L.length (rocs L)) (N : Nat) (hN : B ≤ N) : ∃ R, RobR w R v L ∧ B ≤ R ∧ (R < w.heap.size ∨ R = N) := by
  by_cases h0 : 0 < L.length
  · obtain ⟨R, h1, h2⟩ := own_rob h
    obtain ⟨cur, h3, _⟩ := h1.blk h0
    exact ⟨R, h1, h2, .inl h3.lt⟩
  · obtain ⟨R, h1, _⟩ := own_rob h
    obtain ⟨a, c, h3, h4⟩ := h1.slc
    exact ⟨N, ⟨⟨a, c, h3, fun q => absurd q h0⟩, fun q => absurd q h0, fun j hj => absurd hj (by omega)⟩, hN, .inr rfl⟩
theorem rob_own {w : World} {c : Nat} {L : List Ro} {ad : Addr} (hs : RoS w (.slice (some ad) L.length c) L) : ∀ j u, (rocs L)[j]? = some u → w.cell? (ad.add j) = some u := by
  intro j u hj
  have hjl : j < L.length * 5 := by
    rcases Nat.lt_or_ge j (L.length * 5) with h | h
    · exact h
    · rw [List.getElem?_eq_none (by rw [rocs_length]; exact h)] at hj; cases hj
  obtain ⟨a, b, o, c', h1, h2, h3⟩ := hs
  have h0 : 0 < L.length := by omega
  have e0 := h2 h0
  injection h1 with h1 _ _
  rw [e0] at h1
  injection h1 with h1
  subst h1
  have e : (⟨b, o, none⟩ : Addr).add j = ⟨b, o + j, none⟩ := by unfold Addr.add; split <;> simp_all
  have hd : j / 5 < L.length := by omega
  have hp : L[j / 5]? = some (L.getD (j / 5) .zero) := by rw [List.getD_eq_getElem?_getD, List.getElem?_eq_getElem hd]; rfl
  have h4 := rocs_at L (j / 5) _ hp (j % 5) (Nat.mod_lt _ (by decide))
  have h5 := roc_cell (h3 (j / 5) hd) (i := j % 5) (Nat.mod_lt _ (by decide))
  rw [show j / 5 * 5 + j % 5 = j by omega, hj] at h4
  rw [e, show o + j = o + j / 5 * 5 + j % 5 by omega, h5, ← h4]

theorem Tryd.infoRo : (Tryd.prog.info? 76).map (fun i => (i.zero, i.size, i.bytes)) = some (some (.agg #[.int .i64 0, .int .i64 0, .int .i64 0, .int .i64 0, .bool false]), 5, 40) := by kernel_rfl

/-- append of robots onto nothing. -/
theorem wp_app_ro {ops : Array Oper} {rest : List Oper} {o : Oper} {a : Act} {Q : Exit → Act → World → Prop} {w : World} (hgd : o.guard = none) (s x : Operand)
    (ho : o.op = .call { callee := .builtin .append, args := #[s, x], argTypes := #[49, 49] }) (B : Nat) (hs : a.eval s = .slice none 0 0) (u : Value) (L : List Ro) (hx : a.eval x = u) (hu : RoS w u L) (hn : Nn u) (hlen : L.length ≤ 1048576) (hbase : B ≤ w.heap.size)
    (h : ∀ a' c' w', w'.ownsRow B 76 5 (.slice a' L.length c') L.length (rocs L) → Nn (.slice a' L.length c') → Below w.heap.size w w' → wpList Tryd.prog ops Q rest (a.put o.dst (.slice a' L.length c')) w') : wpList Tryd.prog ops Q (o :: rest) a w := by
  obtain ⟨i5, hi5, hz5, hs5, hy5⟩ := info_parts Tryd.infoRo
  obtain ⟨au, cu, rfl⟩ := hu.slice
  cases au with
  | none =>
    obtain rfl : cu = 0 := hn _ _ rfl
    have h0 : L = [] := by
      obtain ⟨a, b, o, c', h1, h2, h3⟩ := hu
      rcases Nat.eq_zero_or_pos L.length with q | q
      · exact List.length_eq_zero_iff.1 q
      · rw [h2 q] at h1; cases h1
    subst h0
    exact wpList_append_own_none hgd s x 49 ho B 76 i5 5 Tryd.underlying49 hi5 (.slice none 0 0) 0 [] hs (World.ownsRow_nil _ _ _ _) hx (h none 0 w (World.ownsRow_nil _ _ _ _) (fun n c e => by cases e; rfl) (Below.refl _ _))
  | some ad =>
    refine wpList_append_own _ hgd s x 49 ho B 76 i5 _ 5 40 Tryd.underlying49 hi5 hz5 hs5 hy5 rfl (by decide) (.slice none 0 0) 0 [] hs (World.ownsRow_nil _ _ _ _) ad L.length cu (rocs L) hx (rocs_length L) (rob_own hu) (rocs_one _) (by unfold maxLen; omega) (by omega) hbase (fun v' w' h1 h2 h3 => ?_)
    rw [Nat.zero_add, List.nil_append] at h1
    have hb : Below w.heap.size w w' := ⟨h2.os, h2.tape, h2.output, h2.size, fun k hk => h2.block k hk (by simp [Value.ownBlock])⟩
    rcases h1.2 with ⟨hv, h0⟩ | ⟨g, c, cur, hv, _⟩
    · have := h none 0 w' (by rw [h0]; rw [hv, h0] at h1; exact h1) (fun n c e => by cases e; rfl) hb
      rw [hv]
      rw [h0] at this
      exact this
    · rw [hv] at h1 ⊢
      exact h _ _ w' h1 (fun n c e => by cases e) hb

set_option maxHeartbeats 1000000 in
set_option maxRecDepth 1000000 in
theorem cloneRo_any (v : Value) (L : List Ro) (w : World) (hs : L.length ≤ 1048576) (h : RoS w v L) :
    Calls Tryd.prog 76 #[v] w fun e w' => ∃ u, e = .returned u ∧ w'.ownsRow w.heap.size 76 5 u L.length (rocs L) ∧ Below w.heap.size w w' := by
  have hsl := h.slice
  obtain ⟨a, c, rfl⟩ := hsl
  cases a with
  | none =>
    have h0 : L = [] := by
      obtain ⟨a, b, o, c', h1, h2, h3⟩ := h
      rcases Nat.eq_zero_or_pos L.length with q | q
      · exact List.length_eq_zero_iff.1 q
      · rw [h2 q] at h1; cases h1
    subst h0
    have hnil : (binOp BinOp.eql 49 (.slice none 0 c) (.slice none 0 0)).run Tryd.prog w = .ok (.bool true) w := by
      first | rfl | simp [binOp, go_sem]
    clear h
    show Calls _ _ #[.slice none 0 c] _ _
    go_enter Tryd.func76, Tryd.ntmps76
    go_wp2
    go_ret
    exact ⟨_, rfl, World.ownsRow_nil _ _ _ _, Below.refl _ _⟩
  | some ad =>
    obtain ⟨i5, hi5, hz5, hs5, hy5⟩ := info_parts Tryd.infoRo
    have hnil : (binOp BinOp.eql 49 (.slice (some ad) L.length c) (.slice none 0 0)).run Tryd.prog w = .ok (.bool false) w := by
      first | rfl | simp [binOp, go_sem]
    have HOW : Hid ((w.alloc (.cells #[] 76)).ownsRow w.heap.size 76 5 (.slice (some ⟨w.heap.size, 0, none⟩) 0 0) 0 []) := ⟨rfl, .inr ⟨w.heap.size, 0, #[], rfl, Nat.le_refl _, Blk.new w _ _, Nat.le_refl _, by unfold maxLen; omega, rfl, rfl⟩⟩
    have HNM : Hid (∀ j u, (rocs L)[j]? = some u → (w.alloc (.cells #[] 76)).cell? (ad.add j) = some u) := rob_own (h.below ((Below.refl _ _).alloc (Nat.le_refl _) _))
    have HLN := hide (rocs_length L)
    clear h
    go_enter Tryd.func76, Tryd.ntmps76
    go_wp2_with (at_builtin; refine wpList_append_own (w := w.alloc (.cells #[] 76)) rfl _ _ 49 rfl w.heap.size 76 i5 _ 5 40 Tryd.underlying49 hi5 hz5 hs5 hy5 rfl (by decide) (.slice (some ⟨w.heap.size, 0, none⟩) 0 0) 0 [] rfl HOW.out ad L.length c (rocs L) rfl HLN.out HNM.out (rocs_one _) (by unfold maxLen; omega) (by omega) (by rw [World.size_alloc]; omega) ?_)
    intro v' w4 hown hg _
    have HO4 := hide hown
    have HB4 : Hid (Below w.heap.size w w4) := ((Below.refl _ w).alloc (Nat.le_refl _) _).grown hg (by rw [World.size_alloc]; omega) (fun k hk => (HOW.out.lt k hk).1)
    clear hown hg
    go_wp2
    go_ret
    exact ⟨_, rfl, HO4.out, HB4.out⟩
end Go.Proofs.YteicpjbeihabnaaDoor

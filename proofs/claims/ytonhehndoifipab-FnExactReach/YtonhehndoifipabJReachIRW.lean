/-
  The row of what is still to be done: take and put.
-/
import Derived.Test.YtonhehndoifipabJReachRC
import Derived.Test.YtonhehndoifipabJReachRFL
import Derived.BigQuiet
import Derived.Deep.QuietTactic
namespace Go.Proofs.Ytonhehndoifipab
open Go.RowKit

/-- Numbers as cells. -/
def cis (l : List Int) : List Value := l.map fun n : Int => Value.int .i64 n
theorem cis_length (l : List Int) : (cis l).length = l.length := by simp [cis]
theorem cis_append (a b : List Int) : cis (a ++ b) = cis a ++ cis b := by simp [cis]
theorem cis_one (l : List Int) : ∀ u ∈ cis l, u.oneCell' = true := by
  intro u hu
  unfold cis at hu
  obtain ⟨n, _, rfl⟩ := List.mem_map.1 hu
  rfl
/-- A slice of the call's own holds these numbers. -/
def IOw (w : World) (G : Nat) (v : Value) (L : List Int) : Prop := w.ownsRow G 3 1 v L.length (cis L)
theorem IOw.nil (w : World) (G : Nat) : IOw w G (.slice none 0 0) [] := World.ownsRow_nil _ _ _ _
/-- What is changed: cells of the blocks A, blocks from G on. -/
structure Chg (A : List Nat) (G : Nat) (w w' : World) : Prop where
  os : w'.os = w.os
  tape : w'.tape = w.tape
  output : w'.output = w.output
  blk : ∀ k, k < G → k ∉ A → w'.heap[k]? = w.heap[k]?
  typ : ∀ k t cs, k ∉ A → t ≠ 3 → Blk w k t cs → Blk w' k t cs
  oth : KeepsOthers w w'
theorem Chg.refl (A : List Nat) (G : Nat) (w : World) : Chg A G w w := ⟨rfl, rfl, rfl, fun _ _ _ => rfl, fun _ _ _ _ _ h => h, KeepsOthers.refl _⟩
theorem Chg.trans {A : List Nat} {G : Nat} {a b c : World} (h : Chg A G a b) (k : Chg A G b c) : Chg A G a c :=
  ⟨k.os.trans h.os, k.tape.trans h.tape, k.output.trans h.output, fun j h1 h2 => (k.blk j h1 h2).trans (h.blk j h1 h2), fun j t cs h1 h2 h3 => k.typ j t cs h1 h2 (h.typ j t cs h1 h2 h3), h.oth.trans k.oth⟩
theorem Chg.mono {A A' : List Nat} {G : Nat} {a b : World} (h : Chg A G a b) (hs : ∀ k ∈ A, k ∈ A') : Chg A' G a b := ⟨h.os, h.tape, h.output, fun j h1 h2 => h.blk j h1 (fun e => h2 (hs j e)), fun j t cs h1 h2 h3 => h.typ j t cs (fun e => h1 (hs j e)) h2 h3, h.oth⟩
theorem Chg.below {A : List Nat} {G B : Nat} {a b : World} (h : Chg A G a b) (hA : ∀ k ∈ A, B ≤ k) (hG : B ≤ G) : Below B a b :=
  ⟨h.os, h.tape, h.output, h.oth.size, fun k hk => h.blk k (by omega) (fun e => by have := hA k e; omega)⟩
theorem Chg.of_below {A : List Nat} {G : Nat} {a b : World} (h : Below a.heap.size a b) (hG : G ≤ a.heap.size) : Chg A G a b :=
  ⟨h.os, h.tape, h.output, fun k hk _ => h.block k (by omega), fun _ _ _ _ _ h1 => h1.below h, ⟨h.size, fun k o hk _ => by rw [h.block k (Array.getElem?_eq_some_iff.1 hk).1]; exact hk⟩⟩
theorem Chg.drew (A : List Nat) (G : Nat) (w : World) : Chg A G w w.drew := ⟨rfl, rfl, rfl, fun _ _ _ => rfl, fun _ _ _ _ _ h => h, KeepsOthers.drew _⟩
theorem Chg.set {A : List Nat} {G : Nat} {w : World} {b o : Nat} {v : Value} (hb : b ∈ A) : Chg A G w (w.setCell ⟨b, o, none⟩ v) :=
  ⟨rfl, rfl, rfl, fun k _ hk => Below.heap_setCell _ _ _ _ (fun e => hk (by rw [e]; exact hb)), fun k _ _ hk _ h1 => (Below.heap_setCell _ _ _ _ (fun e => hk (by rw [e]; exact hb))).trans h1, KeepsOthers.setCell _ _ _⟩
theorem IOw.kept {w w' : World} {G : Nat} {v : Value} {L : List Int} (h : IOw w G v L) (hb : Below w.heap.size w w') : IOw w' G v L :=
  World.ownsRow.kept h (row := none) ⟨hb.os, hb.tape, hb.output, hb.size, fun k hk _ => hb.block k hk⟩ (by cases v.ownBlock <;> simp)
/-- A slice of the first numbers of such a row. -/
theorem IOw.cut {w : World} {G g c : Nat} {L : List Int} {x : Int} (h : IOw w G (.slice (some ⟨g, 0, none⟩) (L ++ [x]).length c) (L ++ [x])) : IOw w G (.slice (some ⟨g, 0, none⟩) L.length c) L := by
  obtain ⟨h1, h2⟩ := h
  refine ⟨by rw [cis_length, Nat.mul_one], ?_⟩
  rcases h2 with ⟨h3, _⟩ | ⟨g', c', cur, hv, hb, hg, hn, hm, hs, ht⟩
  · cases h3
  · cases hv
    refine .inr ⟨g, c, cur, rfl, hb, hg, ?_, hm, hs, ?_⟩
    · rw [List.length_append, List.length_singleton] at hn; omega
    · rw [Nat.mul_one] at ht ⊢
      have : List.take L.length (List.take (L ++ [x]).length cur.toList) = List.take L.length (cis (L ++ [x])) := by rw [ht]
      rw [List.take_take, List.length_append, List.length_singleton, Nat.min_eq_left (by omega), cis_append] at this
      rw [this, List.take_append_of_le_length (by rw [cis_length]; exact Nat.le_refl _), ← cis_length L, List.take_length]
theorem Try.infoJ : (Try.prog.info? 3).map (fun i => (i.zero, i.size, i.bytes)) = some (some (.int .i64 0), 1, 8) := by kernel_rfl
theorem info_partsJ {P : Program} {t : TypeId} {z : Value} {a b : Nat} (h : (P.info? t).map (fun i => (i.zero, i.size, i.bytes)) = some (some z, a, b)) : ∃ i, P.info? t = some i ∧ i.zero = some z ∧ i.size = a ∧ i.bytes = b := by
  cases hi : P.info? t with
  | none => rw [hi] at h; cases h
  | some i => rw [hi] at h; simp at h; exact ⟨i, rfl, h.1, h.2.1, h.2.2⟩
/-- append of one number onto a row of the call's own. -/
theorem wp_appJ {ops : Array Oper} {rest : List Oper} {o : Oper} {a : Act} {Q : Exit → Act → World → Prop} {w : World} (hgd : o.guard = none) (s x : Operand)
    (ho : o.op = .call { callee := .builtin .append, args := #[s, x], argTypes := #[22, 22] }) (G : Nat) (v : Value) (xs : List Int) (hs : a.eval s = v) (hown : IOw w G v xs)
    (g c : Nat) (y : Int) (hx : a.eval x = .slice (some ⟨g, 0, none⟩) 1 c) (hnew : w.cell? ⟨g, 0, none⟩ = some (.int .i64 y)) (hlen : xs.length ≤ 10000000) (hbase : G ≤ w.heap.size)
    (h : ∀ v' w', IOw w' G v' (xs ++ [y]) → w.grownBy w' v.ownBlock → wpList Try.prog ops Q rest (a.put o.dst v') w') : wpList Try.prog ops Q (o :: rest) a w := by
  obtain ⟨i0, hi, hz0, hz1, hz2⟩ := info_partsJ Try.infoJ
  refine wpList_append_own _ hgd s x 22 ho G 3 i0 (.int .i64 0) 1 8 Try.underlying22 hi hz0 hz1 hz2 rfl (by decide) v xs.length (cis xs) hs hown ⟨g, 0, none⟩ 1 c (cis [y]) hx (cis_length [y]) (fun j u hj => ?_) (cis_one _) (by unfold maxLen; omega) (by omega) hbase (fun v' w' h1 h2 _ => ?_)
  · have hj0 : j = 0 := by
      rcases Nat.lt_or_ge j 1 with h | h
      · omega
      · rw [List.getElem?_eq_none (by rw [cis_length]; exact h)] at hj; cases hj
    subst hj0
    have e : (⟨g, 0, none⟩ : Addr).add 0 = ⟨g, 0, none⟩ := by unfold Addr.add; split <;> simp_all
    rw [e, hnew]
    exact hj
  · refine h v' w' ?_ h2
    unfold IOw
    rw [List.length_append, cis_append]
    exact h1

set_option maxHeartbeats 1000000 in
set_option maxRecDepth 1000000 in
theorem put_any (RW G : Nat) (v : Value) (L : List Int) (x : Int) (w : World) (hbx : Boxed w RW 45 v) (ho : IOw w G v L) (hRG : RW < G) (hGz : G ≤ w.heap.size) (hL : L.length ≤ 100000) :
    Calls Try.prog 23 #[.pointer (some ⟨RW, 0, none⟩), .int .i64 x] w fun e w' => (∃ u, e = .returned u) ∧ ∃ v', Boxed w' RW 45 v' ∧ IOw w' G v' (L ++ [x]) ∧ Chg [RW] G w w' := by
  have c0 := hbx.cell
  have HBX := hide hbx
  have HO1 := hide (ho.kept ((Below.refl _ w).alloc (Nat.le_refl _) (.cells #[.int .i64 x] 3)))
  have HG1 : Hid (G ≤ (w.alloc (.cells #[.int .i64 x] 3)).heap.size) := by show _ ≤ _; rw [World.size_alloc]; omega
  have HN1 : Hid ((w.alloc (.cells #[.int .i64 x] 3)).cell? ⟨w.heap.size, 0, none⟩ = some (.int .i64 x)) := by show _ = _; simp
  have HC1 : Hid (Chg [RW] G w (w.alloc (.cells #[.int .i64 x] 3))) := Chg.of_below ((Below.refl _ w).alloc (Nat.le_refl _) _) hGz
  clear hbx ho
  go_enter Try.func23, Try.ntmps23
  go_wp2_with (at_builtin; refine wp_appJ rfl (.tmp 8) (.tmp 10) rfl G v L rfl HO1.out w.heap.size 1 x rfl HN1.out (by omega) HG1.out ?_)
  intro v' w' ho' hg'
  have hb1 := HBX.out.alloc (.cells #[.int .i64 x] 3)
  have hb2 : Boxed w' RW 45 v := hb1.kept hg' (hb1.not_row (by decide) HO1.out)
  have hch : Chg [RW] G (w.alloc (.cells #[.int .i64 x] 3)) w' := ⟨hg'.os, hg'.tape, hg'.output, fun k hk _ => hg'.block k (by have := HG1.out; omega) (fun e => by have h1 := (World.ownsRow.lt HO1.out k e.symm).1; omega), (fun k t cs _ ht h1 => (hg'.block k h1.lt (fun e => by
    rcases HO1.out.2 with ⟨h2, _⟩ | ⟨g, c, cur, hv, _, hgc, _⟩
    · rw [h2] at e; cases e
    · rw [hv] at e; cases e
      have h3 : (w.alloc (.cells #[.int .i64 x] 3)).heap[g]? = _ := h1
      rw [hgc] at h3; cases h3; exact ht rfl)).trans h1), KeepsOthers.of_grownBy hg' (fun j o e ho => by
    rcases HO1.out.2 with ⟨h1, _⟩ | ⟨g, c, cur, hv, _, hgc, _⟩
    · rw [h1] at e; cases e
    · rw [hv] at e; cases e
      rw [hgc] at ho; cases ho; rfl)⟩
  obtain ⟨g', c', rfl⟩ : ∃ g c, v' = .slice (some ⟨g, 0, none⟩) (L ++ [x]).length c := by
    rcases ho'.2 with ⟨_, h0⟩ | ⟨g, c, cur, hv, _⟩
    · rw [List.length_append, List.length_singleton] at h0; omega
    · exact ⟨g, c, hv⟩
  have f0 := hb2.cell
  have f1 := hb2.frozen
  have HB3 := hide (hb2.set (.slice (some ⟨g', 0, none⟩) (L ++ [x]).length c'))
  have HO3 : Hid (IOw (w'.setCell ⟨RW, 0, none⟩ (.slice (some ⟨g', 0, none⟩) (L ++ [x]).length c')) G (.slice (some ⟨g', 0, none⟩) (L ++ [x]).length c') (L ++ [x])) :=
    World.ownsRow.kept ho' (row := some RW) (grownBy_setCell' _ _ _) (by
      right
      intro e
      have := (World.ownsRow.lt ho' RW e).1
      omega)
  have HCH : Hid (Chg [RW] G w (w'.setCell ⟨RW, 0, none⟩ (.slice (some ⟨g', 0, none⟩) (L ++ [x]).length c'))) := (HC1.out.trans hch).trans (Chg.set (List.mem_singleton.2 rfl))
  rw [List.length_append, List.length_singleton] at HB3 HO3 HCH
  clear ho' hg' hb1 hb2 hch
  go_wp2
  refine ⟨rfl, _, results_none rfl _ _ _, ⟨_, rfl⟩, _, HB3.out, ?_, HCH.out⟩
  exact HO3.out

set_option maxHeartbeats 1000000 in
set_option maxRecDepth 1000000 in
theorem take_nil (RW G : Nat) (v : Value) (w : World) (hbx : Boxed w RW 45 v) (ho : IOw w G v []) :
    Calls Try.prog 30 #[.pointer (some ⟨RW, 0, none⟩)] w fun e w' => e = .returned (.tuple #[.int .i64 0, .bool false]) ∧ w' = w := by
  have c0 := hbx.cell
  obtain ⟨a, c, rfl⟩ : ∃ a c, v = .slice a 0 c := by
    rcases ho.2 with ⟨h1, _⟩ | ⟨g, c, cur, hv, _⟩
    · exact ⟨none, 0, h1⟩
    · exact ⟨_, c, hv⟩
  clear hbx ho
  go_enter Try.func30, Try.ntmps30
  go_wp2
  go_ret2
  exact ⟨rfl, rfl⟩

set_option maxHeartbeats 1000000 in
set_option maxRecDepth 1000000 in
theorem take_one (RW G : Nat) (v : Value) (L : List Int) (x : Int) (w : World) (hbx : Boxed w RW 45 v) (ho : IOw w G v (L ++ [x])) (hRG : RW < G) (hL : L.length ≤ 100000) :
    Calls Try.prog 30 #[.pointer (some ⟨RW, 0, none⟩)] w fun e w' => e = .returned (.tuple #[.int .i64 x, .bool true]) ∧ ∃ v', Boxed w' RW 45 v' ∧ IOw w' G v' L ∧ Chg [RW] G w w' := by
  have c0 := hbx.cell
  have f0 := hbx.frozen
  obtain ⟨g, c, rfl⟩ : ∃ g c, v = .slice (some ⟨g, 0, none⟩) (L ++ [x]).length c := by
    rcases ho.2 with ⟨_, h0⟩ | ⟨g, c, cur, hv, _⟩
    · rw [List.length_append, List.length_singleton] at h0; omega
    · exact ⟨g, c, hv⟩
  have hx : w.cell? ⟨g, L.length, none⟩ = some (.int .i64 x) := by
    have := World.ownsRow.cellAt ho L.length (by rw [List.length_append, List.length_singleton]; omega)
    rw [this, cis_append, List.getElem?_append_right (by rw [cis_length]; exact Nat.le_refl _), cis_length, Nat.sub_self]
    rfl
  have hc : L.length + 1 ≤ c := by
    rcases ho.2 with ⟨h1, _⟩ | ⟨g, c, cur, hv, _, _, hn, _⟩
    · cases h1
    · cases hv; rw [List.length_append, List.length_singleton] at hn; exact hn
  have HCUT := hide ho.cut
  have HBX := hide hbx
  have hgG : G ≤ g := by
    rcases ho.2 with ⟨h1, _⟩ | ⟨g, c, cur, hv, hb, _⟩
    · cases h1
    · cases hv; exact hb
  rw [List.length_append, List.length_singleton] at c0
  have hci : (L.length : Int) ≤ (c : Int) := by omega
  have hwr : IntKind.i64.wrap ((L.length : Int) + 1 - 1) = (L.length : Int) := by rw [IntKind.wrap_i64]; omega
  clear hbx ho
  go_enter Try.func30, Try.ntmps30
  have HO1 : Hid (IOw (w.drew.setCell ⟨RW, 0, none⟩ (.slice (some ⟨g, 0, none⟩) L.length c)) G (.slice (some ⟨g, 0, none⟩) L.length c) L) :=
    World.ownsRow.kept (w := w.drew) HCUT.out (row := some RW) (grownBy_setCell' _ _ _) (by
      right
      intro e
      have e' : g = RW := Option.some.inj e
      omega)
  have HB1 : Hid (Boxed (w.drew.setCell ⟨RW, 0, none⟩ (.slice (some ⟨g, 0, none⟩) L.length c)) RW 45 (.slice (some ⟨g, 0, none⟩) L.length c)) := Boxed.set (W := w.drew) _ HBX.out
  have HC1 : Hid (Chg [RW] G w (w.drew.setCell ⟨RW, 0, none⟩ (.slice (some ⟨g, 0, none⟩) L.length c))) := (Chg.drew _ _ _).trans (Chg.set (List.mem_singleton.2 rfl))
  go_wp2_with fail
  go_region
  go_wp2
  go_ret2
  exact ⟨rfl, _, HB1.out, HO1.out, HC1.out⟩
end Go.Proofs.Ytonhehndoifipab

/-
  A row of rows of edges, each of the call's own.
  A graph under way: what spec.l5graph holds.
-/
import Derived.Test.YtpoanbpgpgflcaaDoorJBgBGD
import Derived.Test.YtpoanbpgpgflcaaDoorJBgG4
import Derived.Test.YtpoanbpgpgflcaaDoorJBgSRF
import Derived.Test.YtpoanbpgpgflcaaDoorJBgGOI
namespace Go.Proofs.YtpoanbpgpgflcaaDoor
open Go.RowKit

theorem EsOw.apart {W W' : World} {B : Nat} {u v : Value} {L : List Ed} (h : EsOw W B u L) (hg : W.grownBy W' v.ownBlock) (ha : Apt u v) : EsOw W' B u L := World.ownsRow.kept h hg ha
theorem EsOw.lt {W : World} {B : Nat} {v : Value} {L : List Ed} (h : EsOw W B v L) : ∀ k, v.ownBlock = some k → B ≤ k ∧ k < W.heap.size := fun k hk => World.ownsRow.lt h k hk
theorem EsOw.slc {W : World} {B : Nat} {v : Value} {L : List Ed} (h : EsOw W B v L) : ∃ a c, v = .slice a L.length c := by
  rcases h.2 with ⟨h1, h0⟩ | ⟨g, c, cur, h1, _⟩
  · exact ⟨none, 0, by rw [h1, h0]⟩
  · exact ⟨_, c, h1⟩
/-- What is known of an append of an edge. -/
structure ApE (W W' : World) (B : Nat) (v v' : Value) (L : List Ed) : Prop where
  own : EsOw W' B v' L
  gr : W.grownBy W' v.ownBlock
  at' : v'.ownBlock = v.ownBlock ∨ v'.ownBlock = some W.heap.size
theorem wp_appEsA {ops : Array Oper} {rest : List Oper} {o : Oper} {a : Act} {Q : Exit → Act → World → Prop} {w : World} (hgd : o.guard = none) (s x : Operand)
    (ho : o.op = .call { callee := .builtin .append, args := #[s, x], argTypes := #[43, 43] }) (B : Nat) (v : Value) (xs : List Ed) (hs : a.eval s = v) (hown : EsOw w B v xs)
    (g c : Nat) (y : Ed) (hx : a.eval x = .slice (some ⟨g, 0, none⟩) 1 c) (hnews : ∀ i, i < 4 → w.cell? ⟨g, i, none⟩ = (edc y)[i]?) (hlen : xs.length ≤ 10000000) (hbase : B ≤ w.heap.size)
    (h : ∀ v' w', ApE w w' B v v' (xs ++ [y]) → wpList Tryd.prog ops Q rest (a.put o.dst v') w') : wpList Tryd.prog ops Q (o :: rest) a w := by
  obtain ⟨i0, hi, hz0, hz1, hz2⟩ := info_partsEsOw Tryd.infoEsOw
  refine wpList_append_own_at _ hgd s x 43 ho B 48 i0 _ 4 32 Tryd.underlying43 hi hz0 hz1 hz2 rfl (by decide) v xs.length (edcs xs) hs hown ⟨g, 0, none⟩ 1 c (edcs [y]) hx (edcs_length [y]) (fun j u hj => ?_) (edcs_one _) (by unfold maxLen; omega) (by omega) hbase (fun v' w' h1 h2 _ h4 => ?_)
  · have hjl : j < 4 := by
      rcases Nat.lt_or_ge j 4 with h | h
      · exact h
      · rw [List.getElem?_eq_none (by rw [edcs_length]; exact h)] at hj; cases hj
    have e : (⟨g, 0, none⟩ : Addr).add j = ⟨g, j, none⟩ := by unfold Addr.add; split <;> simp_all
    rw [e, hnews j hjl]
    have := edcs_at [y] 0 y rfl j hjl
    rw [Nat.zero_mul, Nat.zero_add] at this
    rw [← this]
    exact hj
  · refine h v' w' ⟨?_, h2, h4⟩
    unfold EsOw
    rw [List.length_append, edcs_append]
    exact h1
/-- .. as one step of a region that draws. -/
theorem step_appEsA {ops : Array Oper} {o : Oper} {a : Act} {w : World} {K : Act → World → Prop} {Q : Exit → Act → World → Prop} {E : Prop} (hgd : o.guard = none) (s x : Operand)
    (ho : o.op = .call { callee := .builtin .append, args := #[s, x], argTypes := #[43, 43] }) (B : Nat) (v : Value) (xs : List Ed) (hs : a.eval s = v) (hown : EsOw w B v xs)
    (g c : Nat) (y : Ed) (hx : a.eval x = .slice (some ⟨g, 0, none⟩) 1 c) (hnews : ∀ i, i < 4 → w.cell? ⟨g, i, none⟩ = (edc y)[i]?) (hlen : xs.length ≤ 10000000) (hbase : B ≤ w.heap.size)
    (h : ∀ v' w', ApE w w' B v v' (xs ++ [y]) → K (a.put o.dst v') w') :
    if Region.wanted o (yielded ops a.tmps) = true then Oper.wp Tryd.prog o a w K Q else E := by
  have hw : Region.wanted o (yielded ops a.tmps) = true := by simp [Region.wanted, hgd]
  rw [if_pos hw]
  obtain ⟨i0, hi, hz0, hz1, hz2⟩ := info_partsEsOw Tryd.infoEsOw
  have hn : ∀ j u, (edcs [y])[j]? = some u → w.cell? ((⟨g, 0, none⟩ : Addr).add j) = some u := fun j u hj => by
    have hjl : j < 4 := by
      rcases Nat.lt_or_ge j 4 with h | h
      · exact h
      · rw [List.getElem?_eq_none (by rw [edcs_length]; exact h)] at hj; cases hj
    have e : (⟨g, 0, none⟩ : Addr).add j = ⟨g, j, none⟩ := by unfold Addr.add; split <;> simp_all
    rw [e, hnews j hjl]
    have := edcs_at [y] 0 y rfl j hjl
    rw [Nat.zero_mul, Nat.zero_add] at this
    rw [← this]
    exact hj
  obtain ⟨v', w', hr, h1, h2, _, h4⟩ := run_append_own_at (P := Tryd.prog) w B 43 o.type 48 i0 _ 4 32 Tryd.underlying43 hi hz0 hz1 hz2 rfl (by decide) v xs.length (edcs xs) hown ⟨g, 0, none⟩ 1 c (edcs [y]) (edcs_length [y]) hn (edcs_one _) (by unfold maxLen; omega) (by omega) hbase
  unfold Oper.wp execOp
  simp only [ho, resolve, invoke, builtin, Sem.run_bind, Sem.run_pure, Result.andThen_ok, List.map_toArray, List.map_cons, List.map_nil, hs, hx, hr]
  refine h v' w' ⟨?_, h2, h4⟩
  unfold EsOw
  rw [List.length_append, edcs_append]
  exact h1
/-- .. of one number. -/
theorem step_app1 {ops : Array Oper} {o : Oper} {a : Act} {w : World} {K : Act → World → Prop} {Q : Exit → Act → World → Prop} {E : Prop} (hgd : o.guard = none) (s x : Operand)
    (ho : o.op = .call { callee := .builtin .append, args := #[s, x], argTypes := #[22, 22] }) (B : Nat) (v : Value) (xs : List Int) (hs : a.eval s = v) (hown : Ow w B v xs)
    (g c : Nat) (y : Int) (hx : a.eval x = .slice (some ⟨g, 0, none⟩) 1 c) (hnew : w.cell? ⟨g, 0, none⟩ = some (.int .i64 y)) (hlen : xs.length ≤ 10000000) (hbase : B ≤ w.heap.size)
    (h : ∀ v' w', Ap w w' B v v' (xs ++ [y]) → K (a.put o.dst v') w') :
    if Region.wanted o (yielded ops a.tmps) = true then Oper.wp Tryd.prog o a w K Q else E := by
  have hw : Region.wanted o (yielded ops a.tmps) = true := by simp [Region.wanted, hgd]
  rw [if_pos hw]
  obtain ⟨i0, hi, hz0, hz1, hz2⟩ := info_partsI Tryd.info3
  have hn : ∀ j u, (ci [y])[j]? = some u → w.cell? ((⟨g, 0, none⟩ : Addr).add j) = some u := fun j u hj => by
    match j, hj with
    | 0, hj =>
      have e : (⟨g, 0, none⟩ : Addr).add 0 = ⟨g, 0, none⟩ := by unfold Addr.add; split <;> simp_all
      rw [e, hnew, ← hj]
      rfl
  obtain ⟨v', w', hr, h1, h2, _, h4⟩ := run_append_own_at (P := Tryd.prog) w B 22 o.type 3 i0 (.int .i64 0) 1 8 Tryd.underlying22 hi hz0 hz1 hz2 rfl (by decide) v xs.length (ci xs) hown ⟨g, 0, none⟩ 1 c (ci [y]) (ci_length [y]) hn (ci_one _) (by unfold maxLen; omega) (by omega) hbase
  unfold Oper.wp execOp
  simp only [ho, resolve, invoke, builtin, Sem.run_bind, Sem.run_pure, Result.andThen_ok, List.map_toArray, List.map_cons, List.map_nil, hs, hx, hr]
  refine h v' w' ⟨?_, h2, h4⟩
  unfold Ow
  rw [List.length_append, ci_append]
  exact h1
theorem EsApt.new {W : World} {B : Nat} {u v v' : Value} {L : List Ed} (ha : Apt u v) (hu : EsOw W B u L) (hv : v'.ownBlock = v.ownBlock ∨ v'.ownBlock = some W.heap.size) : Apt u v' := by
  unfold Apt at *
  rcases hv with hv | hv
  · rw [hv]; exact ha
  · right
    rw [hv]
    intro e
    have := (hu.lt _ e).2
    omega
/-- One is put in another's place. -/
def upd {α : Type} (V : Nat → α) (c : Nat) (x : α) : Nat → α := fun j => if j = c then x else V j
theorem upd_eq {α : Type} (V : Nat → α) (c : Nat) (x : α) : upd V c x c = x := by unfold upd; rw [if_pos rfl]
theorem upd_ne {α : Type} (V : Nat → α) {c j : Nat} (x : α) (h : j ≠ c) : upd V c x j = V j := by unfold upd; rw [if_neg h]
/-- Rows of edges. -/
structure Rws (W : World) (B RB n : Nat) (V : Nat → Value) (L : Nat → List Ed) : Prop where
  bk : ∃ cur, Blk W RB 43 cur ∧ cur.size = n ∧ ∀ c, c < n → cur[c]? = some (V c)
  ow : ∀ c, c < n → EsOw W B (V c) (L c)
  ap : ∀ c d, c < n → d < n → c ≠ d → Apt (V c) (V d)
theorem Rws.keep {W W' : World} {B RB n : Nat} {V : Nat → Value} {L : Nat → List Ed} (h : Rws W B RB n V L) (hk : ∀ k t cs, t = 43 ∨ t = 48 → Blk W k t cs → Blk W' k t cs) : Rws W' B RB n V L := by
  obtain ⟨cur, h1, h2, h3⟩ := h.bk
  exact ⟨⟨cur, hk _ _ _ (.inl rfl) h1, h2, h3⟩, fun c hc => own_typed (h.ow c hc) fun g cur hg => hk g _ cur (.inr rfl) hg, h.ap⟩
theorem Rws.below {W W' : World} {B RB n : Nat} {V : Nat → Value} {L : Nat → List Ed} (h : Rws W B RB n V L) (hb : Below W.heap.size W W') : Rws W' B RB n V L := h.keep fun _ _ _ _ hk => hk.below hb
theorem Rws.cell {W : World} {B RB n : Nat} {V : Nat → Value} {L : Nat → List Ed} (h : Rws W B RB n V L) {c : Nat} (hc : c < n) : W.cell? ⟨RB, c, none⟩ = some (V c) ∧ W.frozen? ⟨RB, c, none⟩ = false := by
  obtain ⟨cur, h1, h2, h3⟩ := h.bk
  exact ⟨by rw [h1.cell, h3 c hc], h1.frozen c⟩
/-- An edge was appended to the row of c, and the row put back. -/
theorem Rws.app {W W' : World} {B RB n c : Nat} {V : Nat → Value} {L : Nat → List Ed} {v' : Value} {y : Ed} (h : Rws W B RB n V L) (hc : c < n) (a : ApE W W' B (V c) v' (L c ++ [y])) : Rws (W'.setCell ⟨RB, c, none⟩ v') B RB n (upd V c v') (upd L c (L c ++ [y])) := by
  obtain ⟨cur, h1, h2, h3⟩ := h.bk
  have hne : (43 : TypeId) ≠ 48 := by decide
  have hb : Blk W' RB 43 cur := app_typed h1 hne (h.ow c hc) a.gr
  refine ⟨⟨_, hb.set c v', by rw [Array.size_setIfInBounds]; exact h2, fun j hj => ?_⟩, fun j hj => ?_, fun j k hj hk hjk => ?_⟩
  · by_cases e : j = c
    · subst e; rw [upd_eq]; simp [h2, hj]
    · rw [upd_ne _ _ e, Array.getElem?_setIfInBounds_ne (fun q => e q.symm)]; exact h3 j hj
  · refine own_typed (w := W') ?_ fun g cs hg => set_typed hb hg (fun q => hne q.symm)
    by_cases e : j = c
    · subst e; rw [upd_eq, upd_eq]; exact a.own
    · rw [upd_ne _ _ e, upd_ne _ _ e]; exact (h.ow j hj).apart a.gr (h.ap j c hj hc e)
  · by_cases e : j = c
    · subst e
      rw [upd_eq, upd_ne _ _ (fun q => hjk q.symm)]
      exact (EsApt.new (h.ap k j hk hj (fun q => hjk q.symm)) (h.ow k hk) a.at').symm
    · rw [upd_ne _ _ e]
      by_cases e2 : k = c
      · subst e2; rw [upd_eq]; exact EsApt.new (h.ap j k hj hk hjk) (h.ow j hj) a.at'
      · rw [upd_ne _ _ e2]; exact h.ap j k hj hk hjk
/-- Rows that were made. -/
theorem Rws.made {W : World} {B RB n : Nat} (h : W.rowIs RB 43 n (fun _ => .slice none 0 0)) : Rws W B RB n (fun _ => .slice none 0 0) (fun _ => []) := by
  obtain ⟨c', h1, h2, h3⟩ := h
  exact ⟨⟨c', h1, h2, h3⟩, fun _ _ => EsOw.nil _ _, fun _ _ _ _ _ => Apt.nil _⟩
/-- The rows of the first i edges. -/
def rwL (P : List Ed) : Nat → List Ed := fun c => flt c P
theorem rwL_snoc {P : List Ed} {x : Ed} {c : Nat} (h : x.f = c) : upd (rwL P) c (rwL P c ++ [x]) = rwL (P ++ [x]) := by
  funext j
  unfold rwL
  by_cases e : j = c
  · subst e
    rw [upd_eq, flt_append]
    unfold flt
    rw [List.filter_cons_of_pos (by rw [decide_eq_true_iff]; exact h)]
    rfl
  · rw [upd_ne _ _ e, flt_append]
    unfold flt
    rw [List.filter_cons_of_neg (a := x) (by rw [decide_eq_true_iff, h]; omega)]
    simp
end Go.Proofs.YtpoanbpgpgflcaaDoor

namespace Go.Proofs.YtpoanbpgpgflcaaDoor
open Go.RowKit

structure GsI (w : World) (n G RB : Nat) (V : Nat → Value) (S : List Ed) (u1 u2 u3 u4 v1 v2 v3 v4 : Value) (L1 L2 L3 L4 : List Int) (W : World) : Prop where
  gr : Blk W G 28 #[.int .i64 n, u1, u2, u3, u4]
  ro : R4 W w.heap.size v1 v2 v3 v4 L1 L2 L3 L4
  rw : Rws W w.heap.size RB n V (rwL S)
  rs : Blk W w.heap.size 28 #[.int .i64 0, .slice none 0 0, .slice none 0 0, .slice none 0 0, .slice none 0 0]
  gb : w.heap.size + 1 = G
  bl : Below w.heap.size w W
theorem GsI.below {w : World} {n G RB : Nat} {V : Nat → Value} {S : List Ed} {u1 u2 u3 u4 v1 v2 v3 v4 : Value} {L1 L2 L3 L4 : List Int} {W W' : World} (h : GsI w n G RB V S u1 u2 u3 u4 v1 v2 v3 v4 L1 L2 L3 L4 W) (hb : Below W.heap.size W W') : GsI w n G RB V S u1 u2 u3 u4 v1 v2 v3 v4 L1 L2 L3 L4 W' :=
  ⟨h.gr.below hb, h.ro.below hb, h.rw.below hb, h.rs.below hb, h.gb, h.bl.trans (hb.mono h.bl.size)⟩
theorem GsI.app {w : World} {n G RB : Nat} {V : Nat → Value} {S : List Ed} {u1 u2 u3 u4 v1 v2 v3 v4 : Value} {L1 L2 L3 L4 : List Int} {W W' : World} (h : GsI w n G RB V S u1 u2 u3 u4 v1 v2 v3 v4 L1 L2 L3 L4 W) {v : Value} {L : List Int} (ho : Ow W w.heap.size v L) (hg : W.grownBy W' v.ownBlock) {M1 M2 M3 M4 : List Int} {w1 w2 w3 w4 : Value} (hr : R4 W' w.heap.size w1 w2 w3 w4 M1 M2 M3 M4) : GsI w n G RB V S u1 u2 u3 u4 w1 w2 w3 w4 M1 M2 M3 M4 W' :=
  ⟨app_typed h.gr (by decide) ho hg, hr, h.rw.keep (fun k t cs ht hk => app_typed hk (by rcases ht with rfl | rfl <;> decide) ho hg), app_typed h.rs (by decide) ho hg, h.gb, h.bl.grown hg h.bl.size (fun k hk => (ho.lt k hk).1)⟩
theorem GsI.app1 {w : World} {n G RB : Nat} {V : Nat → Value} {S : List Ed} {u1 u2 u3 u4 v1 v2 v3 v4 v' : Value} {L1 L2 L3 L4 L : List Int} {W W' : World} (h : GsI w n G RB V S u1 u2 u3 u4 v1 v2 v3 v4 L1 L2 L3 L4 W) (a : Ap W W' w.heap.size v1 v' L) : GsI w n G RB V S u1 u2 u3 u4 v' v2 v3 v4 L L2 L3 L4 W' := h.app h.ro.o1 a.gr (h.ro.app1 a)
theorem GsI.app2 {w : World} {n G RB : Nat} {V : Nat → Value} {S : List Ed} {u1 u2 u3 u4 v1 v2 v3 v4 v' : Value} {L1 L2 L3 L4 L : List Int} {W W' : World} (h : GsI w n G RB V S u1 u2 u3 u4 v1 v2 v3 v4 L1 L2 L3 L4 W) (a : Ap W W' w.heap.size v2 v' L) : GsI w n G RB V S u1 u2 u3 u4 v1 v' v3 v4 L1 L L3 L4 W' := h.app h.ro.o2 a.gr (h.ro.app2 a)
theorem GsI.app3 {w : World} {n G RB : Nat} {V : Nat → Value} {S : List Ed} {u1 u2 u3 u4 v1 v2 v3 v4 v' : Value} {L1 L2 L3 L4 L : List Int} {W W' : World} (h : GsI w n G RB V S u1 u2 u3 u4 v1 v2 v3 v4 L1 L2 L3 L4 W) (a : Ap W W' w.heap.size v3 v' L) : GsI w n G RB V S u1 u2 u3 u4 v1 v2 v' v4 L1 L2 L L4 W' := h.app h.ro.o3 a.gr (h.ro.app3 a)
theorem GsI.app4 {w : World} {n G RB : Nat} {V : Nat → Value} {S : List Ed} {u1 u2 u3 u4 v1 v2 v3 v4 v' : Value} {L1 L2 L3 L4 L : List Int} {W W' : World} (h : GsI w n G RB V S u1 u2 u3 u4 v1 v2 v3 v4 L1 L2 L3 L4 W) (a : Ap W W' w.heap.size v4 v' L) : GsI w n G RB V S u1 u2 u3 u4 v1 v2 v3 v' L1 L2 L3 L W' := h.app h.ro.o4 a.gr (h.ro.app4 a)
theorem GsI.put {w : World} {n G RB : Nat} {V : Nat → Value} {S : List Ed} {u1 u2 u3 u4 v1 v2 v3 v4 : Value} {L1 L2 L3 L4 : List Int} {W : World} (h : GsI w n G RB V S u1 u2 u3 u4 v1 v2 v3 v4 L1 L2 L3 L4 W) (k : Nat) (x : Value) {y1 y2 y3 y4 : Value} (he : (#[.int .i64 n, u1, u2, u3, u4] : Array Value).setIfInBounds k x = #[.int .i64 n, y1, y2, y3, y4]) : GsI w n G RB V S y1 y2 y3 y4 v1 v2 v3 v4 L1 L2 L3 L4 (W.setCell ⟨G, k, none⟩ x) :=
  ⟨he ▸ h.gr.set k x, h.ro.other h.gr (by decide), h.rw.keep (fun j t cs ht hk => set_typed h.gr hk (by rcases ht with rfl | rfl <;> decide)), h.rs.other k x (by have := h.gb; omega), h.gb, Below.setCell h.bl (by show w.heap.size ≤ G; have := h.gb; omega) _⟩
theorem stA_snoc (S : List Ed) (c : Nat) : (List.range c).map (stA S) ++ [((rowsN S c).length : Int)] = (List.range (c + 1)).map (stA S) := by
  rw [List.range_succ, List.map_append]
  rfl
theorem EsOw.addr {W : World} {B n cap : Nat} {a : Option Addr} {L : List Ed} (h : EsOw W B (.slice a n cap) L) (h0 : 0 < L.length) : ∃ g, a = some ⟨g, 0, none⟩ ∧ ∃ cur, Blk W g 48 cur := by
  rcases h.2 with ⟨h1, h2⟩ | ⟨g, c, cur, h1, _, hg, _⟩
  · omega
  · injection h1 with h2 _ _
    exact ⟨g, h2, cur, hg⟩
/-- The cells of an edge of such a row, in every world in which it stands. -/
theorem es_cells {w0 W0 : World} {v : Value} {aV : Option Addr} {m cV k : Nat} {L : List Ed} {x : Ed} (hv : v = .slice aV m cV) (hx : L[k]? = some x) (h0 : EsOw W0 w0.heap.size v L) :
    ∃ bb oo, aV = some ⟨bb, oo, none⟩ ∧ ∀ W : World, EsOw W w0.heap.size v L → W.cell? ⟨bb, oo + k * 4 + 1, none⟩ = some (.int .i64 x.t) ∧ W.cell? ⟨bb, oo + k * 4 + 2, none⟩ = some (.int .i64 x.d) ∧ W.cell? ⟨bb, oo + k * 4 + 3, none⟩ = some (.int .i64 x.c) := by
  subst hv
  have hk : k < L.length := by
    rcases Nat.lt_or_ge k L.length with h | h
    · exact h
    · rw [List.getElem?_eq_none h] at hx; cases hx
  obtain ⟨g, rfl, _⟩ := h0.addr (by omega)
  refine ⟨g, 0, rfl, fun W h => ?_⟩
  obtain ⟨a, b, o, c, h1, h2, h3⟩ := h.rd
  injection h1 with e1 _ _
  have e2 := e1.trans (h2 (by omega))
  injection e2 with e3
  injection e3 with e4 e5 _
  subst e4 e5
  obtain ⟨_, k1, k2, k3⟩ := h3 k hk x hx
  exact ⟨k1, k2, k3⟩
end Go.Proofs.YtpoanbpgpgflcaaDoor

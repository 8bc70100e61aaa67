/-
  A row of rows of edges, each of the call's own.
-/
import Derived.Test.YtohilccbfdienaaJCoEDs
import Derived.Test.YtohilccbfdienaaJCoG4
import Derived.Test.YtohilccbfdienaaJCoGRP
namespace Go.Proofs.Ytohilccbfdienaa
open Go.RowKit

theorem EsOw.apart {W W' : World} {B : Nat} {u v : Value} {L : List Ed} (h : EsOw W B u L) (hg : W.grownBy W' v.ownBlock) (ha : Apt u v) : EsOw W' B u L := World.ownsRow.kept h hg ha
theorem EsOw.lt {W : World} {B : Nat} {v : Value} {L : List Ed} (h : EsOw W B v L) : ∀ k, v.ownBlock = some k → B ≤ k ∧ k < W.heap.size := fun k hk => World.ownsRow.lt h k hk
theorem EsOw.slc {W : World} {B : Nat} {v : Value} {L : List Ed} (h : EsOw W B v L) : ∃ a c, v = .slice a L.length c := by
  rcases h.2 with ⟨h1, h0⟩ | ⟨g, c, cur, h1, _⟩
  · exact ⟨none, 0, by rw [h1, h0]⟩
  · exact ⟨_, c, h1⟩
/-- What is known of an append of an edge. -/
structure ApE (W W' : World) (B : Nat) (v v' : Value) (L : List Ed) : Prop where
  own : EsOw W' B v' L
  gr : W.grownBy W' v.ownBlock
  at' : v'.ownBlock = v.ownBlock ∨ v'.ownBlock = some W.heap.size
theorem wp_appEsA {ops : Array Oper} {rest : List Oper} {o : Oper} {a : Act} {Q : Exit → Act → World → Prop} {w : World} (hgd : o.guard = none) (s x : Operand)
    (ho : o.op = .call { callee := .builtin .append, args := #[s, x], argTypes := #[36, 36] }) (B : Nat) (v : Value) (xs : List Ed) (hs : a.eval s = v) (hown : EsOw w B v xs)
    (g c : Nat) (y : Ed) (hx : a.eval x = .slice (some ⟨g, 0, none⟩) 1 c) (hnews : ∀ i, i < 4 → w.cell? ⟨g, i, none⟩ = (edc y)[i]?) (hlen : xs.length ≤ 10000000) (hbase : B ≤ w.heap.size)
    (h : ∀ v' w', ApE w w' B v v' (xs ++ [y]) → wpList Try.prog ops Q rest (a.put o.dst v') w') : wpList Try.prog ops Q (o :: rest) a w := by
  obtain ⟨i0, hi, hz0, hz1, hz2⟩ := info_partsEsOw Try.infoEsOw
  refine wpList_append_own_at _ hgd s x 36 ho B 53 i0 _ 4 32 Try.underlying36 hi hz0 hz1 hz2 rfl (by decide) v xs.length (edcs xs) hs hown ⟨g, 0, none⟩ 1 c (edcs [y]) hx (edcs_length [y]) (fun j u hj => ?_) (edcs_one _) (by unfold maxLen; omega) (by omega) hbase (fun v' w' h1 h2 _ h4 => ?_)
  · have hjl : j < 4 := by
      rcases Nat.lt_or_ge j 4 with h | h
      · exact h
      · rw [List.getElem?_eq_none (by rw [edcs_length]; exact h)] at hj; cases hj
    have e : (⟨g, 0, none⟩ : Addr).add j = ⟨g, j, none⟩ := by unfold Addr.add; split <;> simp_all
    rw [e, hnews j hjl]
    have := edcs_at [y] 0 y rfl j hjl
    rw [Nat.zero_mul, Nat.zero_add] at this
    rw [← this]
    exact hj
  · refine h v' w' ⟨?_, h2, h4⟩
    unfold EsOw
    rw [List.length_append, edcs_append]
    exact h1
/-- .. as one step of a region that draws. -/
theorem step_appEsA {ops : Array Oper} {o : Oper} {a : Act} {w : World} {K : Act → World → Prop} {Q : Exit → Act → World → Prop} {E : Prop} (hgd : o.guard = none) (s x : Operand)
    (ho : o.op = .call { callee := .builtin .append, args := #[s, x], argTypes := #[36, 36] }) (B : Nat) (v : Value) (xs : List Ed) (hs : a.eval s = v) (hown : EsOw w B v xs)
    (g c : Nat) (y : Ed) (hx : a.eval x = .slice (some ⟨g, 0, none⟩) 1 c) (hnews : ∀ i, i < 4 → w.cell? ⟨g, i, none⟩ = (edc y)[i]?) (hlen : xs.length ≤ 10000000) (hbase : B ≤ w.heap.size)
    (h : ∀ v' w', ApE w w' B v v' (xs ++ [y]) → K (a.put o.dst v') w') :
    if Region.wanted o (yielded ops a.tmps) = true then Oper.wp Try.prog o a w K Q else E := by
  have hw : Region.wanted o (yielded ops a.tmps) = true := by simp [Region.wanted, hgd]
  rw [if_pos hw]
  obtain ⟨i0, hi, hz0, hz1, hz2⟩ := info_partsEsOw Try.infoEsOw
  have hn : ∀ j u, (edcs [y])[j]? = some u → w.cell? ((⟨g, 0, none⟩ : Addr).add j) = some u := fun j u hj => by
    have hjl : j < 4 := by
      rcases Nat.lt_or_ge j 4 with h | h
      · exact h
      · rw [List.getElem?_eq_none (by rw [edcs_length]; exact h)] at hj; cases hj
    have e : (⟨g, 0, none⟩ : Addr).add j = ⟨g, j, none⟩ := by unfold Addr.add; split <;> simp_all
    rw [e, hnews j hjl]
    have := edcs_at [y] 0 y rfl j hjl
    rw [Nat.zero_mul, Nat.zero_add] at this
    rw [← this]
    exact hj
  obtain ⟨v', w', hr, h1, h2, _, h4⟩ := run_append_own_at (P := Try.prog) w B 36 o.type 53 i0 _ 4 32 Try.underlying36 hi hz0 hz1 hz2 rfl (by decide) v xs.length (edcs xs) hown ⟨g, 0, none⟩ 1 c (edcs [y]) (edcs_length [y]) hn (edcs_one _) (by unfold maxLen; omega) (by omega) hbase
  unfold Oper.wp execOp
  simp only [ho, resolve, invoke, builtin, Sem.run_bind, Sem.run_pure, Result.andThen_ok, List.map_toArray, List.map_cons, List.map_nil, hs, hx, hr]
  refine h v' w' ⟨?_, h2, h4⟩
  unfold EsOw
  rw [List.length_append, edcs_append]
  exact h1
/-- .. of one number. -/
theorem step_app1 {ops : Array Oper} {o : Oper} {a : Act} {w : World} {K : Act → World → Prop} {Q : Exit → Act → World → Prop} {E : Prop} (hgd : o.guard = none) (s x : Operand)
    (ho : o.op = .call { callee := .builtin .append, args := #[s, x], argTypes := #[22, 22] }) (B : Nat) (v : Value) (xs : List Int) (hs : a.eval s = v) (hown : Ow w B v xs)
    (g c : Nat) (y : Int) (hx : a.eval x = .slice (some ⟨g, 0, none⟩) 1 c) (hnew : w.cell? ⟨g, 0, none⟩ = some (.int .i64 y)) (hlen : xs.length ≤ 10000000) (hbase : B ≤ w.heap.size)
    (h : ∀ v' w', Ap w w' B v v' (xs ++ [y]) → K (a.put o.dst v') w') :
    if Region.wanted o (yielded ops a.tmps) = true then Oper.wp Try.prog o a w K Q else E := by
  have hw : Region.wanted o (yielded ops a.tmps) = true := by simp [Region.wanted, hgd]
  rw [if_pos hw]
  obtain ⟨i0, hi, hz0, hz1, hz2⟩ := info_partsI Try.info3
  have hn : ∀ j u, (ci [y])[j]? = some u → w.cell? ((⟨g, 0, none⟩ : Addr).add j) = some u := fun j u hj => by
    match j, hj with
    | 0, hj =>
      have e : (⟨g, 0, none⟩ : Addr).add 0 = ⟨g, 0, none⟩ := by unfold Addr.add; split <;> simp_all
      rw [e, hnew, ← hj]
      rfl
  obtain ⟨v', w', hr, h1, h2, _, h4⟩ := run_append_own_at (P := Try.prog) w B 22 o.type 3 i0 (.int .i64 0) 1 8 Try.underlying22 hi hz0 hz1 hz2 rfl (by decide) v xs.length (ci xs) hown ⟨g, 0, none⟩ 1 c (ci [y]) (ci_length [y]) hn (ci_one _) (by unfold maxLen; omega) (by omega) hbase
  unfold Oper.wp execOp
  simp only [ho, resolve, invoke, builtin, Sem.run_bind, Sem.run_pure, Result.andThen_ok, List.map_toArray, List.map_cons, List.map_nil, hs, hx, hr]
  refine h v' w' ⟨?_, h2, h4⟩
  unfold Ow
  rw [List.length_append, ci_append]
  exact h1
theorem EsApt.new {W : World} {B : Nat} {u v v' : Value} {L : List Ed} (ha : Apt u v) (hu : EsOw W B u L) (hv : v'.ownBlock = v.ownBlock ∨ v'.ownBlock = some W.heap.size) : Apt u v' := by
  unfold Apt at *
  rcases hv with hv | hv
  · rw [hv]; exact ha
  · right
    rw [hv]
    intro e
    have := (hu.lt _ e).2
    omega
/-- One is put in another's place. -/
def updR {α : Type} (V : Nat → α) (c : Nat) (x : α) : Nat → α := fun j => if j = c then x else V j
theorem updR_eq {α : Type} (V : Nat → α) (c : Nat) (x : α) : updR V c x c = x := by unfold updR; rw [if_pos rfl]
theorem updR_ne {α : Type} (V : Nat → α) {c j : Nat} (x : α) (h : j ≠ c) : updR V c x j = V j := by unfold updR; rw [if_neg h]
/-- Rows of edges. -/
structure Rws (W : World) (B RB n : Nat) (V : Nat → Value) (L : Nat → List Ed) : Prop where
  bk : ∃ cur, Blk W RB 36 cur ∧ cur.size = n ∧ ∀ c, c < n → cur[c]? = some (V c)
  ow : ∀ c, c < n → EsOw W B (V c) (L c)
  ap : ∀ c d, c < n → d < n → c ≠ d → Apt (V c) (V d)
theorem Rws.keep {W W' : World} {B RB n : Nat} {V : Nat → Value} {L : Nat → List Ed} (h : Rws W B RB n V L) (hk : ∀ k t cs, t = 36 ∨ t = 53 → Blk W k t cs → Blk W' k t cs) : Rws W' B RB n V L := by
  obtain ⟨cur, h1, h2, h3⟩ := h.bk
  exact ⟨⟨cur, hk _ _ _ (.inl rfl) h1, h2, h3⟩, fun c hc => own_typed (h.ow c hc) fun g cur hg => hk g _ cur (.inr rfl) hg, h.ap⟩
theorem Rws.below {W W' : World} {B RB n : Nat} {V : Nat → Value} {L : Nat → List Ed} (h : Rws W B RB n V L) (hb : Below W.heap.size W W') : Rws W' B RB n V L := h.keep fun _ _ _ _ hk => hk.below hb
theorem Rws.cell {W : World} {B RB n : Nat} {V : Nat → Value} {L : Nat → List Ed} (h : Rws W B RB n V L) {c : Nat} (hc : c < n) : W.cell? ⟨RB, c, none⟩ = some (V c) ∧ W.frozen? ⟨RB, c, none⟩ = false := by
  obtain ⟨cur, h1, h2, h3⟩ := h.bk
  exact ⟨by rw [h1.cell, h3 c hc], h1.frozen c⟩
/-- An edge was appended to the row of c, and the row put back. -/
theorem Rws.app {W W' : World} {B RB n c : Nat} {V : Nat → Value} {L : Nat → List Ed} {v' : Value} {y : Ed} (h : Rws W B RB n V L) (hc : c < n) (a : ApE W W' B (V c) v' (L c ++ [y])) : Rws (W'.setCell ⟨RB, c, none⟩ v') B RB n (updR V c v') (updR L c (L c ++ [y])) := by
  obtain ⟨cur, h1, h2, h3⟩ := h.bk
  have hne : (36 : TypeId) ≠ 53 := by decide
  have hb : Blk W' RB 36 cur := app_typed h1 hne (h.ow c hc) a.gr
  refine ⟨⟨_, hb.set c v', by rw [Array.size_setIfInBounds]; exact h2, fun j hj => ?_⟩, fun j hj => ?_, fun j k hj hk hjk => ?_⟩
  · by_cases e : j = c
    · subst e; rw [updR_eq]; simp [h2, hj]
    · rw [updR_ne _ _ e, Array.getElem?_setIfInBounds_ne (fun q => e q.symm)]; exact h3 j hj
  · refine own_typed (w := W') ?_ fun g cs hg => set_typed hb hg (fun q => hne q.symm)
    by_cases e : j = c
    · subst e; rw [updR_eq, updR_eq]; exact a.own
    · rw [updR_ne _ _ e, updR_ne _ _ e]; exact (h.ow j hj).apart a.gr (h.ap j c hj hc e)
  · by_cases e : j = c
    · subst e
      rw [updR_eq, updR_ne _ _ (fun q => hjk q.symm)]
      exact (EsApt.new (h.ap k j hk hj (fun q => hjk q.symm)) (h.ow k hk) a.at').symm
    · rw [updR_ne _ _ e]
      by_cases e2 : k = c
      · subst e2; rw [updR_eq]; exact EsApt.new (h.ap j k hj hk hjk) (h.ow j hj) a.at'
      · rw [updR_ne _ _ e2]; exact h.ap j k hj hk hjk
/-- Rows that were made. -/
theorem Rws.made {W : World} {B RB n : Nat} (h : W.rowIs RB 36 n (fun _ => .slice none 0 0)) : Rws W B RB n (fun _ => .slice none 0 0) (fun _ => []) := by
  obtain ⟨c', h1, h2, h3⟩ := h
  exact ⟨⟨c', h1, h2, h3⟩, fun _ _ => EsOw.nil _ _, fun _ _ _ _ _ => Apt.nil _⟩
/-- The rows of the first i edges. -/
def rwL (P : List Ed) : Nat → List Ed := fun c => flt c P
theorem rwL_snoc {P : List Ed} {x : Ed} {c : Nat} (h : x.f = c) : updR (rwL P) c (rwL P c ++ [x]) = rwL (P ++ [x]) := by
  funext j
  unfold rwL
  by_cases e : j = c
  · subst e
    rw [updR_eq, flt_append]
    unfold flt
    rw [List.filter_cons_of_pos (by rw [decide_eq_true_iff]; exact h)]
    rfl
  · rw [updR_ne _ _ e, flt_append]
    unfold flt
    rw [List.filter_cons_of_neg (a := x) (by rw [decide_eq_true_iff, h]; omega)]
    simp
end Go.Proofs.Ytohilccbfdienaa

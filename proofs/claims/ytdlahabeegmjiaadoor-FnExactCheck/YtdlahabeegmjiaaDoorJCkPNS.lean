/-
  Nodes that the reader of trees made, as trees in memory; spec.ValidTree of them.
  Appends onto rows of the call's own, by their cells.
-/
import Derived.Test.YtdlahabeegmjiaaDoorJCkGN0
import Derived.Test.YtdlahabeegmjiaaDoorJCkIN2
import Derived.Deep.RegionHeld3
namespace Go.Proofs.YtdlahabeegmjiaaDoor
open Go.RowKit

theorem BG.bs {w : World} {G : Nat → Prop} {v : Value} {s : ByteArray} (h : BG w G v s) : BS w v s := by
  obtain ⟨a, g, c, h1, h2, h3⟩ := h
  refine ⟨a, g, 0, c, h1, fun hn => (h2 hn).1, fun j hj => ?_⟩
  rw [Nat.zero_add]
  exact h3 (by omega) j _ (byv_at s j hj)
theorem RwG.is {w : World} {G : Nat → Prop} {v : Value} {l : List Int} (h : RwG w G v l.length (inv l)) : IS w v l := by
  obtain ⟨a, g, c, h1, h2, h3⟩ := h
  refine ⟨a, g, 0, c, h1, fun hn => (h2 hn).1, fun j hj => ?_⟩
  rw [Nat.zero_add]
  refine h3 (by omega) j _ ?_
  unfold inv
  rw [List.getElem?_map, List.getElem?_eq_getElem hj]
  simp [List.getD, hj]
theorem SG.ss {w : World} {G : Nat → Prop} {v : Value} {L : List ByteArray} (h : SG w G v L) : SS w v L := by
  obtain ⟨M, h0, ⟨a, g, c, h1, h2, h3⟩, h4⟩ := h
  refine ⟨a, g, 0, c, h1, fun hn => (h2 hn).1, fun j hj => ?_⟩
  obtain ⟨u, h5, h6⟩ := h4 j (L[j]'hj) (List.getElem?_eq_getElem hj)
  refine ⟨u, ?_, ?_⟩
  · rw [Nat.zero_add]; exact h3 (by omega) j u h5
  · have e : L.getD j .empty = L[j]'hj := by simp [List.getD, hj]
    rw [e]; exact h6.bs
theorem ncs_at : ∀ (M : List Nv) (j : Nat) (m : Nv), M[j]? = some m → ∀ i, i < 6 → (ncs M)[j * 6 + i]? = m.cs[i]?
  | [], j, m, h, _, _ => by simp at h
  | a :: M, 0, m, h, i, hi => by
    obtain rfl : a = m := by simpa using h
    show (a.cs ++ ncs M)[0 * 6 + i]? = _
    rw [Nat.zero_mul, Nat.zero_add, List.getElem?_append_left (by show i < 6; exact hi)]
  | a :: M, j + 1, m, h, i, hi => by
    show (a.cs ++ ncs M)[(j + 1) * 6 + i]? = _
    rw [List.getElem?_append_right (by show 6 ≤ _; omega)]
    rw [show (j + 1) * 6 + i - a.cs.length = j * 6 + i by show _ - 6 = _; omega]
    exact ncs_at M j m (by simpa using h) i hi
theorem NG.ns {w : World} {G : Nat → Prop} {v : Value} {L : List Nd} (h : NG w G v L) : NS w v L ∧ ∀ j, j < L.length → NB (L.getD j .zero) := by
  obtain ⟨M, h1, ⟨a, g, c, h2, h3, h4⟩, h5⟩ := h
  have hl : M.length = L.length := by rw [← h1, List.length_map]
  have key : ∀ j, j < L.length → ∃ m, M[j]? = some m ∧ m ∈ M ∧ L.getD j .zero = m.d := fun j hj => by
    have hj' : j < M.length := by omega
    obtain ⟨m, hm⟩ : ∃ m, M[j]? = some m := ⟨M[j], List.getElem?_eq_getElem hj'⟩
    refine ⟨m, hm, List.mem_of_getElem? hm, ?_⟩
    rw [List.getD_eq_getElem?_getD, ← h1, List.getElem?_map, hm]; rfl
  refine ⟨⟨a, g, 0, c, by rw [← hl]; exact h2, fun hn => (h3 (by omega)).1, fun j hj => ?_⟩, fun j hj => ?_⟩
  · obtain ⟨m, k1, k2, k3⟩ := key j hj
    have ok := h5 m k2
    have cs := h4 (by omega)
    have cell : ∀ i u, i < 6 → m.cs[i]? = some u → w.cell? ⟨g, 0 + j * 6 + i, none⟩ = some u := fun i u hi hu => by
      rw [Nat.zero_add]
      exact cs _ u (by rw [ncs_at M j m k1 i hi]; exact hu)
    rw [k3]
    exact ⟨m.t, m.n, m.y, ⟨cell 0 _ (by omega) rfl, cell 1 _ (by omega) rfl, cell 2 _ (by omega) rfl, cell 3 _ (by omega) rfl, cell 4 _ (by omega) rfl, cell 5 _ (by omega) rfl⟩, ⟨ok.text.bs, ok.names.ss, ok.types.is⟩⟩
  · obtain ⟨m, k1, k2, k3⟩ := key j hj
    have ok := h5 m k2
    rw [k3]
    exact ⟨ok.b1, ok.b2, fun i hi => by
      have e : m.d.names.getD i .empty = m.d.names[i]'hi := by simp [List.getD, hi]
      rw [e]; exact ok.b3 _ (List.getElem_mem hi), ok.b4⟩
end Go.Proofs.YtdlahabeegmjiaaDoor

namespace Go.Proofs.YtdlahabeegmjiaaDoor
open Go.RowKit

theorem Tryd.infoGNd : (Tryd.prog.info? 42).map (fun i => (i.zero, i.size, i.bytes)) = some (some (.agg #[.int .i64 0, .int .i64 0, .slice none 0 0, .slice none 0 0, .slice none 0 0, .int .i64 0]), 6, 96) := by kernel_rfl
theorem wp_appGNd {ops : Array Oper} {rest : List Oper} {o : Oper} {a : Act} {Q : Exit → Act → World → Prop} {w : World} (hgd : o.guard = none) (s x : Operand)
    (ho : o.op = .call { callee := .builtin .append, args := #[s, x], argTypes := #[26, 26] }) (B : Nat) (v : Value) (n : Nat) (xs : List Value) (hs : a.eval s = v) (hown : w.ownsRow B 42 6 v n xs)
    (g f c m : Nat) (ys : List Value) (hx : a.eval x = .slice (some ⟨g, f, none⟩) m c) (hy : ys.length = m * 6) (hnews : ∀ j u, ys[j]? = some u → w.cell? ⟨g, f + j, none⟩ = some u) (hone : ∀ u ∈ ys, u.oneCell' = true) (hlen : n + m ≤ 10000000) (hbase : B ≤ w.heap.size)
    (h : ∀ v' w', w'.ownsRow B 42 6 v' (n + m) (xs ++ ys) → w.grownBy w' v.ownBlock → (v'.ownBlock = v.ownBlock ∨ v'.ownBlock = some w.heap.size) → wpList Tryd.prog ops Q rest (a.put o.dst v') w') : wpList Tryd.prog ops Q (o :: rest) a w := by
  obtain ⟨i0, hi, hz0, hz1, hz2⟩ := info_partsG Tryd.infoGNd
  refine wpList_append_own_at _ hgd s x 26 ho B 42 i0 _ 6 96 Tryd.underlying26 hi hz0 hz1 hz2 rfl (by decide) v n xs hs hown ⟨g, f, none⟩ m c ys hx hy (fun j u hj => ?_) hone (by unfold maxLen; omega) (by omega) hbase (fun v' w' h1 h2 _ h4 => h v' w' h1 h2 h4)
  have e : (⟨g, f, none⟩ : Addr).add j = ⟨g, f + j, none⟩ := by unfold Addr.add; split <;> simp_all
  rw [e]; exact hnews j u hj
theorem step_appGNd {ops : Array Oper} {o : Oper} {a : Act} {w : World} {K : Act → World → Prop} {Q : Exit → Act → World → Prop} {E : Prop} (hgd : o.guard = none) (s x : Operand)
    (ho : o.op = .call { callee := .builtin .append, args := #[s, x], argTypes := #[26, 26] }) (B : Nat) (v : Value) (n : Nat) (xs : List Value) (hs : a.eval s = v) (hown : w.ownsRow B 42 6 v n xs)
    (g f c m : Nat) (ys : List Value) (hx : a.eval x = .slice (some ⟨g, f, none⟩) m c) (hy : ys.length = m * 6) (hnews : ∀ j u, ys[j]? = some u → w.cell? ⟨g, f + j, none⟩ = some u) (hone : ∀ u ∈ ys, u.oneCell' = true) (hlen : n + m ≤ 10000000) (hbase : B ≤ w.heap.size)
    (h : ∀ v' w', w'.ownsRow B 42 6 v' (n + m) (xs ++ ys) → w.grownBy w' v.ownBlock → (v'.ownBlock = v.ownBlock ∨ v'.ownBlock = some w.heap.size) → K (a.put o.dst v') w') :
    if Region.wanted o (yielded ops a.tmps) = true then Oper.wp Tryd.prog o a w K Q else E := by
  have hw : Region.wanted o (yielded ops a.tmps) = true := by simp [Region.wanted, hgd]
  rw [if_pos hw]
  obtain ⟨i0, hi, hz0, hz1, hz2⟩ := info_partsG Tryd.infoGNd
  obtain ⟨v', w', hr, h2, h3, h4, h5⟩ := run_append_own_at (P := Tryd.prog) w B 26 o.type 42 i0 _ 6 96 Tryd.underlying26 hi hz0 hz1 hz2 rfl (by decide) v n xs hown ⟨g, f, none⟩ m c ys hy (fun j u hj => by
    have e : (⟨g, f, none⟩ : Addr).add j = ⟨g, f + j, none⟩ := by unfold Addr.add; split <;> simp_all
    rw [e]; exact hnews j u hj) hone (by unfold maxLen; omega) (by omega) hbase
  unfold Oper.wp execOp
  simp only [ho, resolve, invoke, builtin, Sem.run_bind, Sem.run_pure, Result.andThen_ok, List.map_toArray, List.map_cons, List.map_nil, hs, hx, hr]
  exact h v' w' h2 h3 h5
theorem Tryd.infoGSn : (Tryd.prog.info? 31).map (fun i => (i.zero, i.size, i.bytes)) = some (some (.slice none 0 0), 1, 24) := by kernel_rfl
theorem wp_appGSn {ops : Array Oper} {rest : List Oper} {o : Oper} {a : Act} {Q : Exit → Act → World → Prop} {w : World} (hgd : o.guard = none) (s x : Operand)
    (ho : o.op = .call { callee := .builtin .append, args := #[s, x], argTypes := #[32, 32] }) (B : Nat) (v : Value) (n : Nat) (xs : List Value) (hs : a.eval s = v) (hown : w.ownsRow B 31 1 v n xs)
    (g f c m : Nat) (ys : List Value) (hx : a.eval x = .slice (some ⟨g, f, none⟩) m c) (hy : ys.length = m * 1) (hnews : ∀ j u, ys[j]? = some u → w.cell? ⟨g, f + j, none⟩ = some u) (hone : ∀ u ∈ ys, u.oneCell' = true) (hlen : n + m ≤ 10000000) (hbase : B ≤ w.heap.size)
    (h : ∀ v' w', w'.ownsRow B 31 1 v' (n + m) (xs ++ ys) → w.grownBy w' v.ownBlock → (v'.ownBlock = v.ownBlock ∨ v'.ownBlock = some w.heap.size) → wpList Tryd.prog ops Q rest (a.put o.dst v') w') : wpList Tryd.prog ops Q (o :: rest) a w := by
  obtain ⟨i0, hi, hz0, hz1, hz2⟩ := info_partsG Tryd.infoGSn
  refine wpList_append_own_at _ hgd s x 32 ho B 31 i0 _ 1 24 Tryd.underlying32 hi hz0 hz1 hz2 rfl (by decide) v n xs hs hown ⟨g, f, none⟩ m c ys hx hy (fun j u hj => ?_) hone (by unfold maxLen; omega) (by omega) hbase (fun v' w' h1 h2 _ h4 => h v' w' h1 h2 h4)
  have e : (⟨g, f, none⟩ : Addr).add j = ⟨g, f + j, none⟩ := by unfold Addr.add; split <;> simp_all
  rw [e]; exact hnews j u hj
theorem step_appGSn {ops : Array Oper} {o : Oper} {a : Act} {w : World} {K : Act → World → Prop} {Q : Exit → Act → World → Prop} {E : Prop} (hgd : o.guard = none) (s x : Operand)
    (ho : o.op = .call { callee := .builtin .append, args := #[s, x], argTypes := #[32, 32] }) (B : Nat) (v : Value) (n : Nat) (xs : List Value) (hs : a.eval s = v) (hown : w.ownsRow B 31 1 v n xs)
    (g f c m : Nat) (ys : List Value) (hx : a.eval x = .slice (some ⟨g, f, none⟩) m c) (hy : ys.length = m * 1) (hnews : ∀ j u, ys[j]? = some u → w.cell? ⟨g, f + j, none⟩ = some u) (hone : ∀ u ∈ ys, u.oneCell' = true) (hlen : n + m ≤ 10000000) (hbase : B ≤ w.heap.size)
    (h : ∀ v' w', w'.ownsRow B 31 1 v' (n + m) (xs ++ ys) → w.grownBy w' v.ownBlock → (v'.ownBlock = v.ownBlock ∨ v'.ownBlock = some w.heap.size) → K (a.put o.dst v') w') :
    if Region.wanted o (yielded ops a.tmps) = true then Oper.wp Tryd.prog o a w K Q else E := by
  have hw : Region.wanted o (yielded ops a.tmps) = true := by simp [Region.wanted, hgd]
  rw [if_pos hw]
  obtain ⟨i0, hi, hz0, hz1, hz2⟩ := info_partsG Tryd.infoGSn
  obtain ⟨v', w', hr, h2, h3, h4, h5⟩ := run_append_own_at (P := Tryd.prog) w B 32 o.type 31 i0 _ 1 24 Tryd.underlying32 hi hz0 hz1 hz2 rfl (by decide) v n xs hown ⟨g, f, none⟩ m c ys hy (fun j u hj => by
    have e : (⟨g, f, none⟩ : Addr).add j = ⟨g, f + j, none⟩ := by unfold Addr.add; split <;> simp_all
    rw [e]; exact hnews j u hj) hone (by unfold maxLen; omega) (by omega) hbase
  unfold Oper.wp execOp
  simp only [ho, resolve, invoke, builtin, Sem.run_bind, Sem.run_pure, Result.andThen_ok, List.map_toArray, List.map_cons, List.map_nil, hs, hx, hr]
  exact h v' w' h2 h3 h5
theorem Tryd.infoGIn : (Tryd.prog.info? 3).map (fun i => (i.zero, i.size, i.bytes)) = some (some (.int .i64 0), 1, 8) := by kernel_rfl
theorem wp_appGIn {ops : Array Oper} {rest : List Oper} {o : Oper} {a : Act} {Q : Exit → Act → World → Prop} {w : World} (hgd : o.guard = none) (s x : Operand)
    (ho : o.op = .call { callee := .builtin .append, args := #[s, x], argTypes := #[33, 33] }) (B : Nat) (v : Value) (n : Nat) (xs : List Value) (hs : a.eval s = v) (hown : w.ownsRow B 3 1 v n xs)
    (g f c m : Nat) (ys : List Value) (hx : a.eval x = .slice (some ⟨g, f, none⟩) m c) (hy : ys.length = m * 1) (hnews : ∀ j u, ys[j]? = some u → w.cell? ⟨g, f + j, none⟩ = some u) (hone : ∀ u ∈ ys, u.oneCell' = true) (hlen : n + m ≤ 10000000) (hbase : B ≤ w.heap.size)
    (h : ∀ v' w', w'.ownsRow B 3 1 v' (n + m) (xs ++ ys) → w.grownBy w' v.ownBlock → (v'.ownBlock = v.ownBlock ∨ v'.ownBlock = some w.heap.size) → wpList Tryd.prog ops Q rest (a.put o.dst v') w') : wpList Tryd.prog ops Q (o :: rest) a w := by
  obtain ⟨i0, hi, hz0, hz1, hz2⟩ := info_partsG Tryd.infoGIn
  refine wpList_append_own_at _ hgd s x 33 ho B 3 i0 _ 1 8 Tryd.underlying33 hi hz0 hz1 hz2 rfl (by decide) v n xs hs hown ⟨g, f, none⟩ m c ys hx hy (fun j u hj => ?_) hone (by unfold maxLen; omega) (by omega) hbase (fun v' w' h1 h2 _ h4 => h v' w' h1 h2 h4)
  have e : (⟨g, f, none⟩ : Addr).add j = ⟨g, f + j, none⟩ := by unfold Addr.add; split <;> simp_all
  rw [e]; exact hnews j u hj
theorem step_appGIn {ops : Array Oper} {o : Oper} {a : Act} {w : World} {K : Act → World → Prop} {Q : Exit → Act → World → Prop} {E : Prop} (hgd : o.guard = none) (s x : Operand)
    (ho : o.op = .call { callee := .builtin .append, args := #[s, x], argTypes := #[33, 33] }) (B : Nat) (v : Value) (n : Nat) (xs : List Value) (hs : a.eval s = v) (hown : w.ownsRow B 3 1 v n xs)
    (g f c m : Nat) (ys : List Value) (hx : a.eval x = .slice (some ⟨g, f, none⟩) m c) (hy : ys.length = m * 1) (hnews : ∀ j u, ys[j]? = some u → w.cell? ⟨g, f + j, none⟩ = some u) (hone : ∀ u ∈ ys, u.oneCell' = true) (hlen : n + m ≤ 10000000) (hbase : B ≤ w.heap.size)
    (h : ∀ v' w', w'.ownsRow B 3 1 v' (n + m) (xs ++ ys) → w.grownBy w' v.ownBlock → (v'.ownBlock = v.ownBlock ∨ v'.ownBlock = some w.heap.size) → K (a.put o.dst v') w') :
    if Region.wanted o (yielded ops a.tmps) = true then Oper.wp Tryd.prog o a w K Q else E := by
  have hw : Region.wanted o (yielded ops a.tmps) = true := by simp [Region.wanted, hgd]
  rw [if_pos hw]
  obtain ⟨i0, hi, hz0, hz1, hz2⟩ := info_partsG Tryd.infoGIn
  obtain ⟨v', w', hr, h2, h3, h4, h5⟩ := run_append_own_at (P := Tryd.prog) w B 33 o.type 3 i0 _ 1 8 Tryd.underlying33 hi hz0 hz1 hz2 rfl (by decide) v n xs hown ⟨g, f, none⟩ m c ys hy (fun j u hj => by
    have e : (⟨g, f, none⟩ : Addr).add j = ⟨g, f + j, none⟩ := by unfold Addr.add; split <;> simp_all
    rw [e]; exact hnews j u hj) hone (by unfold maxLen; omega) (by omega) hbase
  unfold Oper.wp execOp
  simp only [ho, resolve, invoke, builtin, Sem.run_bind, Sem.run_pure, Result.andThen_ok, List.map_toArray, List.map_cons, List.map_nil, hs, hx, hr]
  exact h v' w' h2 h3 h5
/-- A struct as the only result. -/
theorem results_one {fn : Func} {p : Tmp} {ty : TypeId} (h : fn.results = #[.cell p ty]) (P : Program) (tmps : Array Value) (w : World) (g : Nat) (t : TypeId) (cs : Array Value) (fr : Nat × Nat) {fs : Array Field}
    (hp : tmps.getD p undef = .pointer (some ⟨g, 0, none⟩)) (hg : w.heap[g]? = some (.cells cs t fr))
    (hu : P.underlying ty = some (.struct fs)) (hi : (P.info? ty).map (·.size) = some cs.size) :
    (results fn tmps).run P w = .ok (.agg cs) w := by
  have hp' : tmps[p]?.getD undef = .pointer (some ⟨g, 0, none⟩) := by simpa using hp
  simp [results, h, hp', asAddr, run_loadVar_row w g t ty cs fr _ hg hu rfl hi]
theorem own_sl {w : World} {B e sz n : Nat} {v : Value} {xs : List Value} (h : w.ownsRow B e sz v n xs) : ∃ a c, v = .slice a n c := by
  rcases h.2 with ⟨h1, h0⟩ | ⟨g, c, cur, hv, _⟩
  · exact ⟨none, 0, by rw [h1, h0]⟩
  · exact ⟨_, c, hv⟩
theorem own_lit {w : World} {g B e sz n : Nat} {cs : Array Value} (h : Blk w g e cs) (hB : B ≤ g) (hs : cs.size = n * sz) (hn : n ≤ 1000) : w.ownsRow B e sz (.slice (some ⟨g, 0, none⟩) n n) n cs.toList :=
  ⟨by rw [Array.length_toList]; exact hs, .inr ⟨g, n, cs, rfl, hB, h, Nat.le_refl _, by unfold maxLen; omega, hs, by rw [← hs]; exact List.take_of_length_le (by rw [Array.length_toList]; exact Nat.le_refl _)⟩⟩
end Go.Proofs.YtdlahabeegmjiaaDoor

/-
  A fleet in memory.
-/
import Derived.Test.YteicpjbeihabnaaDoorJRunFleetROW
import Derived.Test.YteicpjbeihabnaaDoorJRunFleetFLD
import Derived.Maps.OwnOps
import Derived.Maps.OwnSet
import Derived.Maps.Views
import Derived.WideShapes
namespace Go.Proofs.YteicpjbeihabnaaDoor
open Go.RowKit

/-- The map of who stands where: its keys, and how many. -/
def MpS (W : World) (b : Nat) (S : Int → Bool) (m : Nat) : Prop :=
  ∃ D : DataW Unit, W.ownsMap Tryd.prog 3 (plainElem Tryd.prog 3) b m D ∧ Maps.size D = m ∧ ∀ c, W64 c → Maps.has D (.int .i64 c) = S c
theorem MpS.made (w : World) : MpS (w.alloc (.map #[] 0)) w.heap.size (fun _ => false) 0 :=
  ⟨.map [], World.ownsMap_made w Tryd.prog 3 (plainElem Tryd.prog 3), rfl, fun _ _ => rfl⟩
theorem MpS.lt {W : World} {b m : Nat} {S : Int → Bool} (h : MpS W b S m) : b < W.heap.size := by obtain ⟨_, h1, _⟩ := h; exact h1.lt
theorem MpS.keep {W W' : World} {b m : Nat} {S : Int → Bool} (h : MpS W b S m) (hk : W'.heap[b]? = W.heap[b]?) : MpS W' b S m := by
  obtain ⟨D, ⟨es, clock, hb, F, hs, e⟩, h2⟩ := h
  exact ⟨D, ⟨es, clock, hk.trans hb, F, hs, e⟩, h2⟩
theorem MpS.ext {W : World} {b m : Nat} {S S' : Int → Bool} (h : MpS W b S m) (he : ∀ c, S c = S' c) : MpS W b S' m := by
  obtain ⟨D, h1, h2, h3⟩ := h
  exact ⟨D, h1, h2, fun c hc => (h3 c hc).trans (he c)⟩
theorem MpS.look {W : World} {b m : Nat} {S : Int → Bool} (h : MpS W b S m) {c : Int} (hc : W64 c) : ∃ z : Int, (Instr.lookup 87 (.map (some b)) (.int .i64 c) true).run Tryd.prog W = .ok (.tuple #[.int .i64 z, .bool (S c)]) W := by
  obtain ⟨D, h1, _, h3⟩ := h
  obtain ⟨v, ps, hrun, hv⟩ := h1.look_ok (Maps.int_keyed Tryd.underlying3) Tryd.underlying87 (Tryd.zeroValue3 _) (plainElem_int Tryd.underlying3 (a := 0) (by decide)) (Maps.keyOf_int_mk Tryd.underlying3 hc)
  obtain ⟨z, rfl, _, _⟩ := plainElem_int_inv Tryd.underlying3 hv
  rw [h3 c hc] at hrun
  exact ⟨z, hrun⟩
theorem MpS.put {W : World} {b m : Nat} {S : Int → Bool} (h : MpS W b S m) {c i : Int} (hc : W64 c) (hi : W64 i) (hm : m < 1000) (hf : S c = false) :
    ∃ W', (Instr.mapUpdate 87 (.map (some b)) (.int .i64 c) (.int .i64 i)).run Tryd.prog W = .ok () W' ∧ MpS W' b (fun x => S x || decide (x = c)) (m + 1) ∧ W.grownBy W' (some b) ∧ W'.heap.size = W.heap.size := by
  obtain ⟨D, h1, h2, h3⟩ := h
  obtain ⟨W', hrun, ho, hg⟩ := h1.store (Maps.int_keyed Tryd.underlying3) Tryd.underlying87 (by unfold maxLen; omega) (Maps.keyOf_int_mk Tryd.underlying3 hc) (plainElem_int Tryd.underlying3 hi)
  have hz : W'.heap.size = W.heap.size := by obtain ⟨_, _, _, _, _, rfl⟩ := hg; simp [Go.ChangeMaps.setBlock]
  refine ⟨W', hrun, ⟨_, ho, ?_, fun x hx => ?_⟩, hg.grown, hz⟩
  · rw [Maps.size_put (h1.tidy (Maps.int_keyed Tryd.underlying3)), h3 c hc, hf, h2]
    rfl
  · by_cases e : x = c
    · subst e
      rw [Maps.has_put_same h1.isMap (by simp [WideAt.IsKeyLit])]
      simp
    · rw [Maps.has_put_other (fun he => e (by simpa using he)), h3 x hx]
      simp [e]
theorem MpS.del {W : World} {b m : Nat} {S : Int → Bool} (h : MpS W b S m) {c : Int} (hc : W64 c) (hf : S c = true) (ty : TypeId) :
    ∃ W', (Builtin.delete_ #[87, 3] ty #[.map (some b), .int .i64 c]).run Tryd.prog W = .ok (.tuple #[]) W' ∧ MpS W' b (fun x => S x && !decide (x = c)) (m - 1) ∧ W.grownBy W' (some b) ∧ W'.heap.size = W.heap.size ∧ 0 < m := by
  obtain ⟨D, h1, h2, h3⟩ := h
  obtain ⟨W', hrun, ho, hg⟩ := h1.drop (Maps.int_keyed Tryd.underlying3) Tryd.underlying87 (Maps.keyOf_int_mk Tryd.underlying3 hc) ty
  have hz : W'.heap.size = W.heap.size := by obtain ⟨_, _, _, _, _, rfl⟩ := hg; simp [Go.ChangeMaps.setBlock]
  have hsz := Maps.size_del (k := .int .i64 c) (h1.tidy (Maps.int_keyed Tryd.underlying3))
  rw [h3 c hc, hf, h2] at hsz
  simp only [if_true] at hsz
  refine ⟨W', hrun, ⟨D.del (.int .i64 c), ?_, by omega, fun x hx => ?_⟩, hg.grown, hz, by omega⟩
  · obtain ⟨es, clock, hb, F, hs, e⟩ := ho
    refine ⟨es, clock, hb, F, ?_, e⟩
    have e1 : Maps.size (D.del (.int .i64 c)) = es.size := by rw [e]; simp [Maps.size, length_sorted]
    omega
  · by_cases e : x = c
    · subst e
      rw [Maps.has_del_same]
      simp
    · rw [Maps.has_del_other (fun he => e (by simpa using he)), h3 x hx]
      simp [e]
theorem MpS.len {W : World} {b m : Nat} {S : Int → Bool} (h : MpS W b S m) (ty : TypeId) : (Builtin.len_ #[87] ty #[.map (some b)]).run Tryd.prog W = .ok (.int .i64 m) W := by
  obtain ⟨D, h1, h2, h3⟩ := h
  have := h1.len Tryd.underlying87 ty
  rw [h2] at this
  exact this

/-- A fleet. -/
structure FlAt (W : World) (F R M : Nat) (d : Tb) (v2 v3 v4 rv : Value) (L : List Ro) (S : Int → Bool) (m : Nat) : Prop where
  blk : Blk W F 89 #[.int .i64 d.w, .int .i64 d.h, v2, v3, v4, rv, .map (some M)]
  row : RobR W R rv L
  map : MpS W M S m
  rf : R ≠ F
  mf : M ≠ F
  rm : R ≠ M
theorem FlAt.below {W W' : World} {F R M : Nat} {d : Tb} {v2 v3 v4 rv : Value} {L : List Ro} {S : Int → Bool} {m : Nat} (h : FlAt W F R M d v2 v3 v4 rv L S m) (hb : Below W.heap.size W W') : FlAt W' F R M d v2 v3 v4 rv L S m :=
  ⟨h.blk.below hb, h.row.below hb, h.map.keep (hb.block _ h.map.lt), h.rf, h.mf, h.rm⟩
theorem FlAt.ext {W : World} {F R M : Nat} {d : Tb} {v2 v3 v4 rv : Value} {L : List Ro} {S S' : Int → Bool} {m m' : Nat} (h : FlAt W F R M d v2 v3 v4 rv L S m) (he : ∀ c, S c = S' c) (hm : m = m') : FlAt W F R M d v2 v3 v4 rv L S' m' :=
  ⟨h.blk, h.row, by rw [← hm]; exact h.map.ext he, h.rf, h.mf, h.rm⟩
/-- The map was changed. -/
theorem FlAt.turned {W W' : World} {F R M : Nat} {d : Tb} {v2 v3 v4 rv : Value} {L : List Ro} {S S' : Int → Bool} {m m' : Nat} (h : FlAt W F R M d v2 v3 v4 rv L S m) (hg : W.grownBy W' (some M)) (hm : MpS W' M S' m') : FlAt W' F R M d v2 v3 v4 rv L S' m' :=
  ⟨(hg.block _ h.blk.lt (by intro e; injection e with e; exact h.mf e.symm)).trans h.blk, h.row.keep fun h0 => by
    obtain ⟨cur, h1, _⟩ := h.row.blk h0
    exact hg.block _ h1.lt (by intro e; injection e with e; exact h.rm e), hm, h.rf, h.mf, h.rm⟩
theorem wrs_turned {W W' : World} {M : Nat} (R : Nat) (hg : W.grownBy W' (some M)) : Wrs [R, M] W W' :=
  ⟨hg.os, hg.tape, hg.output, hg.size, fun g hl hn => hg.block g hl (by intro e; injection e with e; exact hn (by rw [← e]; simp))⟩
/-- A robot was changed. -/
theorem FlAt.set {W : World} {F R M : Nat} {d : Tb} {v2 v3 v4 rv : Value} {L : List Ro} {S : Int → Bool} {m : Nat} (h : FlAt W F R M d v2 v3 v4 rv L S m) {i k : Nat} (hi : i < L.length) (hk : k < 5) (u : Value) (r' : Ro) (hr : RoC (W.setCell ⟨R, i * 5 + k, none⟩ u) R (i * 5) r') : FlAt (W.setCell ⟨R, i * 5 + k, none⟩ u) F R M d v2 v3 v4 rv (L.set i r') S m := by
  exact ⟨h.blk.other _ u (fun e => h.rf e.symm), h.row.set1 hi hk u r' hr, h.map.keep (Below.heap_setCell _ _ _ _ (fun e => h.rm e.symm)), h.rf, h.mf, h.rm⟩
end Go.Proofs.YteicpjbeihabnaaDoor

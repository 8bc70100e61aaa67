/-
  The image's writer: a box that holds a row of bytes; appends onto it.
-/
import Derived.Test.YtpnocklldlacjaaDoorJEncodeImageIMD
import Derived.Test.YtpnocklldlacjaaDoorJEncodeImageSTC
import Derived.Laws.AppendOwn
namespace Go.Proofs.YtpnocklldlacjaaDoor
open Go.RowKit

/-- Below P all lies as it lay, and so do all blocks that are no rows of bytes and no writers. -/
structure Kp (P : Nat) (w V : World) : Prop where
  bel : Below P w V
  row : ∀ Z t cs, t ≠ 5 → t ≠ 59 → Blk w Z t cs → Blk V Z t cs
theorem Kp.refl (P : Nat) (w : World) : Kp P w w := ⟨Below.refl _ _, fun _ _ _ _ _ h => h⟩
theorem Kp.trans {P : Nat} {a b c : World} (h : Kp P a b) (k : Kp P b c) : Kp P a c := ⟨h.bel.trans k.bel, fun Z t cs h5 h6 q => k.row Z t cs h5 h6 (h.row Z t cs h5 h6 q)⟩
theorem Kp.alloc {P : Nat} {w V : World} (h : Kp P w V) (hP : P ≤ V.heap.size) (o : Obj) : Kp P w (V.alloc o) := ⟨h.bel.alloc hP o, fun Z t cs h5 h6 q => (h.row Z t cs h5 h6 q).alloc o⟩
theorem Kp.drew {P : Nat} {w V : World} (h : Kp P w V) : Kp P w V.drew := ⟨h.bel.drew, fun Z t cs h5 h6 q => h.row Z t cs h5 h6 q⟩
theorem Kp.all {P : Nat} {w V X : World} (h : Kp P w V) (hP : P ≤ V.heap.size) (k : Below V.heap.size V X) : Kp P w X := ⟨h.bel.trans (k.mono hP), fun Z t cs h5 h6 q => (h.row Z t cs h5 h6 q).below k⟩
theorem Kp.set {P B : Nat} {w V : World} {cs0 : Array Value} (h : Kp P w V) (hB : Blk V B 59 cs0) (hP : P ≤ B) (k : Nat) (v : Value) : Kp P w (V.setCell ⟨B, k, none⟩ v) :=
  ⟨h.bel.setCell hP v, fun Z t cs h5 h6 q => (h.row Z t cs h5 h6 q).other k v (fun e => by
    have h1 := h.row Z t cs h5 h6 q
    rw [e] at h1
    unfold Blk at h1 hB
    rw [hB] at h1
    injection h1 with h1
    injection h1 with _ h2
    exact h6 h2.symm)⟩
/-- A value that reads as a row of bytes: of the call's own, or full. -/
def ImV (w : World) (F : Nat) (v : Value) (l : List Nat) : Prop :=
  w.ownsRow F 5 1 v l.length (cv l) ∨ ∃ g, v = .slice (some ⟨g, 0, none⟩) l.length l.length ∧ ∀ j, j < l.length → w.cell? ⟨g, j, none⟩ = some (.int .u8 (l.getD j 0 : Nat))
/-- The writer's box. -/
def Im (w : World) (P F : Nat) (l : List Nat) : Prop := ∃ v, Blk w P 59 #[v] ∧ ImV w F v l
def ImO (w : World) (P F : Nat) (l : List Nat) : Prop := ∃ v, Blk w P 59 #[v] ∧ w.ownsRow F 5 1 v l.length (cv l)
theorem ImO.im {w : World} {P F : Nat} {l : List Nat} (h : ImO w P F l) : Im w P F l := by
  obtain ⟨v, h1, h2⟩ := h
  exact ⟨v, h1, .inl h2⟩
theorem ImV.below {w V : World} {F : Nat} {v : Value} {l : List Nat} (h : ImV w F v l) (hb : Below w.heap.size w V) : ImV V F v l := by
  rcases h with h | ⟨g, h1, h2⟩
  · exact .inl (kept_below h hb)
  · exact .inr ⟨g, h1, fun j hj => cell_kept (h2 j hj) hb⟩
theorem ImV.slice {w : World} {F : Nat} {v : Value} {l : List Nat} (h : ImV w F v l) (h0 : 0 < l.length) : ∃ g c, v = .slice (some ⟨g, 0, none⟩) l.length c := by
  rcases h with h | ⟨g, h1, _⟩
  · obtain ⟨g, c, h1, _⟩ := own_slice h h0
    exact ⟨g, c, h1⟩
  · exact ⟨g, _, h1⟩
theorem Im.below {w V : World} {P F : Nat} {l : List Nat} (h : Im w P F l) (hb : Below w.heap.size w V) : Im V P F l := by
  obtain ⟨v, h1, h2⟩ := h
  exact ⟨v, h1.below hb, h2.below hb⟩
theorem im_set {w : World} {P F : Nat} {l : List Nat} {v v0 : Value} (h : w.ownsRow F 5 1 v l.length (cv l)) (hP : P < F) (hb : Blk w P 59 #[v0]) : ImO (w.setCell ⟨P, 0, none⟩ v) P F l := by
  refine ⟨v, hb.set 0 v, h.kept (row := some P) ⟨rfl, rfl, rfl, by simp, fun k hk hne => Below.heap_setCell _ _ _ _ (fun e => hne (by rw [e]))⟩ (.inr fun e => ?_)⟩
  have := (h.lt P e).1
  omega
theorem Kp.app {P F : Nat} {w V X : World} (h : Kp P w V) (hP : P ≤ F) (hbs : ∀ b t cs, t ≠ 5 → Blk V b t cs → Blk X b t cs) (hbl : ∀ P, P ≤ F → Below P V X) : Kp P w X := ⟨h.bel.trans (hbl P hP), fun Z t cs h5 h6 q => hbs Z t cs h5 (h.row Z t cs h5 h6 q)⟩

/-- append of bytes onto it. -/
theorem run_app_im {w : World} {F : Nat} {v : Value} {xs : List Nat} (him : ImV w F v xs) (ty : TypeId) (g f c : Nat) (ys : List Nat)
    (hnews : ∀ j, j < ys.length → w.cell? ⟨g, f + j, none⟩ = some (.int .u8 (ys.getD j 0 : Nat))) (hys : 0 < ys.length) (hlen : xs.length + ys.length ≤ 100000000) (hbase : F ≤ w.heap.size) :
    ∃ v' w', (Builtin.append_ #[37, 37] ty #[v, .slice (some ⟨g, f, none⟩) ys.length c]).run Tryd.prog w = .ok v' w' ∧ w'.ownsRow F 5 1 v' (xs ++ ys).length (cv (xs ++ ys)) ∧ (∀ b t cs, t ≠ 5 → Blk w b t cs → Blk w' b t cs) ∧ (∀ P, P ≤ F → Below P w w') := by
  obtain ⟨i0, hi, hz0, hz1, hz2⟩ := info_parts Tryd.info5
  have key : ∀ (b o : Nat) (zs : List Nat), (∀ j, j < zs.length → w.cell? ⟨b, o + j, none⟩ = some (.int .u8 (zs.getD j 0 : Nat))) → ∀ j u, (cv zs)[j]? = some u → w.cell? ((⟨b, o, none⟩ : Addr).add j) = some u := fun b o zs hz j u hj => by
    have hjl : j < zs.length := by
      rcases Nat.lt_or_ge j zs.length with h | h
      · exact h
      · rw [List.getElem?_eq_none (by rw [cv_length]; exact h)] at hj; cases hj
    have e : (⟨b, o, none⟩ : Addr).add j = ⟨b, o + j, none⟩ := by unfold Addr.add; split <;> simp_all
    rw [e, hz j hjl, ← hj]
    simp [cv, List.getD, hjl]
  rcases him with hown | ⟨g0, rfl, hold⟩
  · obtain ⟨v', w', hr, h2, h3, _⟩ := run_append_own (P := Tryd.prog) w F 37 ty 5 i0 (.int .u8 0) 1 1 Tryd.underlying37 hi hz0 hz1 hz2 rfl (by decide) v xs.length (cv xs) hown ⟨g, f, none⟩ ys.length c (cv ys) (by rw [cv_length, Nat.mul_one]) (key g f ys hnews) (cv_one ys) (by unfold maxLen; omega) (by omega) hbase
    refine ⟨v', w', hr, ?_, fun b t cs ht hb => blk_app hb ht hown h3, fun P hP => (Below.refl _ w).grown h3 (by omega) (fun k hk => by have := (hown.lt k hk).1; omega)⟩
    rw [List.length_append, cv_append]
    exact h2
  · have hr := run_append_grow (P := Tryd.prog) w 37 ty 5 i0 (.int .u8 0) Tryd.underlying37 hi hz0 ⟨g0, 0, none⟩ xs.length xs.length (cv xs) (by rw [cv_length, hz1, Nat.mul_one]) (key g0 0 xs (fun j hj => by rw [Nat.zero_add]; exact hold j hj)) ⟨g, f, none⟩ ys.length c (cv ys) (by rw [cv_length, hz1, Nat.mul_one]) (key g f ys hnews) (by omega) (by omega) (growslice_fits (by omega) (by rw [hz2]; omega))
    have hbl : Below w.heap.size w (w.drew.alloc (.cells ((cv xs).toArray ++ (cv ys).toArray ++ Builtin.zeroCells (Value.int IntKind.u8 0).cells (grownCap w (xs.length + ys.length) xs.length 5 - (xs.length + ys.length))) 5)) := ⟨rfl, rfl, rfl, by simp, fun k hk => heap_alloc_old w.drew _ hk⟩
    refine ⟨_, _, hr, ?_, fun b t cs _ hb => hb.below hbl, fun P hP => hbl.mono (by omega)⟩
    have hge := grownCap_ge w (xs.length + ys.length) xs.length 5
    rw [List.length_append, cv_append]
    refine ⟨by simp [cv_length], .inr ⟨w.heap.size, _, _, rfl, hbase, heap_alloc_new w.drew _, hge, grownCap_le_maxLen w _ _ 5 (by unfold maxLen; omega), ?_, ?_⟩⟩
    · simp only [Array.size_append, List.size_toArray, size_zeroCells, cv_length]
      have : (Value.int IntKind.u8 0).cells.size = 1 := rfl
      rw [this]
      omega
    · simp only [Array.toList_append, List.append_assoc]
      rw [← List.append_assoc]
      have : (xs.length + ys.length) * 1 = (cv xs ++ cv ys).length := by rw [List.length_append, cv_length, cv_length, Nat.mul_one]
      rw [this]
      exact List.take_left

/-- .. as one step of a region that draws. -/
theorem step_app_im {ops : Array Oper} {o : Oper} {a : Act} {w : World} {K : Act → World → Prop} {Q : Exit → Act → World → Prop} {E : Prop} (hgd : o.guard = none) (s x : Operand)
    (ho : o.op = .call { callee := .builtin .append, args := #[s, x], argTypes := #[37, 37] }) (F : Nat) (v : Value) (xs : List Nat) (hs : a.eval s = v) (him : ImV w F v xs)
    (g f c : Nat) (ys : List Nat) (hx : a.eval x = .slice (some ⟨g, f, none⟩) ys.length c) (hnews : ∀ j, j < ys.length → w.cell? ⟨g, f + j, none⟩ = some (.int .u8 (ys.getD j 0 : Nat))) (hys : 0 < ys.length) (hlen : xs.length + ys.length ≤ 100000000) (hbase : F ≤ w.heap.size)
    (h : ∀ v' w' l, Hid (l = xs ++ ys) → w'.ownsRow F 5 1 v' l.length (cv l) → (∀ b t cs, t ≠ 5 → Blk w b t cs → Blk w' b t cs) → (∀ P, P ≤ F → Below P w w') → K (a.put o.dst v') w') :
    if Region.wanted o (yielded ops a.tmps) = true then Oper.wp Tryd.prog o a w K Q else E := by
  have hw : Region.wanted o (yielded ops a.tmps) = true := by simp [Region.wanted, hgd]
  rw [if_pos hw]
  obtain ⟨v', w', hr, h1, h2, h3⟩ := run_app_im him o.type g f c ys hnews hys hlen hbase
  unfold Oper.wp execOp
  simp only [ho, resolve, invoke, builtin, Sem.run_bind, Sem.run_pure, Result.andThen_ok, List.map_toArray, List.map_cons, List.map_nil, hs, hx, hr]
  exact h v' w' (xs ++ ys) rfl h1 h2 h3
/-- .. in a region that does not. -/
theorem wp_app_im {ops : Array Oper} {rest : List Oper} {o : Oper} {a : Act} {Q : Exit → Act → World → Prop} {w : World} (hgd : o.guard = none) (s x : Operand)
    (ho : o.op = .call { callee := .builtin .append, args := #[s, x], argTypes := #[37, 37] }) (F : Nat) (v : Value) (xs : List Nat) (hs : a.eval s = v) (him : ImV w F v xs)
    (g f c : Nat) (ys : List Nat) (hx : a.eval x = .slice (some ⟨g, f, none⟩) ys.length c) (hnews : ∀ j, j < ys.length → w.cell? ⟨g, f + j, none⟩ = some (.int .u8 (ys.getD j 0 : Nat))) (hys : 0 < ys.length) (hlen : xs.length + ys.length ≤ 100000000) (hbase : F ≤ w.heap.size)
    (h : ∀ v' w' l, Hid (l = xs ++ ys) → w'.ownsRow F 5 1 v' l.length (cv l) → (∀ b t cs, t ≠ 5 → Blk w b t cs → Blk w' b t cs) → (∀ P, P ≤ F → Below P w w') → wpList Tryd.prog ops Q rest (a.put o.dst v') w') : wpList Tryd.prog ops Q (o :: rest) a w := by
  obtain ⟨v', w', hr, h1, h2, h3⟩ := run_app_im him o.type g f c ys hnews hys hlen hbase
  refine wpList_plain hgd fun K hK => ?_
  unfold Oper.wp execOp
  simp only [ho, resolve, invoke, builtin, Sem.run_bind, Sem.run_pure, Result.andThen_ok, List.map_toArray, List.map_cons, List.map_nil, hs, hx, hr]
  exact hK _ _ (h v' w' (xs ++ ys) rfl h1 h2 h3)
end Go.Proofs.YtpnocklldlacjaaDoor

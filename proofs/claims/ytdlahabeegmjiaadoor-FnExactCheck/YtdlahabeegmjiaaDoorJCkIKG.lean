/-
  Plainly: the first faults that impl.Check meets are the least ones. Statements, macros, programs.
-/
import Derived.Test.YtdlahabeegmjiaaDoorJCkIKD
import Derived.Test.YtdlahabeegmjiaaDoorJCkCKY
namespace Go.Proofs.YtdlahabeegmjiaaDoor

/-- A name fault that was met stays; nothing is bound. -/
theorem xI_keep (L : List Nd) : ∀ F s i, (xI L F s i).2.vars = s.vars ∧ (s.nf ≠ 0 → (xI L F s i).2.nf = s.nf)
  | 0, s, i => ⟨rfl, fun _ => rfl⟩
  | F + 1, s, i => by
    have all : ∀ X s ts, (xAll (xI L F) X s ts).2.vars = s.vars ∧ (s.nf ≠ 0 → (xAll (xI L F) X s ts).2.nf = s.nf) := by
      intro X
      induction X with
      | nil => intro s ts; exact ⟨rfl, fun _ => rfl⟩
      | cons k X ih =>
        intro s ts
        rw [xAll]
        have h1 := xI_keep L F s k
        have h2 := ih (xI L F s k).2 (ts ++ [(xI L F s k).1])
        exact ⟨by rw [h2.1, h1.1], fun h => by rw [h2.2 (by rw [h1.2 h]; exact h), h1.2 h]⟩
    rw [xI]
    split
    · split
      · exact ⟨rfl, fun h => if_neg h⟩
      · exact ⟨rfl, fun _ => rfl⟩
    · show (fitR L i (xAll (xI L F) (kidsOf L i) s [])).2.vars = s.vars ∧ (s.nf ≠ 0 → (fitR L i (xAll (xI L F) (kidsOf L i) s [])).2.nf = s.nf)
      have h := all (kidsOf L i) s []
      unfold fitR
      split
      · exact h
      · split
        · exact h
        · exact h
theorem fitI_keep (L : List Nd) (F : Nat) (s : Ci) (i : Nat) (X : List Nat) : (fitI L (xI L F) s i X).2.vars = s.vars ∧ (s.nf ≠ 0 → (fitI L (xI L F) s i X).2.nf = s.nf) := by
  have all : ∀ X s ts, (xAll (xI L F) X s ts).2.vars = s.vars ∧ (s.nf ≠ 0 → (xAll (xI L F) X s ts).2.nf = s.nf) := by
    intro X
    induction X with
    | nil => intro s ts; exact ⟨rfl, fun _ => rfl⟩
    | cons k X ih =>
      intro s ts
      rw [xAll]
      have h1 := xI_keep L F s k
      have h2 := ih (xI L F s k).2 (ts ++ [(xI L F s k).1])
      exact ⟨by rw [h2.1, h1.1], fun h => by rw [h2.2 (by rw [h1.2 h]; exact h), h1.2 h]⟩
  have h := all X s []
  unfold fitI fitR
  split
  · exact h
  · split
    · exact h
    · exact h
/-- Nodes that are no expressions have no types. -/
theorem tyAll_cut (L : List Nd) (F : Nat) : ∀ X Y c ts, (∀ k ∈ Y, ¬ (16 ≤ (ndA L k).kind ∧ (ndA L k).kind ≤ 22)) → tyAll L F (X ++ Y) c ts = tyAll L F X c ts
  | [], Y, c, ts, h => by
    induction Y with
    | nil => rfl
    | cons k Y ih =>
      have e : tyAll L F (k :: Y) c ts = tyAll L F Y c ts := by rw [tyAll, if_neg (h k (List.mem_cons_self ..))]
      rw [List.nil_append, e]
      exact ih (fun k hk => h k (List.mem_cons_of_mem _ hk))
  | k :: X, Y, c, ts, h => by
    rw [List.cons_append, tyAll, tyAll, tyAll_cut L F X Y _ _ h, tyAll_cut L F X Y _ _ h]
theorem takes_tk {L : List Nd} {i : Nat} {W ts : List Int} (hk : (ndA L i).kind ≠ 20 ∧ (ndA L i).kind ≠ 21) (h : takesT L i ts.length = some W) (h1 : (ndA L i).kind = 6 → ts.length = 1) (h3 : (ndA L i).kind = 14 ∨ (ndA L i).kind = 15 → 0 < ts.length) : tkI L (ndA L i) ts = decide (W = ts) := by
  have rep : ∀ ts : List Int, allI ts = decide (List.replicate ts.length 0 = ts) := by
    intro ts
    induction ts with
    | nil => rfl
    | cons t ts ih =>
      have e : allI (t :: ts) = (t == 0 && allI ts) := rfl
      rw [e, ih, List.length_cons, List.replicate_succ]
      rw [Bool.eq_iff_iff, Bool.and_eq_true, beq_iff_eq, decide_eq_true_eq, decide_eq_true_eq, List.cons.injEq]
      exact ⟨fun h => ⟨h.1.symm, h.2⟩, fun h => ⟨h.1.symm, h.2⟩⟩
  unfold takesT at h
  unfold tkI macZ
  by_cases q4 : (ndA L i).kind = 4
  · rw [if_pos q4] at h ⊢
    split at h
    · cases h
    · injection h with h
      rw [h]
      rw [Bool.eq_iff_iff, decide_eq_true_eq, decide_eq_true_eq]
      exact ⟨Eq.symm, Eq.symm⟩
  · rw [if_neg q4] at h ⊢
    injection h with h
    by_cases q6 : (ndA L i).kind = 6
    · rw [if_pos q6] at h
      rw [if_pos (.inl q6), ← h]
      match ts, h1 q6 with
      | [t], _ =>
        rw [Bool.eq_iff_iff, beq_iff_eq, decide_eq_true_eq]
        show t = 2 ↔ [(2 : Int)] = [t]
        rw [List.cons.injEq]
        exact ⟨fun h => ⟨h.symm, rfl⟩, fun h => h.1.symm⟩
    · rw [if_neg q6] at h
      rw [if_neg (by omega)]
      by_cases q14 : (ndA L i).kind = 14 ∨ (ndA L i).kind = 15
      · rw [if_pos q14] at h ⊢
        rw [← h]
        match ts, h3 q14 with
        | t :: ts, _ =>
          rw [rep]
          rw [Bool.eq_iff_iff, Bool.and_eq_true, beq_iff_eq, decide_eq_true_eq, decide_eq_true_eq]
          show t = 1 ∧ List.replicate ts.length 0 = ts ↔ (1 : Int) :: List.replicate ts.length 0 = t :: ts
          rw [List.cons.injEq]
          exact ⟨fun h => ⟨h.1.symm, h.2⟩, fun h => ⟨h.1.symm, h.2⟩⟩
      · rw [if_neg q14] at h ⊢
        rw [if_neg hk.1, ← h, rep]
/-- The expressions of a statement: what they leave is alike. -/
theorem fit_rel {L : List Nd} (hz0 : ∀ nm, macA L nm ≠ 0) {f : Nat} (hf : f ≤ 60) {i e m : Nat} {c : Ck} {s : Ci} {X Y : List Nat} (hX : kidsOf L i = X ++ Y) (hl : Lk L f X (i + 1) m) (hm : m ≤ e) (hx : ∀ k ∈ X, Gd L f k ∧ 16 ≤ (ndA L k).kind ∧ (ndA L k).kind ≤ 22) (hy : ∀ k ∈ Y, ¬ (16 ≤ (ndA L k).kind ∧ (ndA L k).kind ≤ 22)) (hi : 0 < i) (hr : Rl c s) (hb : Bdd c i)
    (hk : (ndA L i).kind ≠ 20 ∧ (ndA L i).kind ≠ 21) (h1 : (ndA L i).kind = 6 → X.length = 1) (h3 : (ndA L i).kind = 14 ∨ (ndA L i).kind = 15 → 0 < X.length) :
    Rl (ckT L (tyAll L 61 (kidsOf L i) c []).2 i (tyAll L 61 (kidsOf L i) c []).1) (fitI L (xI L 61) (if (ndA L i).kind = 4 ∧ macZ L ((ndA L i).names.getD 0 .empty) = 0 then s.fN i else s) i X).2 ∧ Bdd (ckT L (tyAll L 61 (kidsOf L i) c []).2 i (tyAll L 61 (kidsOf L i) c []).1) e := by
  have hmge : i + 1 ≤ m := hl.le
  obtain ⟨x1, x2, x3, x4, x5, x6⟩ := xs_rel (x_rel f hf) (show f ≤ 61 by omega) X (i + 1) m c s [] hl hx (by omega) hr (hb.mono (by omega)) (fun t h => by cases h)
  rw [List.map_nil] at x1 x3
  rw [hX, tyAll_cut L 61 X Y c [] hy]
  have hid := tyAll_id L 61 X c []
  have hvs := tyAll_vars L 61 X c []
  obtain ⟨T, hT⟩ : ∃ T, tyAll L 61 X c [] = T := ⟨_, rfl⟩
  rw [hT] at x1 x2 x3 x4 x5 x6 hid hvs ⊢
  by_cases q0 : (ndA L i).kind = 4 ∧ macA L ((ndA L i).names.getD 0 .empty) < 0
  · have hz : macZ L ((ndA L i).names.getD 0 .empty) = 0 := by unfold macZ; omega
    rw [if_pos ⟨q0.1, hz⟩]
    have ht : takesT L i T.1.length = none := by unfold takesT; rw [if_pos q0.1, if_pos q0.2]
    have ec : ckT L T.2 i T.1 = T.2.badN i := by unfold ckT; rw [ht]
    rw [ec]
    have hkp := fitI_keep L 61 (s.fN i) i X
    have hn0 := hb.n0
    have hnn := hb.n
    have hsn := hr.nf
    have en : (T.2.badN i).names = if c.names < 0 then (i : Int) else c.names := by
      show fstI T.2.names i = _
      unfold fstI
      rcases x5 with x5 | ⟨x5, x7⟩
      · rw [x5]
        by_cases q : c.names < 0
        · rw [if_pos (.inl q), if_pos q]
        · rw [if_neg (by omega), if_neg q]
      · rw [if_pos (.inr (by omega)), if_pos x5]
    have hnz : (s.fN i).nf ≠ 0 := by show (if s.nf = 0 then i else s.nf) ≠ 0; split <;> omega
    have hpos : 0 < (T.2.badN i).names := by rw [en]; split <;> omega
    refine ⟨⟨?_, ?_, ?_, fun k => by omega⟩, ⟨.inr hpos, ?_, x4.t0, by have := x4.t; show T.2.types < _; omega⟩⟩
    · rw [hkp.1]; show s.vars = _; rw [hr.vars]; show _ = List.map _ T.2.vars; rw [hvs]
    · show ∀ v ∈ T.2.vars, _; rw [hvs]; exact hr.pos
    · rw [hkp.2 hnz, en]
      show (if s.nf = 0 then i else s.nf) = _
      by_cases q : c.names < 0
      · rw [if_pos q, if_pos (by omega)]; rfl
      · rw [if_neg q, if_neg (by omega), hsn]
    · rw [en]; split <;> omega
  · have hz : ¬ ((ndA L i).kind = 4 ∧ macZ L ((ndA L i).names.getD 0 .empty) = 0) := by
      rintro ⟨h4, hz⟩
      have hge : 0 ≤ macA L ((ndA L i).names.getD 0 .empty) := by omega
      unfold macZ at hz
      have h00 : macA L ((ndA L i).names.getD 0 .empty) = 0 := by omega
      exact hz0 _ h00
    rw [if_neg hz]
    have ht : ∃ W, takesT L i T.1.length = some W := by
      unfold takesT
      by_cases q4 : (ndA L i).kind = 4
      · rw [if_pos q4, if_neg (fun h => q0 ⟨q4, h⟩)]; exact ⟨_, rfl⟩
      · rw [if_neg q4]; exact ⟨_, rfl⟩
    obtain ⟨W, ht⟩ := ht
    have ec : ckT L T.2 i T.1 = if T.1.contains 3 then T.2 else if W = T.1 then T.2 else T.2.badT i := by unfold ckT; rw [ht]
    rw [ec]
    unfold fitI fitR
    rw [x1, contains_tau x2]
    by_cases c3 : T.1.contains 3 = true
    · rw [if_pos c3, if_pos c3]
      exact ⟨x3, x4.mono hm⟩
    · rw [if_neg c3, if_neg c3]
      have c3' : T.1.contains 3 = false := by simpa using c3
      rw [map_tau c3']
      have hTc := hid (fun h => by rw [List.contains_iff_mem.2 h] at c3'; cases c3')
      have hl0 : T.1.length = X.length := by rw [x6]; simp
      rw [takes_tk hk ht (fun h => by rw [hl0]; exact h1 h) (fun h => by rw [hl0]; exact h3 h)]
      by_cases cw : W = T.1
      · rw [if_pos cw, if_pos (decide_eq_true cw)]
        exact ⟨x3, x4.mono hm⟩
      · rw [if_neg cw, if_neg (by rw [decide_eq_true_eq]; exact cw)]
        have hbT : Bdd T.2 i := by rw [hTc]; exact hb
        obtain ⟨r1, r2⟩ := x3.badT hbT hi
        exact ⟨r1, r2.mono (by omega)⟩
theorem macL_mem (L : List Nd) (nm : ByteArray) : ∀ X, -1 ≤ macL L nm X ∧ ∀ j : Nat, macL L nm X = (j : Int) → j ∈ X ∧ (ndA L j).kind = 1 ∧ (ndA L j).names.getD 0 .empty = nm
  | [] => ⟨by rw [macL]; omega, fun j h => by rw [macL] at h; omega⟩
  | x :: X => by
    have ih := macL_mem L nm X
    rw [macL]
    split
    · rename_i hx
      exact ⟨by omega, fun j h => by
        have : x = j := by omega
        subst this
        exact ⟨List.mem_cons_self .., hx⟩⟩
    · exact ⟨ih.1, fun j h => ⟨List.mem_cons_of_mem _ (ih.2 j h).1, (ih.2 j h).2⟩⟩
theorem macA_mem {L : List Nd} (hT : vT L = true) (nm : ByteArray) : -1 ≤ macA L nm ∧ ∀ j : Nat, macA L nm = (j : Int) → 0 < j ∧ j < L.length ∧ j ∈ kidsOf L 0 ∧ Gd L 59 j ∧ (ndA L j).kind = 1 ∧ (ndA L j).names.getD 0 .empty = nm := by
  have h := macL_mem L nm (kidsOf L 0)
  refine ⟨h.1, fun j hj => ?_⟩
  obtain ⟨h1, h2⟩ := h.2 j hj
  obtain ⟨q, hq, hqj⟩ := List.getElem_of_mem h1
  have hG0 := (vT_good hT).2.2.2
  have hqs : (kidsOf L 0)[q]? = some j := by rw [List.getElem?_eq_getElem hq, hqj]
  have := hG0.kge (by omega) hqs
  exact ⟨by omega, this.2, h1, ((hG0.step (by omega)).2.2.2.2 q j hqs).1, h2⟩
theorem macA_ne0 {L : List Nd} (hT : vT L = true) (nm : ByteArray) : macA L nm ≠ 0 := fun h => by
  have := ((macA_mem hT nm).2 0 h).1
  omega
end Go.Proofs.YtdlahabeegmjiaaDoor

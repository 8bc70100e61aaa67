/-
  Plainly: the first faults that impl.Check meets are the least ones: statements, macros, programs.
-/
import Derived.Test.YtdlahabeegmjiaaDoorJCkIKG
namespace Go.Proofs.YtdlahabeegmjiaaDoor

theorem Gd.mem {L : List Nd} {f i : Nat} (h : Gd L (f + 1) i) (hf : f + 1 ≤ 60) : ∀ j k, (kidsOf L i)[j]? = some k → Gd L f k ∧ mSt (ndA L i).kind (j : Nat) (ndA L k).kind = true := fun j k hj => (h.step hf).2.2.2.2 j k hj
theorem mSt_ex {p i k : Int} (hp : p ≠ 0 ∧ p ≠ 1 ∧ p ≠ 2) (h5 : ¬ (p = 5 ∧ i = 2)) (h6 : ¬ (p = 6 ∧ 0 < i)) (h : mSt p i k = true) : 16 ≤ k ∧ k ≤ 22 := by
  unfold mSt at h
  rw [if_neg hp.1, if_neg hp.2.2, if_neg hp.2.1, if_neg h5, if_neg h6] at h
  unfold isExpr at h
  simpa using h
theorem mSt_st {k i : Int} (h : mSt 2 i k = true) : 3 ≤ k ∧ k ≤ 15 := by
  unfold mSt isStat at h
  simpa using h
/-- What is shown of a statement, and of a block. -/
def SR (L : List Nd) (f : Nat) : Prop := ∀ F i e c s, f ≤ F → Gd L f i → sE L.length (cn L) f i = some e → 0 < i → 3 ≤ (ndA L i).kind → (ndA L i).kind ≤ 15 → Rl c s → Bdd c i → Rl (ckS L F c i) (iS L F s i) ∧ Bdd (ckS L F c i) e
def BR (L : List Nd) (f : Nat) : Prop := ∀ F i e c s, f ≤ F + 1 → Gd L f i → sE L.length (cn L) f i = some e → 0 < i → (ndA L i).kind = 2 → Rl c s → Bdd c i → Rl (ckAll (ckS L F) (kidsOf L i) c) (iAll (iS L F) (kidsOf L i) s) ∧ Bdd (ckAll (ckS L F) (kidsOf L i) c) e
theorem all_rel {L : List Nd} {f : Nat} {st : Ck → Nat → Ck} {st' : Ci → Nat → Ci} {P : Nat → Prop} (IH : ∀ i e c s, P i → sE L.length (cn L) f i = some e → 0 < i → Rl c s → Bdd c i → Rl (st c i) (st' s i) ∧ Bdd (st c i) e) : ∀ X a e c s, Lk L f X a e → (∀ k ∈ X, P k) → 0 < a → Rl c s → Bdd c a → Rl (ckAll st X c) (iAll st' X s) ∧ Bdd (ckAll st X c) e
  | [], a, e, c, s, hl, hx, ha, hr, hb => by
    have hl : a = e := hl
    subst hl
    exact ⟨hr, hb⟩
  | k :: X, a, e, c, s, hl, hx, ha, hr, hb => by
    obtain ⟨rfl, q, hq, hl2⟩ := hl
    have h1 := IH a q c s (hx a (List.mem_cons_self ..)) hq ha hr hb
    have hlt := (sE_br _ _ _ _ _ hq).lt
    exact all_rel IH X q e _ _ hl2 (fun k hk => hx k (List.mem_cons_of_mem _ hk)) (by omega) h1.1 h1.2
theorem br_of {L : List Nd} {f : Nat} (hf : f + 1 ≤ 60) (hS : SR L f) : BR L (f + 1) := by
  intro F i e c s hF hg he hi hk hr hb
  have hlk := Gd.lk hf he
  refine all_rel (P := fun k => Gd L f k ∧ 3 ≤ (ndA L k).kind ∧ (ndA L k).kind ≤ 15) (fun i e c s hP he hi hr hb => hS F i e c s (by omega) hP.1 he hi hP.2.1 hP.2.2 hr hb) (kidsOf L i) (i + 1) e c s hlk (fun k hk' => ?_) (by omega) hr (hb.mono (by omega))
  obtain ⟨j, hj, hjk⟩ := List.getElem_of_mem hk'
  obtain ⟨h1, h2⟩ := hg.mem hf j k (by rw [List.getElem?_eq_getElem hj, hjk])
  rw [hk] at h2
  exact ⟨h1, mSt_st h2⟩
/-- What was bound is forgotten on both sides. -/
theorem Rl.back {c c' : Ck} {s s' : Ci} (h : Rl c s) (h' : Rl c' s') : Rl { c' with vars := c.vars } { s' with vars := s.vars } := ⟨h.vars, h.pos, h'.nf, h'.tf⟩
theorem Bdd.back {c' : Ck} {b : Nat} (h : Bdd c' b) (vs : List (ByteArray × Int)) : Bdd { c' with vars := vs } b := ⟨h.n0, h.n, h.t0, h.t⟩
theorem Rl.add {c : Ck} {s : Ci} (h : Rl c s) {nm : ByteArray} {t : Int} (ht : 0 ≤ t) : Rl { c with vars := c.vars ++ [(nm, t)] } { s with vars := s.vars ++ [(nm, tau t)] } :=
  ⟨by show s.vars ++ _ = List.map _ (c.vars ++ _); rw [List.map_append, h.vars]; rfl, fun v hv => by
    have hv : v ∈ c.vars ++ [(nm, t)] := hv
    rcases List.mem_append.1 hv with hv | hv
    · exact h.pos v hv
    · rw [List.mem_singleton.1 hv]; exact ht, h.nf, h.tf⟩
theorem iB_nil (L : List Nd) (st : Ci → Nat → Ci) (s : Ci) (k : Nat) : iB L st s k [] = { iAll st (kidsOf L k) s with vars := s.vars } := by
  unfold iB
  rw [List.append_nil]
theorem s_rel_succ {L : List Nd} (hz0 : ∀ nm, macA L nm ≠ 0) {f : Nat} (hf : f + 1 ≤ 60) (hS : SR L f) (hB : BR L f) : SR L (f + 1) := by
  intro F i e c s hF hg he hi h3 h15 hr hb
  obtain ⟨F, rfl⟩ : ∃ G, F = G + 1 := ⟨F - 1, by omega⟩
  have hlk := Gd.lk hf he
  have hmem := hg.mem hf
  have hcnt := (hg.fld hf).1
  have hile : i + 1 ≤ e := hlk.le
  -- all kids are expressions
  have hall : (ndA L i).kind ≠ 5 → (ndA L i).kind ≠ 6 → ∀ k ∈ kidsOf L i, Gd L f k ∧ 16 ≤ (ndA L k).kind ∧ (ndA L k).kind ≤ 22 := fun n5 n6 k hk => by
    obtain ⟨j, hj, hjk⟩ := List.getElem_of_mem hk
    obtain ⟨h1, h2⟩ := hmem j k (by rw [List.getElem?_eq_getElem hj, hjk])
    exact ⟨h1, mSt_ex (by omega) (fun h => n5 h.1) (fun h => n6 h.1) h2⟩
  by_cases q3 : (ndA L i).kind = 3
  · have hl1 : (kidsOf L i).length = 1 := by
      rw [kids_len]
      unfold vCnt at hcnt
      rw [q3] at hcnt; simp at hcnt; omega
    match hk : kidsOf L i, hl1 with
    | [k], _ =>
      have hx := hall (by omega) (by omega) k (by rw [hk]; simp)
      rw [hk] at hlk
      obtain ⟨rfl, q, hq, rfl⟩ := hlk
      obtain ⟨e1, e2, e3, e4, _⟩ := x_rel f (by omega) 61 (i + 1) q c s (by omega) hx.1 hq (by omega) hx.2.1 hx.2.2 hr (hb.mono (by omega))
      have eS : ckS L (F + 1) c i = { (tyO L 61 c (i + 1)).2 with vars := (tyO L 61 c (i + 1)).2.vars ++ [((ndA L i).names.getD 0 .empty, (tyO L 61 c (i + 1)).1)] } := by
        rw [ckS]
        simp only
        rw [if_pos q3, hk, tyAll, if_pos hx.2, tyAll]
        rfl
      have eI : iS L (F + 1) s i = { (xI L 61 s (i + 1)).2 with vars := (xI L 61 s (i + 1)).2.vars ++ [((ndA L i).names.getD 0 .empty, (xI L 61 s (i + 1)).1)] } := by
        rw [iS, if_pos q3, hk]
        rfl
      rw [eS, eI, e1]
      exact ⟨e3.add e2, e4.back _⟩
  by_cases q5 : (ndA L i).kind = 5
  · have hl3 := hg.for3 hf q5
    match hk : kidsOf L i, hl3 with
    | [k0, k1, k2], _ =>
      rw [hk] at hlk hmem
      have m0 := hmem 0 k0 rfl
      have m1 := hmem 1 k1 rfl
      have m2 := hmem 2 k2 rfl
      rw [q5] at m0 m1 m2
      have x0 := mSt_ex (by omega) (by omega) (by omega) m0.2
      have x1 := mSt_ex (by omega) (by omega) (by omega) m1.2
      have x2 : (ndA L k2).kind = 2 := by have := m2.2; unfold mSt at this; simpa using this
      obtain ⟨m, hla, hlb⟩ := Lk.app (X := [k0, k1]) (Y := [k2]) hlk
      have hmge : i + 1 ≤ m := hla.le
      obtain ⟨rfl, q, hq, rfl⟩ := hlb
      have hfit := fit_rel hz0 (show f ≤ 60 by omega) (i := i) (e := m) (X := [k0, k1]) (Y := [m]) hk hla (Nat.le_refl _) (fun k hk' => by
        rcases List.mem_cons.1 hk' with rfl | hk'
        · exact ⟨m0.1, x0⟩
        · rw [List.mem_singleton.1 hk']; exact ⟨m1.1, x1⟩) (fun k hk' => by rw [List.mem_singleton.1 hk', x2]; omega) hi hr hb (by omega) (fun h => by omega) (fun h => by omega)
      rw [if_neg (by omega)] at hfit
      obtain ⟨r1, r2⟩ := hfit
      have eS : ckS L (F + 1) c i = { ckAll (ckS L F) (kidsOf L m) { (ckT L (tyAll L 61 (kidsOf L i) c []).2 i (tyAll L 61 (kidsOf L i) c []).1) with vars := (ckT L (tyAll L 61 (kidsOf L i) c []).2 i (tyAll L 61 (kidsOf L i) c []).1).vars ++ [((ndA L i).names.getD 0 .empty, 0)] } with vars := (ckT L (tyAll L 61 (kidsOf L i) c []).2 i (tyAll L 61 (kidsOf L i) c []).1).vars } := by
        rw [ckS]
        simp only
        rw [if_neg q3, if_pos q5, hk]
        rfl
      have eI : iS L (F + 1) s i = { iAll (iS L F) (kidsOf L m) { (fitI L (xI L 61) s i [k0, k1]).2 with vars := (fitI L (xI L 61) s i [k0, k1]).2.vars ++ [((ndA L i).names.getD 0 .empty, 0)] } with vars := (fitI L (xI L 61) s i [k0, k1]).2.vars } := by
        rw [iS, if_neg q3, if_neg (by omega), if_pos q5, hk]
        rfl
      rw [eS, eI]
      have radd := r1.add (nm := (ndA L i).names.getD 0 .empty) (t := 0) (Int.le_refl _)
      rw [show tau 0 = 0 from rfl] at radd
      obtain ⟨b1, b2⟩ := hB F m q _ _ (by omega) m2.1 hq (by omega) x2 radd (r2.back _)
      exact ⟨r1.back b1, b2.back _⟩
  by_cases q6 : (ndA L i).kind = 6
  · have hl23 := hg.if23 hf q6
    match hk : kidsOf L i, hl23 with
    | [k0, k1], _ =>
      rw [hk] at hlk hmem
      have m0 := hmem 0 k0 rfl
      have m1 := hmem 1 k1 rfl
      rw [q6] at m0 m1
      have x0 := mSt_ex (by omega) (by omega) (by omega) m0.2
      have x1 : (ndA L k1).kind = 2 := by have := m1.2; unfold mSt at this; simpa using this
      obtain ⟨m, hla, hlb⟩ := Lk.app (X := [k0]) (Y := [k1]) hlk
      have hmge : i + 1 ≤ m := hla.le
      obtain ⟨rfl, q, hq, rfl⟩ := hlb
      have hfit := fit_rel hz0 (show f ≤ 60 by omega) (i := i) (e := m) (X := [k0]) (Y := [m]) hk hla (Nat.le_refl _) (fun k hk' => by rw [List.mem_singleton.1 hk']; exact ⟨m0.1, x0⟩) (fun k hk' => by rw [List.mem_singleton.1 hk', x1]; omega) hi hr hb (by omega) (fun _ => rfl) (fun h => by omega)
      rw [if_neg (by omega)] at hfit
      obtain ⟨r1, r2⟩ := hfit
      have eS : ckS L (F + 1) c i = { ckAll (ckS L F) (kidsOf L m) (ckT L (tyAll L 61 (kidsOf L i) c []).2 i (tyAll L 61 (kidsOf L i) c []).1) with vars := (ckT L (tyAll L 61 (kidsOf L i) c []).2 i (tyAll L 61 (kidsOf L i) c []).1).vars } := by
        rw [ckS]
        simp only
        rw [if_neg q3, if_neg q5, if_pos q6, hk]
        rfl
      have eI : iS L (F + 1) s i = { iAll (iS L F) (kidsOf L m) (fitI L (xI L 61) s i [k0]).2 with vars := (fitI L (xI L 61) s i [k0]).2.vars } := by
        rw [iS, if_neg q3, if_neg (by omega), if_neg q5, if_pos q6, hk]
        show iBr L (iS L F) (fitI L (xI L 61) s i [k0]).2 m = _
        unfold iBr
        rw [if_neg (by rw [x1]; omega)]
        rw [iB_nil]
      rw [eS, eI]
      obtain ⟨b1, b2⟩ := hB F m q _ _ (by omega) m1.1 hq (by omega) x1 r1 r2
      exact ⟨r1.back b1, b2.back _⟩
    | [k0, k1, k2], _ =>
      rw [hk] at hlk hmem
      have m0 := hmem 0 k0 rfl
      have m1 := hmem 1 k1 rfl
      have m2 := hmem 2 k2 rfl
      rw [q6] at m0 m1 m2
      have x0 := mSt_ex (by omega) (by omega) (by omega) m0.2
      have x1 : (ndA L k1).kind = 2 := by have := m1.2; unfold mSt at this; simpa using this
      have x2 : (ndA L k2).kind = 2 ∨ (ndA L k2).kind = 6 := by have := m2.2; unfold mSt at this; simpa using this
      obtain ⟨m, hla, hlb⟩ := Lk.app (X := [k0]) (Y := [k1, k2]) hlk
      have hmge : i + 1 ≤ m := hla.le
      obtain ⟨rfl, q, hq, rfl, q', hq', rfl⟩ := hlb
      have hlt := (sE_br _ _ _ _ _ hq).lt
      have hfit := fit_rel hz0 (show f ≤ 60 by omega) (i := i) (e := m) (X := [k0]) (Y := [m, q]) hk hla (Nat.le_refl _) (fun k hk' => by rw [List.mem_singleton.1 hk']; exact ⟨m0.1, x0⟩) (fun k hk' => by
        rcases List.mem_cons.1 hk' with rfl | hk'
        · rw [x1]; omega
        · rw [List.mem_singleton.1 hk']; omega) hi hr hb (by omega) (fun _ => rfl) (fun h => by omega)
      rw [if_neg (by omega)] at hfit
      obtain ⟨r1, r2⟩ := hfit
      obtain ⟨c1, hc1⟩ : ∃ c1, ckT L (tyAll L 61 (kidsOf L i) c []).2 i (tyAll L 61 (kidsOf L i) c []).1 = c1 := ⟨_, rfl⟩
      obtain ⟨s1, hs1⟩ : ∃ s1, (fitI L (xI L 61) s i [k0]).2 = s1 := ⟨_, rfl⟩
      have eS : ckS L (F + 1) c i = if (ndA L q).kind = 6 then ckS L F { ckAll (ckS L F) (kidsOf L m) c1 with vars := c1.vars } q else { ckAll (ckS L F) (kidsOf L q) { ckAll (ckS L F) (kidsOf L m) c1 with vars := c1.vars } with vars := c1.vars } := by
        rw [← hc1, ckS]
        simp only
        rw [if_neg q3, if_neg q5, if_pos q6, hk]
        by_cases w : (ndA L q).kind = 6
        · rw [if_pos w]
          show (if [k0, m, q].length = 3 ∧ (ndA L q).kind = 6 then _ else _) = _
          rw [if_pos ⟨rfl, w⟩]
          rfl
        · rw [if_neg w]
          show (if [k0, m, q].length = 3 ∧ (ndA L q).kind = 6 then _ else _) = _
          rw [if_neg (fun h => w h.2), if_pos (show [k0, m, q].length = 3 from rfl)]
          rfl
      have eI : iS L (F + 1) s i = if (ndA L q).kind = 6 then iS L F { iAll (iS L F) (kidsOf L m) s1 with vars := s1.vars } q else { iAll (iS L F) (kidsOf L q) { iAll (iS L F) (kidsOf L m) s1 with vars := s1.vars } with vars := s1.vars } := by
        rw [← hs1, iS, if_neg q3, if_neg (by omega), if_neg q5, if_pos q6, hk]
        show iBr L (iS L F) (iBr L (iS L F) (fitI L (xI L 61) s i [k0]).2 m) q = _
        unfold iBr
        rw [if_neg (show ¬ (ndA L m).kind = 6 by rw [x1]; omega)]
        rw [iB_nil, iB_nil]
      rw [hc1] at r1 r2
      rw [hs1] at r1
      rw [eS, eI]
      obtain ⟨b1, b2⟩ := hB F m q _ _ (by omega) m1.1 hq (by omega) x1 r1 r2
      have r3 := r1.back b1
      have r4 := b2.back c1.vars
      by_cases w : (ndA L q).kind = 6
      · rw [if_pos w, if_pos w]
        exact hS F q q' _ _ (by omega) m2.1 hq' (by omega) (by omega) (by omega) r3 r4
      · rw [if_neg w, if_neg w]
        obtain ⟨b3, b4⟩ := hB F q q' _ _ (by omega) m2.1 hq' (by omega) (by omega) r3 r4
        exact ⟨r3.back b3, b4.back _⟩
  have hfit := fit_rel hz0 (show f ≤ 60 by omega) (i := i) (e := e) (X := kidsOf L i) (Y := []) (by rw [List.append_nil]) hlk (Nat.le_refl _) (hall q5 q6) (fun k hk => by cases hk) hi hr hb (by omega) (fun h => absurd h q6) (fun h => by
    rw [kids_len]
    unfold vCnt at hcnt
    rcases h with h | h
    all_goals (rw [h] at hcnt; simp at hcnt; omega))
  have eS : ckS L (F + 1) c i = ckT L (tyAll L 61 (kidsOf L i) c []).2 i (tyAll L 61 (kidsOf L i) c []).1 := by
    rw [ckS]
    simp only
    rw [if_neg q3, if_neg q5, if_neg q6]
  rw [eS]
  by_cases q4 : (ndA L i).kind = 4
  · have eI : iS L (F + 1) s i = (fitI L (xI L 61) (if (ndA L i).kind = 4 ∧ macZ L ((ndA L i).names.getD 0 .empty) = 0 then s.fN i else s) i (kidsOf L i)).2 := by
      rw [iS, if_neg q3, if_pos q4]
      by_cases w : macZ L ((ndA L i).names.getD 0 .empty) = 0
      · rw [if_pos w, if_pos ⟨q4, w⟩]
      · rw [if_neg w, if_neg (fun h => w h.2)]
    rw [eI]
    exact hfit
  · have eI : iS L (F + 1) s i = (fitI L (xI L 61) s i (kidsOf L i)).2 := by rw [iS, if_neg q3, if_neg q4, if_neg q5, if_neg q6]
    rw [if_neg (fun h => q4 h.1)] at hfit
    rw [eI]
    exact hfit
theorem sb_rel {L : List Nd} (hz0 : ∀ nm, macA L nm ≠ 0) : ∀ f, f ≤ 60 → SR L f ∧ BR L f := by
  intro f
  induction f with
  | zero => intro _; exact ⟨fun F i e c s _ _ he => (by cases he), fun F i e c s _ _ he => (by cases he)⟩
  | succ f ih => intro hf; have h := ih (by omega); exact ⟨s_rel_succ hz0 hf h.1 h.2, br_of hf h.1⟩
theorem tOk_mem {l : List Int} (h : tOk l = true) : ∀ t ∈ l, t = 0 ∨ t = 1 := by
  unfold tOk at h
  rw [List.all_eq_true] at h
  intro t ht
  simpa using h t ht
theorem vrT_none {nm : ByteArray} : ∀ {vs : List (ByteArray × Int)}, vrT vs nm = none → ∀ v ∈ vs, v.1 ≠ nm
  | [], _, v, hv => by cases hv
  | x :: vs, h, v, hv => by
    rw [vrT] at h
    cases hx : vrT vs nm with
    | some t => rw [hx] at h; cases h
    | none =>
      rw [hx] at h
      simp only at h
      split at h
      · cases h
      · rcases List.mem_cons.1 hv with rfl | hv
        · assumption
        · exact vrT_none hx v hv
theorem badN_two (c : Ck) (i : Nat) (h : c.names < i) : (c.badN i).badN i = c.badN i := by
  have e : fstI (fstI c.names i) i = fstI c.names i := by
    rw [fstI_eq h]
    unfold fstI
    split <;> split <;> omega
  show ({ c with names := fstI (fstI c.names i) i } : Ck) = { c with names := fstI c.names i }
  rw [e]
/-- A defined word's parameters, plainly. -/
theorem ckP_eq (i : Nat) : ∀ (ps : List ByteArray) (ts : List Int) (c : Ck), ps.length = ts.length → (c.names < i ∨ c.badN i = c) → ((ps.Nodup ∧ ∀ p ∈ ps, p ∉ c.vars.map Prod.fst) → ckP i ps ts c = { c with vars := c.vars ++ ps.zip ts }) ∧ (¬ (ps.Nodup ∧ ∀ p ∈ ps, p ∉ c.vars.map Prod.fst) → ckP i ps ts c = { c.badN i with vars := c.vars ++ ps.zip ts })
  | [], [], c, _, _ => by
    have e : ckP i [] [] c = { c with vars := c.vars ++ [] } := by
      rw [ckP, List.append_nil]
    exact ⟨fun _ => e, fun h => absurd ⟨List.nodup_nil, fun p h => (by cases h)⟩ h⟩
  | p :: ps, t :: ts, c, hl, hn => by
    have vr : (vrT c.vars p).isSome = true ↔ p ∈ c.vars.map Prod.fst := by
      cases hx : vrT c.vars p with
      | some u =>
        obtain ⟨v, h1, h2, h3⟩ := vrT_mem hx
        exact ⟨fun _ => List.mem_map.2 ⟨v, h1, h3⟩, fun _ => rfl⟩
      | none =>
        refine ⟨fun h => (by cases h), fun h => ?_⟩
        obtain ⟨v, h1, h2⟩ := List.mem_map.1 h
        exact absurd h2 (vrT_none hx v h1)
    have two : (c.badN i).badN i = c.badN i := by
      rcases hn with hn | hn
      · exact badN_two c i hn
      · rw [hn, hn]
    by_cases q : p ∈ c.vars.map Prod.fst
    · have e0 : ckP i (p :: ps) (t :: ts) c = ckP i ps ts { c.badN i with vars := c.vars ++ [(p, t)] } := by
        rw [ckP, if_pos (vr.2 q)]
        rfl
      have hb2 : Ck.badN { c.badN i with vars := c.vars ++ [(p, t)] } i = { c.badN i with vars := c.vars ++ [(p, t)] } := by
        show ({ (c.badN i).badN i with vars := c.vars ++ [(p, t)] } : Ck) = _
        rw [two]
      have ih := ckP_eq i ps ts { c.badN i with vars := c.vars ++ [(p, t)] } (by simpa using hl) (.inr hb2)
      rw [hb2] at ih
      have e1 : ckP i ps ts { c.badN i with vars := c.vars ++ [(p, t)] } = { c.badN i with vars := c.vars ++ (p :: ps).zip (t :: ts) } := by
        have e2 : (c.vars ++ [(p, t)]) ++ ps.zip ts = c.vars ++ (p :: ps).zip (t :: ts) := by rw [List.append_assoc]; rfl
        rw [← e2]
        rcases Classical.em (ps.Nodup ∧ ∀ x ∈ ps, x ∉ (c.vars ++ [(p, t)]).map Prod.fst) with w | w
        · exact ih.1 w
        · exact ih.2 w
      exact ⟨fun h => absurd q (h.2 p (List.mem_cons_self ..)), fun _ => by rw [e0, e1]⟩
    · have e0 : ckP i (p :: ps) (t :: ts) c = ckP i ps ts { c with vars := c.vars ++ [(p, t)] } := by
        rw [ckP, if_neg (fun h => q (vr.1 h))]
        rfl
      have hn2 : ({ c with vars := c.vars ++ [(p, t)] } : Ck).names < (i : Int) ∨ Ck.badN { c with vars := c.vars ++ [(p, t)] } i = { c with vars := c.vars ++ [(p, t)] } := by
        rcases hn with hn | hn
        · exact .inl hn
        · right
          show ({ c.badN i with vars := c.vars ++ [(p, t)] } : Ck) = _
          rw [hn]
      have ih := ckP_eq i ps ts { c with vars := c.vars ++ [(p, t)] } (by simpa using hl) hn2
      have e2 : (c.vars ++ [(p, t)]) ++ ps.zip ts = c.vars ++ (p :: ps).zip (t :: ts) := by rw [List.append_assoc]; rfl
      have e : (ps.Nodup ∧ ∀ x ∈ ps, x ∉ (c.vars ++ [(p, t)]).map Prod.fst) ↔ ((p :: ps).Nodup ∧ ∀ x ∈ p :: ps, x ∉ c.vars.map Prod.fst) := by
        rw [List.map_append, List.nodup_cons]
        constructor
        · rintro ⟨h1, h2⟩
          refine ⟨⟨fun h => h2 p h (List.mem_append_right _ (by simp)), h1⟩, fun x hx => ?_⟩
          rcases List.mem_cons.1 hx with rfl | hx
          · exact q
          · exact fun h => h2 x hx (List.mem_append_left _ h)
        · rintro ⟨⟨h1, h2⟩, h3⟩
          refine ⟨h2, fun x hx h => ?_⟩
          rcases List.mem_append.1 h with h | h
          · exact h3 x (List.mem_cons_of_mem _ hx) h
          · have h : x = p := by simpa using h
            rw [h] at hx
            exact h1 hx
      rw [e0, ← e2]
      exact ⟨fun h => ih.1 (e.2 h), fun h => ih.2 (fun k => h (e.1 k))⟩
  | [], _ :: _, _, h, _ => by simp at h
  | _ :: _, [], _, h, _ => by simp at h
theorem m_rel {L : List Nd} (hz0 : ∀ nm, macA L nm ≠ 0) {f : Nat} (hf : f + 1 ≤ 60) {i e : Nat} {c : Ck} {s : Ci} (hg : Gd L (f + 1) i) (he : sE L.length (cn L) (f + 1) i = some e) (hi : 0 < i) (hk1 : (ndA L i).kind = 1) (hr : Rl c s) (hb : Bdd c i) : Rl (ckM L c i) (iM L s i) ∧ Bdd (ckM L c i) e := by
  have hlk := Gd.lk hf he
  have hmem := hg.mem hf
  have hfl := hg.fld hf
  have hcnt := hfl.1
  have hl1 : (kidsOf L i).length = 1 := by
    rw [kids_len]
    unfold vCnt at hcnt
    rw [hk1] at hcnt; simp at hcnt; omega
  have hnl : (ndA L i).names.tail.length = (ndA L i).types.length := by
    have h1 := hfl.2.2.2.1
    unfold nOf at h1
    rw [if_pos hk1] at h1
    rw [List.length_tail]
    omega
  have hty : ∀ t ∈ (ndA L i).types, 0 ≤ t ∧ t ≠ 3 := by
    have h1 := hfl.2.2.2.2.1
    unfold vTy at h1
    rw [if_pos hk1, Bool.and_eq_true] at h1
    intro t ht
    have := tOk_mem h1.2 t ht
    omega
  match hk : kidsOf L i, hl1 with
  | [k], _ =>
    rw [hk] at hlk hmem
    have m0 := hmem 0 k rfl
    rw [hk1] at m0
    have x0 : (ndA L k).kind = 2 := by have := m0.2; unfold mSt at this; simpa using this
    obtain ⟨rfl, q, hq, rfl⟩ := hlk
    obtain ⟨nm, hnm⟩ : ∃ nm, (ndA L i).names.getD 0 .empty = nm := ⟨_, rfl⟩
    have hb1 : c.names < i := hb.n
    -- the head
    have head : Rl { (if macA L nm ≠ (i : Int) ∨ ¬ (ndA L i).names.tail.Nodup then c.badN i else c) with vars := (ndA L i).names.tail.zip (ndA L i).types } { iMh L s i with vars := (ndA L i).names.tail.zip (ndA L i).types } ∧ Bdd { (if macA L nm ≠ (i : Int) ∨ ¬ (ndA L i).names.tail.Nodup then c.badN i else c) with vars := (ndA L i).names.tail.zip (ndA L i).types } (i + 1) := by
      have hv : (ndA L i).names.tail.zip (ndA L i).types = ((ndA L i).names.tail.zip (ndA L i).types).map fun v => (v.1, tau v.2) := by
        refine (List.map_congr_left (g := fun v => (v.1, tau v.2)) (f := id) (fun v hv => ?_)).symm.trans ?_ |>.symm
        · have := hty v.2 (List.of_mem_zip hv).2
          show v = (v.1, tau v.2)
          rw [tau_ne this.2]
        · rw [List.map_id]
      have hp : ∀ v ∈ (ndA L i).names.tail.zip (ndA L i).types, 0 ≤ v.2 := fun v hv => (hty v.2 (List.of_mem_zip hv).2).1
      unfold iMh
      rw [hnm]
      have hz : (macZ L nm ≠ i) ↔ macA L nm ≠ (i : Int) := by
        unfold macZ
        have := (macL_mem L nm (kidsOf L 0)).1
        have h1 : -1 ≤ macA L nm := this
        have h2 := hz0 nm
        omega
      by_cases w : macA L nm ≠ (i : Int) ∨ ¬ (ndA L i).names.tail.Nodup
      · rw [if_pos w, if_pos (w.imp hz.2 id)]
        obtain ⟨r1, r2, _⟩ := hr.badN hb hi
        exact ⟨⟨hv, hp, r1.nf, r1.tf⟩, r2.back _⟩
      · rw [if_neg w, if_neg (fun h => w (h.imp hz.1 id))]
        exact ⟨⟨hv, hp, hr.nf, hr.tf⟩, (hb.mono (by omega)).back _⟩
    have eP : ckP i (ndA L i).names.tail (ndA L i).types { (if macA L nm ≠ (i : Int) then c.badN i else c) with vars := [] } = { (if macA L nm ≠ (i : Int) ∨ ¬ (ndA L i).names.tail.Nodup then c.badN i else c) with vars := (ndA L i).names.tail.zip (ndA L i).types } := by
      have two := badN_two c i hb1
      by_cases w : macA L nm ≠ (i : Int)
      · rw [if_pos w, if_pos (.inl w)]
        have hb2 : Ck.badN { c.badN i with vars := [] } i = { c.badN i with vars := [] } := by
          show ({ (c.badN i).badN i with vars := [] } : Ck) = _
          rw [two]
        have ih := ckP_eq i _ _ { c.badN i with vars := [] } hnl (.inr hb2)
        rw [hb2] at ih
        rcases Classical.em ((ndA L i).names.tail.Nodup ∧ ∀ x ∈ (ndA L i).names.tail, x ∉ ([] : List (ByteArray × Int)).map Prod.fst) with v | v
        · exact ih.1 v
        · exact ih.2 v
      · rw [if_neg w]
        have ih := ckP_eq i _ _ { c with vars := [] } hnl (.inl hb1)
        by_cases nd : (ndA L i).names.tail.Nodup
        · rw [if_neg (fun h => h.elim w (fun h => h nd))]
          exact ih.1 ⟨nd, fun p _ h => (by cases h)⟩
        · rw [if_pos (.inr nd)]
          exact ih.2 (fun h => nd h.1)
    have eS : ckM L c i = { ckAll (ckS L 61) (kidsOf L (i + 1)) { (if macA L nm ≠ (i : Int) ∨ ¬ (ndA L i).names.tail.Nodup then c.badN i else c) with vars := (ndA L i).names.tail.zip (ndA L i).types } with vars := c.vars } := by
      unfold ckM
      simp only
      rw [hnm, eP, hk]
      rfl
    have eI : iM L s i = { iAll (iS L 61) (kidsOf L (i + 1)) { iMh L s i with vars := (ndA L i).names.tail.zip (ndA L i).types } with vars := s.vars } := by
      unfold iM
      rw [hk]
      rfl
    rw [eS, eI]
    obtain ⟨b1, b2⟩ := (sb_rel hz0 f (by omega)).2 61 (i + 1) q _ _ (by omega) m0.1 hq (by omega) x0 head.1 head.2
    exact ⟨hr.back b1, b2.back _⟩
/-- Both answer the same. -/
theorem iF_ckF {L : List Nd} (hT : vT L = true) : iF L = ckF L := by
  obtain ⟨h0, h1, h2, hG⟩ := vT_good hT
  obtain ⟨⟨e, he⟩, _⟩ := id hG
  have hz0 := macA_ne0 hT
  have hlk := Gd.lk (by omega) he
  have hmem := hG.mem (by omega)
  have key := all_rel (L := L) (f := 59) (st := ckTop L) (st' := iTop L) (P := fun k => Gd L 59 k ∧ ((ndA L k).kind = 1 ∨ (3 ≤ (ndA L k).kind ∧ (ndA L k).kind ≤ 15))) (fun i e c s hP he hi hr hb => by
    unfold ckTop iTop
    by_cases w : (ndA L i).kind = 1
    · rw [if_pos w, if_pos w]
      exact m_rel hz0 (by omega) hP.1 he hi w hr hb
    · rw [if_neg w, if_neg w]
      have := hP.2.resolve_left w
      exact (sb_rel hz0 59 (by omega)).1 61 i e c s (by omega) hP.1 he hi this.1 this.2 hr hb) (kidsOf L 0) 1 e ⟨[], -1, -1⟩ ⟨[], 0, 0⟩ hlk (fun k hk => by
    obtain ⟨j, hj, hjk⟩ := List.getElem_of_mem hk
    obtain ⟨h3, h4⟩ := hmem j k (by rw [List.getElem?_eq_getElem hj, hjk])
    rw [h2] at h4
    unfold mSt isStat at h4
    exact ⟨h3, by simpa using h4⟩) (by omega) ⟨rfl, fun v h => (by cases h), rfl, fun _ => rfl⟩ ⟨.inl (by decide), by decide, .inl (by decide), by decide⟩
  obtain ⟨r, b⟩ := key
  unfold iF ckF
  simp only
  obtain ⟨C, hC⟩ : ∃ C, ckAll (ckTop L) (kidsOf L 0) ⟨[], -1, -1⟩ = C := ⟨_, rfl⟩
  obtain ⟨S, hS⟩ : ∃ S, iAll (iTop L) (kidsOf L 0) ⟨[], 0, 0⟩ = S := ⟨_, rfl⟩
  rw [hC] at r b ⊢
  rw [hS] at r ⊢
  have n1 := r.nf
  have n0 := b.n0
  have t0 := b.t0
  by_cases w : 0 ≤ C.names
  · rw [if_pos w, if_pos (by omega), n1]
    congr 1
    omega
  · rw [if_neg w, if_neg (by omega)]
    have t1 := r.tf (by omega)
    by_cases v : 0 ≤ C.types
    · rw [if_pos v, if_pos (by omega), t1]
      congr 1
      omega
    · rw [if_neg v, if_neg (by omega)]
end Go.Proofs.YtdlahabeegmjiaaDoor

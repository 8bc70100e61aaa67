/-
  Plainly: what impl.Check answers of a valid tree: of each sort the first fault that it meets. No run of the program stands in this text.
  Plainly: the first faults that impl.Check meets are the least ones. Expressions.
-/
import Derived.Test.YtdlahabeegmjiaaDoorJCkND0
import Derived.Test.YtdlahabeegmjiaaDoorJCkCKV
namespace Go.Proofs.YtdlahabeegmjiaaDoor

/-- What is bound, and the first faults that were met, or 0. -/
structure Ci where
  vars : List (ByteArray × Int)
  nf : Nat
  tf : Nat
def Ci.fN (s : Ci) (i : Nat) : Ci := { s with nf := if s.nf = 0 then i else s.nf }
def Ci.fT (s : Ci) (i : Nat) : Ci := { s with tf := if s.tf = 0 then i else s.tf }
/-- The first defined word with a name, or 0. -/
def macZ (L : List Nd) (nm : ByteArray) : Nat := (macA L nm).toNat
def allI (ts : List Int) : Bool := ts.all fun t => t == 0
def opTk (op a b : Int) : Bool :=
  if op = 0 ∨ op = 1 then a == 2 && b == 2
  else if op = 2 ∨ op = 3 then a == b
  else if op = 8 then a != 2 && b != 2
  else a == 0 && b == 0
def tkI (L : List Nd) (d : Nd) (ts : List Int) : Bool :=
  if d.kind = 4 then decide (ts = (ndA L (macZ L (d.names.getD 0 .empty))).types)
  else if d.kind = 6 ∨ d.kind = 21 then ts.getD 0 0 == 2
  else if d.kind = 14 ∨ d.kind = 15 then ts.getD 0 0 == 1 && allI ts.tail
  else if d.kind = 20 then opTk d.n (ts.getD 0 0) (ts.getD 1 0)
  else allI ts
def opGv (op : Int) : Int := if op < 8 then 2 else if op = 8 then 1 else 0
def tgI (d : Nd) : Int := if d.kind = 17 then 1 else if d.kind = 18 ∨ d.kind = 21 then 2 else if d.kind = 20 then opGv d.n else 0
def xAll (x : Ci → Nat → Int × Ci) : List Nat → Ci → List Int → List Int × Ci
  | [], s, ts => (ts, s)
  | k :: r, s, ts => xAll x r (x s k).2 (ts ++ [(x s k).1])
def fitR (L : List Nd) (i : Nat) (r : List Int × Ci) : Bool × Ci :=
  if r.1.contains (-1) then (false, r.2) else if tkI L (ndA L i) r.1 then (true, r.2) else (false, r.2.fT i)
def fitI (L : List Nd) (x : Ci → Nat → Int × Ci) (s : Ci) (i : Nat) (X : List Nat) : Bool × Ci := fitR L i (xAll x X s [])
def xI (L : List Nd) : Nat → Ci → Nat → Int × Ci
  | 0, s, _ => (-1, s)
  | f + 1, s, i =>
    if (ndA L i).kind = 19 then (match vrT s.vars ((ndA L i).names.getD 0 .empty) with
      | none => (-1, s.fN i)
      | some t => (t, s))
    else ((if (fitI L (xI L f) s i (kidsOf L i)).1 then tgI (ndA L i) else -1), (fitI L (xI L f) s i (kidsOf L i)).2)
def iAll (st : Ci → Nat → Ci) : List Nat → Ci → Ci
  | [], s => s
  | k :: r, s => iAll st r (st s k)
/-- A block in which these names are bound. -/
def iB (L : List Nd) (st : Ci → Nat → Ci) (s : Ci) (i : Nat) (vs : List (ByteArray × Int)) : Ci := { iAll st (kidsOf L i) { s with vars := s.vars ++ vs } with vars := s.vars }
def iBr (L : List Nd) (st : Ci → Nat → Ci) (s : Ci) (k : Nat) : Ci := if (ndA L k).kind = 6 then st s k else iB L st s k []
/-- A statement. -/
def iS (L : List Nd) : Nat → Ci → Nat → Ci
  | 0, s, _ => s
  | f + 1, s, i =>
    if (ndA L i).kind = 3 then { (xI L 61 s ((kidsOf L i).getD 0 0)).2 with vars := (xI L 61 s ((kidsOf L i).getD 0 0)).2.vars ++ [((ndA L i).names.getD 0 .empty, (xI L 61 s ((kidsOf L i).getD 0 0)).1)] }
    else if (ndA L i).kind = 4 then (fitI L (xI L 61) (if macZ L ((ndA L i).names.getD 0 .empty) = 0 then s.fN i else s) i (kidsOf L i)).2
    else if (ndA L i).kind = 5 then iB L (iS L f) (fitI L (xI L 61) s i ((kidsOf L i).take 2)).2 ((kidsOf L i).getD 2 0) [((ndA L i).names.getD 0 .empty, 0)]
    else if (ndA L i).kind = 6 then iAll (iBr L (iS L f)) ((kidsOf L i).drop 1) (fitI L (xI L 61) s i ((kidsOf L i).take 1)).2
    else (fitI L (xI L 61) s i (kidsOf L i)).2
/-- A defined word's head. -/
def iMh (L : List Nd) (s : Ci) (i : Nat) : Ci := if macZ L ((ndA L i).names.getD 0 .empty) ≠ i ∨ ¬ (ndA L i).names.tail.Nodup then s.fN i else s
def iM (L : List Nd) (s : Ci) (i : Nat) : Ci :=
  { iB L (iS L 61) { iMh L s i with vars := [] } ((kidsOf L i).getD 0 0) ((ndA L i).names.tail.zip (ndA L i).types) with vars := s.vars }
def iTop (L : List Nd) (s : Ci) (k : Nat) : Ci := if (ndA L k).kind = 1 then iM L s k else iS L 61 s k
/-- The code and the node that impl.Check answers of a valid tree. -/
def iF (L : List Nd) : Int × Int :=
  let s := iAll (iTop L) (kidsOf L 0) ⟨[], 0, 0⟩
  if 0 < s.nf then (5, (s.nf : Nat)) else if 0 < s.tf then (6, (s.tf : Nat)) else (0, 0)
end Go.Proofs.YtdlahabeegmjiaaDoor

namespace Go.Proofs.YtdlahabeegmjiaaDoor

def tau (t : Int) : Int := if t = 3 then -1 else t
theorem tau_ne {t : Int} (h : t ≠ 3) : tau t = t := if_neg h
theorem tau_3 : tau 3 = -1 := rfl
theorem tau_none {t : Int} (h : 0 ≤ t) : tau t = -1 ↔ t = 3 := by unfold tau; split <;> omega
structure Rl (c : Ck) (s : Ci) : Prop where
  vars : s.vars = c.vars.map fun v => (v.1, tau v.2)
  pos : ∀ v ∈ c.vars, 0 ≤ v.2
  nf : s.nf = c.names.toNat
  tf : c.names < 0 → s.tf = c.types.toNat
structure Bdd (c : Ck) (b : Nat) : Prop where
  n0 : c.names < 0 ∨ 0 < c.names
  n : c.names < b
  t0 : c.types < 0 ∨ 0 < c.types
  t : c.types < b
theorem Bdd.mono {c : Ck} {a b : Nat} (h : Bdd c a) (hab : a ≤ b) : Bdd c b := ⟨h.n0, by have := h.n; omega, h.t0, by have := h.t; omega⟩
theorem fstI_eq {x : Int} {i : Nat} (h : x < i) : fstI x i = if x < 0 then (i : Int) else x := by
  unfold fstI
  by_cases c : x < 0
  · rw [if_pos (.inl c), if_pos c]
  · rw [if_neg (by omega), if_neg c]
theorem Rl.badN {c : Ck} {s : Ci} {i : Nat} (h : Rl c s) (hb : Bdd c i) (hi : 0 < i) : Rl (c.badN i) (s.fN i) ∧ Bdd (c.badN i) (i + 1) ∧ (c.badN i).types = c.types ∧ (c.badN i).vars = c.vars ∧ ((c.badN i).names = c.names ∨ (c.names < 0 ∧ (c.badN i).names = i)) ∧ 0 < (c.badN i).names := by
  have e : (c.badN i).names = if c.names < 0 then (i : Int) else c.names := fstI_eq hb.n
  have h1 := h.nf
  have h2 := hb.n0
  have h3 := hb.n
  have h4 := hb.t
  by_cases q : c.names < 0
  · rw [if_pos q] at e
    have q0 : s.nf = 0 := by omega
    refine ⟨⟨h.vars, h.pos, ?_, fun k => by omega⟩, ⟨by omega, by omega, hb.t0, by show c.types < _; omega⟩, rfl, rfl, .inr ⟨q, e⟩, by omega⟩
    show (if s.nf = 0 then i else s.nf) = _
    rw [if_pos q0, e] <;> rfl
  · rw [if_neg q] at e
    have q0 : s.nf ≠ 0 := by omega
    refine ⟨⟨h.vars, h.pos, ?_, fun k => by omega⟩, ⟨by omega, by omega, hb.t0, by show c.types < _; omega⟩, rfl, rfl, .inl e, by omega⟩
    show (if s.nf = 0 then i else s.nf) = _
    rw [if_neg q0, e, h1]
theorem Rl.badT {c : Ck} {s : Ci} {i : Nat} (h : Rl c s) (hb : Bdd c i) (hi : 0 < i) : Rl (c.badT i) (s.fT i) ∧ Bdd (c.badT i) (i + 1) := by
  have e : (c.badT i).types = if c.types < 0 then (i : Int) else c.types := fstI_eq hb.t
  have h2 := hb.t0
  have h3 := hb.t
  have h4 := hb.n
  refine ⟨⟨h.vars, h.pos, h.nf, fun k => ?_⟩, ⟨hb.n0, by show c.names < _; omega, ?_, ?_⟩⟩
  · have h1 := h.tf k
    show (if s.tf = 0 then i else s.tf) = _
    rw [e]
    split <;> split <;> omega
  · rw [e]; split <;> omega
  · rw [e]; split <;> omega
theorem vrT_map (nm : ByteArray) : ∀ vs : List (ByteArray × Int), vrT (vs.map fun v => (v.1, tau v.2)) nm = (vrT vs nm).map tau
  | [] => rfl
  | v :: vs => by
    rw [List.map_cons, vrT, vrT, vrT_map nm vs]
    cases vrT vs nm with
    | some t => rfl
    | none =>
      simp only [Option.map_none]
      split <;> rfl
theorem vrT_mem {nm : ByteArray} {t : Int} : ∀ {vs : List (ByteArray × Int)}, vrT vs nm = some t → ∃ v ∈ vs, v.2 = t ∧ v.1 = nm
  | [], h => by cases h
  | v :: vs, h => by
    rw [vrT] at h
    cases hx : vrT vs nm with
    | some u =>
      rw [hx] at h
      obtain ⟨y, h1, h2⟩ := vrT_mem hx
      injection h with h
      exact ⟨y, List.mem_cons_of_mem _ h1, by rw [h2.1, h], h2.2⟩
    | none =>
      rw [hx] at h
      simp only at h
      split at h
      · injection h with h
        exact ⟨v, List.mem_cons_self .., h, by assumption⟩
      · cases h
/-- Where an expression has a type, nothing was found. -/
theorem tyO_id (L : List Nd) : ∀ f c i, (tyO L f c i).1 ≠ 3 → (tyO L f c i).2 = c
  | 0, c, i, h => rfl
  | f + 1, c, i, h => by
    rw [tyO] at h ⊢
    by_cases q16 : (ndA L i).kind = 16
    · rw [if_pos q16]
    rw [if_neg q16] at h ⊢
    by_cases q17 : (ndA L i).kind = 17
    · rw [if_pos q17]
    rw [if_neg q17] at h ⊢
    by_cases q18 : (ndA L i).kind = 18
    · rw [if_pos q18]
    rw [if_neg q18] at h ⊢
    by_cases q19 : (ndA L i).kind = 19
    · rw [if_pos q19] at h ⊢
      cases hx : vrT c.vars ((ndA L i).names.getD 0 .empty) with
      | none => rw [hx] at h; exact absurd rfl h
      | some t => rfl
    rw [if_neg q19] at h ⊢
    simp only at h ⊢
    by_cases q : (tyO L f c ((kidsOf L i).getD 0 0)).1 = 3 ∨ (if (ndA L i).kind = 20 then tyO L f (tyO L f c ((kidsOf L i).getD 0 0)).2 ((kidsOf L i).getD 1 0) else tyO L f c ((kidsOf L i).getD 0 0)).1 = 3
    · rw [if_pos q] at h; exact absurd rfl h
    rw [if_neg q] at h ⊢
    have e0 := tyO_id L f c ((kidsOf L i).getD 0 0) (fun k => q (.inl k))
    have e1 : (if (ndA L i).kind = 20 then tyO L f (tyO L f c ((kidsOf L i).getD 0 0)).2 ((kidsOf L i).getD 1 0) else tyO L f c ((kidsOf L i).getD 0 0)).2 = c := by
      by_cases q20 : (ndA L i).kind = 20
      · rw [if_pos q20] at q ⊢
        rw [tyO_id L f _ _ (fun k => q (.inr k)), e0]
      · rw [if_neg q20, e0]
    split
    · rename_i hx
      rw [hx] at h
      exact absurd rfl h
    · exact e1
theorem tyAll_id (L : List Nd) (f : Nat) : ∀ X c ts, 3 ∉ (tyAll L f X c ts).1 → (tyAll L f X c ts).2 = c
  | [], c, ts, h => rfl
  | k :: X, c, ts, h => by
    have sub : ∀ X c ts t, t ∈ ts → t ∈ (tyAll L f X c ts).1 := by
      intro X
      induction X with
      | nil => intro c ts t h; exact h
      | cons k X ih =>
        intro c ts t h
        rw [tyAll]
        split
        · exact ih _ _ _ (List.mem_append_left _ h)
        · exact ih _ _ _ h
    rw [tyAll] at h ⊢
    split
    · rename_i q
      rw [if_pos q] at h
      have h1 := tyAll_id L f X _ _ h
      rw [h1]
      refine tyO_id L f c k (fun e => h (sub _ _ _ _ ?_))
      rw [e]
      simp
    · rename_i q
      rw [if_neg q] at h
      exact tyAll_id L f X _ _ h
/-- Nodes beside each other, from a to e. -/
def Lk (L : List Nd) (f : Nat) : List Nat → Nat → Nat → Prop
  | [], a, e => a = e
  | k :: X, a, e => a = k ∧ ∃ q, sE L.length (cn L) f k = some q ∧ Lk L f X q e
theorem lk_kds {L : List Nd} {f : Nat} (hf : f ≤ 60) : ∀ c a e, sLoop (sE L.length (cn L) f) c a = some e → Lk L f (kds L c a) a e
  | 0, a, e, h => by injection h
  | c + 1, a, e, h => by
    rw [sLoop] at h
    cases hx : sE L.length (cn L) f a with
    | none => rw [hx] at h; cases h
    | some q =>
      rw [hx] at h
      refine ⟨rfl, q, hx, ?_⟩
      have e1 : nxT L.length (fun j => (ndA L j).count) a = q := nx_of hf hx
      rw [e1]
      exact lk_kds hf c q e h
theorem Gd.lk {L : List Nd} {f i e : Nat} (hf : f + 1 ≤ 60) (he : sE L.length (cn L) (f + 1) i = some e) : Lk L f (kidsOf L i) (i + 1) e := by
  rw [sE] at he
  split at he
  · cases he
  · exact lk_kds (by omega) _ _ _ he
theorem Lk.app {L : List Nd} {f : Nat} : ∀ {X Y : List Nat} {a e : Nat}, Lk L f (X ++ Y) a e → ∃ m, Lk L f X a m ∧ Lk L f Y m e
  | [], Y, a, e, h => ⟨a, rfl, h⟩
  | k :: X, Y, a, e, h => by
    obtain ⟨rfl, q, hq, h2⟩ := h
    obtain ⟨m, h3, h4⟩ := Lk.app h2
    exact ⟨m, ⟨rfl, q, hq, h3⟩, h4⟩
theorem Lk.le {L : List Nd} {f : Nat} : ∀ {X : List Nat} {a e : Nat}, Lk L f X a e → a ≤ e
  | [], a, e, h => Nat.le_of_eq h
  | k :: X, a, e, h => by
    obtain ⟨rfl, q, hq, h2⟩ := h
    have := (sE_br _ _ _ _ _ hq).lt
    have := Lk.le h2
    omega
def tyE (o : Option Int) (c : Ck) (i : Nat) : Int × Ck := match o with
  | none => (3, c.badT i)
  | some t => (t, c)
theorem tyB_tk {L : List Nd} {d : Nd} {ts : List Int} (hk : d.kind = 20 ∨ d.kind = 21 ∨ d.kind = 22) (hn : 0 ≤ d.n) (hl : d.kind = 22 → ts.length = 1) : tyB d.kind d.n (ts.getD 0 0) (ts.getD (if d.kind = 20 then 1 else 0) 0) = if tkI L d ts then some (tgI d) else none := by
  rcases hk with q | q | q
  · unfold tkI tgI tyB opTk opGv
    rw [q]
    generalize ts.getD 0 0 = a
    rw [if_pos rfl]
    generalize ts.getD 1 0 = b
    generalize d.n = n at hn
    simp only [show ¬ (20 : Int) = 21 by decide, show ¬ (20 : Int) = 4 by decide, show ¬ (20 : Int) = 6 by decide, show ¬ (20 : Int) = 14 by decide, show ¬ (20 : Int) = 15 by decide, show ¬ (20 : Int) = 17 by decide, show ¬ (20 : Int) = 18 by decide, false_or, or_false, true_and, if_false, if_true]
    by_cases n1 : n ≤ 1
    · rw [if_pos n1, if_pos (show n = 0 ∨ n = 1 by omega), if_pos (show n < 8 by omega)]
      by_cases ca : a = 2 <;> by_cases cb : b = 2 <;> simp [ca, cb]
    · rw [if_neg n1, if_neg (show ¬ (n = 0 ∨ n = 1) by omega)]
      by_cases n3 : n ≤ 3
      · rw [if_pos n3, if_pos (show n = 2 ∨ n = 3 by omega), if_pos (show n < 8 by omega)]
        by_cases ca : a = b <;> simp [ca]
      · rw [if_neg n3, if_neg (show ¬ (n = 2 ∨ n = 3) by omega)]
        by_cases n8 : n = 8
        · subst n8
          by_cases ca : a = 2 <;> by_cases cb : b = 2 <;> simp [ca, cb]
        · rw [if_neg n8, if_neg n8]
          by_cases n7 : n ≤ 7
          · rw [if_pos n7, if_pos (show n < 8 by omega)]
            by_cases ca : a = 0 <;> by_cases cb : b = 0 <;> simp [ca, cb]
          · rw [if_neg n7, if_neg (show ¬ n < 8 by omega), if_neg n8]
            by_cases ca : a = 0 <;> by_cases cb : b = 0 <;> simp [ca, cb]
  · unfold tkI tgI tyB
    rw [q]
    have e : (if (21 : Int) = 20 then 1 else 0) = 0 := rfl
    rw [e]
    generalize ts.getD 0 0 = a
    by_cases ca : a = 2 <;> simp [ca]
  · match ts, hl q with
    | [a], _ =>
      unfold tkI tgI tyB allI
      rw [q]
      by_cases ca : a = 0 <;> simp [ca]
/-- What is shown of an expression. -/
def XR (L : List Nd) (f : Nat) : Prop := ∀ F i e c s, f ≤ F → Gd L f i → sE L.length (cn L) f i = some e → 0 < i → 16 ≤ (ndA L i).kind → (ndA L i).kind ≤ 22 → Rl c s → Bdd c i →
  (xI L F s i).1 = tau (tyO L F c i).1 ∧ 0 ≤ (tyO L F c i).1 ∧ Rl (tyO L F c i).2 (xI L F s i).2 ∧ Bdd (tyO L F c i).2 e ∧ ((tyO L F c i).2.names = c.names ∨ (c.names < 0 ∧ (i : Int) ≤ (tyO L F c i).2.names))
theorem xs_rel {L : List Nd} {f : Nat} (IH : XR L f) {F : Nat} (hF : f ≤ F) : ∀ X a e c s ts, Lk L f X a e → (∀ k ∈ X, Gd L f k ∧ 16 ≤ (ndA L k).kind ∧ (ndA L k).kind ≤ 22) → 0 < a → Rl c s → Bdd c a → (∀ t ∈ ts, 0 ≤ t) →
    (xAll (xI L F) X s (ts.map tau)).1 = (tyAll L F X c ts).1.map tau ∧ (∀ t ∈ (tyAll L F X c ts).1, 0 ≤ t) ∧ Rl (tyAll L F X c ts).2 (xAll (xI L F) X s (ts.map tau)).2 ∧ Bdd (tyAll L F X c ts).2 e ∧ ((tyAll L F X c ts).2.names = c.names ∨ (c.names < 0 ∧ (a : Int) ≤ (tyAll L F X c ts).2.names)) ∧ (tyAll L F X c ts).1.length = ts.length + X.length
  | [], a, e, c, s, ts, hl, hx, ha, hr, hb, ht => by
    have hl : a = e := hl
    subst hl
    exact ⟨rfl, ht, hr, hb, .inl rfl, rfl⟩
  | k :: X, a, e, c, s, ts, hl, hx, ha, hr, hb, ht => by
    obtain ⟨rfl, q, hq, hl2⟩ := hl
    obtain ⟨hg, h16, h22⟩ := hx a (List.mem_cons_self ..)
    obtain ⟨e1, e2, e3, e4, e5⟩ := IH F a q c s hF hg hq ha h16 h22 hr hb
    have hlt := (sE_br _ _ _ _ _ hq).lt
    have ih := xs_rel IH hF X q e _ _ (ts ++ [(tyO L F c a).1]) hl2 (fun k hk => hx k (List.mem_cons_of_mem _ hk)) (by omega) e3 e4 (fun t h => by
      rcases List.mem_append.1 h with h | h
      · exact ht t h
      · rw [List.mem_singleton.1 h]; exact e2)
    rw [xAll, tyAll, if_pos ⟨h16, h22⟩]
    rw [List.map_append, List.map_cons, List.map_nil, ← e1] at ih
    obtain ⟨i1, i2, i3, i4, i5, i6⟩ := ih
    refine ⟨i1, i2, i3, i4, ?_, by rw [i6, List.length_append, List.length_cons, List.length_cons, List.length_nil]; omega⟩
    rcases i5 with i5 | ⟨i5, i7⟩
    · rcases e5 with e5 | ⟨e5, e6⟩
      · exact .inl (by rw [i5, e5])
      · exact .inr ⟨e5, by rw [i5]; omega⟩
    · rcases e5 with e5 | ⟨e5, e6⟩
      · exact .inr ⟨by rw [e5] at i5; exact i5, by omega⟩
      · exact .inr ⟨e5, by omega⟩
theorem contains_tau : ∀ {ts : List Int}, (∀ t ∈ ts, 0 ≤ t) → (ts.map tau).contains (-1) = ts.contains 3
  | [], _ => rfl
  | t :: ts, h => by
    rw [List.map_cons, List.contains_cons, List.contains_cons, contains_tau (fun t ht => h t (List.mem_cons_of_mem _ ht))]
    congr 1
    have := tau_none (h t (List.mem_cons_self ..))
    rw [Bool.eq_iff_iff, beq_iff_eq, beq_iff_eq]
    constructor
    · intro g; exact (this.1 g.symm).symm
    · intro g; exact (this.2 g.symm).symm
theorem map_tau : ∀ {ts : List Int}, ts.contains 3 = false → ts.map tau = ts
  | [], _ => rfl
  | t :: ts, h => by
    rw [List.contains_cons, Bool.or_eq_false_iff] at h
    rw [List.map_cons, map_tau h.2, tau_ne (fun g => by rw [g] at h; exact absurd h.1 (by decide))]
theorem x_rel {L : List Nd} : ∀ f, f ≤ 60 → XR L f := by
  intro f
  induction f with
  | zero => intro _ F i e c s _ _ he; cases he
  | succ f ih =>
    intro hf F i e c s hF hg he hi h16 h22 hr hb
    obtain ⟨F, rfl⟩ : ∃ G, F = G + 1 := ⟨F - 1, by omega⟩
    have hlk := Gd.lk hf he
    have hile : i + 1 ≤ e := hlk.le
    have hst := hg.step hf
    have hfl := hg.fld hf
    have hcnt := hfl.1
    by_cases q19 : (ndA L i).kind = 19
    · have e1 : tyO L (F + 1) c i = (match vrT c.vars ((ndA L i).names.getD 0 .empty) with | none => (3, c.badN i) | some t => (t, c)) := by
        rw [tyO, if_neg (by omega), if_neg (by omega), if_neg (by omega), if_pos q19] <;> rfl
      have e2 : xI L (F + 1) s i = (match vrT s.vars ((ndA L i).names.getD 0 .empty) with | none => (-1, s.fN i) | some t => (t, s)) := by
        rw [xI, if_pos q19] <;> rfl
      rw [hr.vars, vrT_map] at e2
      cases hx : vrT c.vars ((ndA L i).names.getD 0 .empty) with
      | none =>
        rw [hx] at e1 e2
        have e1 : tyO L (F + 1) c i = (3, c.badN i) := e1
        have e2 : xI L (F + 1) s i = (-1, s.fN i) := e2
        rw [e1, e2]
        obtain ⟨r1, r2, _, _, r5, _⟩ := hr.badN hb hi
        exact ⟨rfl, by show (0 : Int) ≤ 3; omega, r1, r2.mono hile, r5.imp id (fun h => ⟨h.1, by show (i : Int) ≤ (c.badN i).names; rw [h.2]; omega⟩)⟩
      | some t =>
        rw [hx] at e1 e2
        have e1 : tyO L (F + 1) c i = (t, c) := e1
        have e2 : xI L (F + 1) s i = (tau t, s) := e2
        rw [e1, e2]
        obtain ⟨v, hv, hvt, _⟩ := vrT_mem hx
        exact ⟨rfl, by rw [← hvt]; exact hr.pos v hv, hr, hb.mono (by omega), .inl rfl⟩
    have eI : xI L (F + 1) s i = ((if (fitI L (xI L F) s i (kidsOf L i)).1 then tgI (ndA L i) else -1), (fitI L (xI L F) s i (kidsOf L i)).2) := by rw [xI, if_neg q19]
    by_cases qlit : (ndA L i).kind = 16 ∨ (ndA L i).kind = 17 ∨ (ndA L i).kind = 18
    · have hk0 : kidsOf L i = [] := by
        rw [← List.length_eq_zero_iff, kids_len]
        unfold vCnt at hcnt
        rw [if_neg (by omega), if_neg (by omega), if_neg (by omega), if_neg (by omega), if_neg (by omega), if_neg (by omega), if_neg (by omega), if_neg (by omega), if_pos (by omega), beq_iff_eq] at hcnt
        rw [hcnt] <;> rfl
      have e3 : fitI L (xI L F) s i (kidsOf L i) = (true, s) := by
        rw [hk0]
        unfold fitI fitR xAll tkI
        simp only [List.contains_nil, Bool.false_eq_true, if_false]
        rw [if_neg (show ¬ (ndA L i).kind = 4 by omega), if_neg (show ¬ ((ndA L i).kind = 6 ∨ (ndA L i).kind = 21) by omega), if_neg (show ¬ ((ndA L i).kind = 14 ∨ (ndA L i).kind = 15) by omega), if_neg (show ¬ (ndA L i).kind = 20 by omega)]
        rfl
      rw [e3] at eI
      rw [eI]
      have e4 : tyO L (F + 1) c i = (tgI (ndA L i), c) := by
        rw [tyO]
        unfold tgI
        rcases qlit with q | q | q <;> simp [q]
      rw [e4]
      have hp : 0 ≤ tgI (ndA L i) ∧ tgI (ndA L i) ≠ 3 := by
        unfold tgI opGv
        repeat' split
        all_goals omega
      exact ⟨by show tgI (ndA L i) = _; rw [tau_ne hp.2], hp.1, hr, hb.mono (by omega), .inl rfl⟩
    have hopd := hg.opd hf (by omega)
    have hmem : ∀ k ∈ kidsOf L i, Gd L f k ∧ 16 ≤ (ndA L k).kind ∧ (ndA L k).kind ≤ 22 := fun k hk => by
      obtain ⟨j, hj, hjk⟩ := List.getElem_of_mem hk
      exact hopd.2 j k (by rw [List.getElem?_eq_getElem hj, hjk])
    obtain ⟨x1, x2, x3, x4, x5, x6⟩ := xs_rel (ih (by omega)) (show f ≤ F by omega) (kidsOf L i) (i + 1) e c s [] hlk hmem (by omega) hr (hb.mono (by omega)) (fun t h => by cases h)
    rw [List.map_nil] at x1 x3
    have hid := tyAll_id L F (kidsOf L i) c []
    -- what the specification answers, by the types of its operands
    have eT : ∀ T, tyAll L F (kidsOf L i) c [] = T → tyO L (F + 1) c i = if T.1.contains 3 then (3, T.2) else tyE (tyB (ndA L i).kind (ndA L i).n (T.1.getD 0 0) (T.1.getD (if (ndA L i).kind = 20 then 1 else 0) 0)) T.2 i := by
      intro T hT
      rw [tyO, if_neg (by omega), if_neg (by omega), if_neg (by omega), if_neg q19]
      simp only
      by_cases q20 : (ndA L i).kind = 20
      · rw [if_pos q20] at hopd
        simp only [if_pos q20]
        match hk : kidsOf L i, hopd.1 with
        | [k0, k1], _ =>
          rw [hk] at hT hmem
          have m0 := hmem k0 (by simp)
          have m1 := hmem k1 (by simp)
          rw [tyAll, if_pos ⟨m0.2.1, m0.2.2⟩, tyAll, if_pos ⟨m1.2.1, m1.2.2⟩, tyAll] at hT
          subst hT
          simp only [List.nil_append, List.cons_append, List.getD_cons_zero, List.getD_cons_succ, List.contains_cons, List.contains_nil, Bool.or_false]
          by_cases c3 : (tyO L F c k0).1 = 3 ∨ (tyO L F (tyO L F c k0).2 k1).1 = 3
          · rw [if_pos c3, if_pos (by rcases c3 with c3 | c3 <;> simp [c3])]
          · rw [if_neg c3, if_neg (by simp only [Bool.or_eq_true, beq_iff_eq]; intro h; exact c3 (h.imp Eq.symm Eq.symm))]
            rfl
      · rw [if_neg q20] at hopd
        simp only [if_neg q20]
        match hk : kidsOf L i, hopd.1 with
        | [k0], _ =>
          rw [hk] at hT hmem
          have m0 := hmem k0 (by simp)
          rw [tyAll, if_pos ⟨m0.2.1, m0.2.2⟩, tyAll] at hT
          subst hT
          simp only [List.nil_append, List.getD_cons_zero, List.contains_cons, List.contains_nil, Bool.or_false]
          by_cases c3 : (tyO L F c k0).1 = 3
          · rw [if_pos (.inl c3), if_pos (by simp [c3])]
          · rw [if_neg (by omega), if_neg (by simp only [beq_iff_eq]; exact fun h => c3 h.symm)]
            rfl
    have eT := eT _ rfl
    obtain ⟨T, hT⟩ : ∃ T, tyAll L F (kidsOf L i) c [] = T := ⟨_, rfl⟩
    obtain ⟨U, hU⟩ : ∃ U, xAll (xI L F) (kidsOf L i) s [] = U := ⟨_, rfl⟩
    have eF : fitI L (xI L F) s i (kidsOf L i) = fitR L i U := by unfold fitI; rw [hU]
    rw [hT] at x1 x2 x3 x4 x5 x6 hid eT
    rw [hU] at x1 x3
    rw [eF] at eI
    unfold fitR at eI
    rw [x1, contains_tau x2] at eI
    have hn3 : T.2.names = c.names ∨ (c.names < 0 ∧ (i : Int) ≤ T.2.names) := x5.imp id (fun h => ⟨h.1, by omega⟩)
    by_cases c3 : T.1.contains 3 = true
    · rw [if_pos c3] at eI eT
      rw [eI, eT]
      exact ⟨rfl, by show (0 : Int) ≤ 3; omega, x3, x4, hn3⟩
    · rw [if_neg c3] at eI eT
      have c3' : T.1.contains 3 = false := by simpa using c3
      rw [map_tau c3'] at eI
      have hTc := hid (fun h => by rw [List.contains_iff_mem.2 h] at c3'; cases c3')
      have hop := hfl.2.2.1
      have hop0 := hfl.2.1
      have key := tyB_tk (L := L) (d := ndA L i) (ts := T.1) (by omega) hop0 (fun q => by rw [x6, hopd.1, if_neg (by omega)]; rfl)
      rw [key] at eT
      by_cases ck : tkI L (ndA L i) T.1 = true
      · rw [if_pos ck] at eI eT
        have eT : tyO L (F + 1) c i = (tgI (ndA L i), T.2) := eT
        rw [eI, eT]
        have hp : 0 ≤ tgI (ndA L i) ∧ tgI (ndA L i) ≠ 3 := by
          unfold tgI opGv
          repeat' split
          all_goals omega
        exact ⟨by show tgI (ndA L i) = _; rw [tau_ne hp.2], hp.1, x3, x4, hn3⟩
      · rw [if_neg ck] at eI eT
        have eT : tyO L (F + 1) c i = (3, T.2.badT i) := eT
        rw [eI, eT]
        have hbT : Bdd T.2 i := by rw [hTc]; exact hb
        obtain ⟨r1, r2⟩ := x3.badT hbT hi
        exact ⟨rfl, by show (0 : Int) ≤ 3; omega, r1, r2.mono hile, hn3⟩
end Go.Proofs.YtdlahabeegmjiaaDoor

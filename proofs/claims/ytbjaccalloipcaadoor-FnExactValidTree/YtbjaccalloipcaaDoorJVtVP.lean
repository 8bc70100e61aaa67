/-
  Plainly: where a branch ends (branchEnd, l2end), what is good (l2good), and that they agree.
-/
import Derived.Test.YtbjaccalloipcaaDoorJVtB0
namespace Go.Proofs.YtbjaccalloipcaaDoor

/-- What branchEnd's loop comes to: c children still to come, the next has number i, the end so far. -/
def bLoop (n : Nat) (st : Nat → Nat → Nat → Bool) (g : Nat → Nat) (p : Nat) : Nat → Nat → Nat → Nat
  | 0, _, e => e
  | c + 1, i, e => if e = n then 0 else if st p i e = true then (if g e = 0 then 0 else bLoop n st g p c (i + 1) (g e)) else 0
/-- branchEnd, with as many levels as are left. -/
def bE (n : Nat) (cnt : Nat → Int) (ok : Nat → Bool) (st : Nat → Nat → Nat → Bool) : Nat → Nat → Nat
  | 0, _ => 0
  | f + 1, i => if ok i = true then bLoop n st (bE n cnt ok st f) i (cnt i).toNat 0 (i + 1) else 0
/-- l2end's loop. -/
def sLoop (g : Nat → Option Nat) : Nat → Nat → Option Nat
  | 0, e => some e
  | c + 1, e => match g e with
    | none => none
    | some a => sLoop g c a
/-- l2end. -/
def sE (n : Nat) (cnt : Nat → Int) : Nat → Nat → Option Nat
  | 0, _ => none
  | f + 1, i => if n ≤ i ∨ cnt i < 0 ∨ (n : Int) < cnt i then none else sLoop (sE n cnt f) (cnt i).toNat (i + 1)
/-- Where the node behind another one lies. -/
def nx (n : Nat) (cnt : Nat → Int) (i : Nat) : Nat := (sE n cnt 60 i).getD 0
/-- l2good's last loop. -/
def gLoop (nx : Nat → Nat) (st : Nat → Nat → Nat → Bool) (g : Nat → Bool) (p : Nat) : Nat → Nat → Nat → Bool
  | 0, _, _ => true
  | c + 1, i, e => st p i e && (g e && gLoop nx st g p c (i + 1) (nx e))
/-- l2good. -/
def sG (n : Nat) (cnt : Nat → Int) (ok : Nat → Bool) (st : Nat → Nat → Nat → Bool) : Nat → Nat → Bool
  | 0, _ => false
  | f + 1, i => ok i && gLoop (nx n cnt) st (sG n cnt ok st f) i (cnt i).toNat 0 (i + 1)

/-- The sum of the counts less one. -/
def sm (cnt : Nat → Int) : Nat → Nat → Int
  | _, 0 => 0
  | a, l + 1 => (cnt a - 1) + sm cnt (a + 1) l
theorem sm_add (cnt : Nat → Int) (a l m : Nat) : sm cnt a (l + m) = sm cnt a l + sm cnt (a + l) m := by
  induction l generalizing a with
  | zero => simp [sm]
  | succ l ih => rw [show l + 1 + m = (l + m) + 1 by omega]; simp only [sm]; rw [ih, show a + 1 + l = a + (l + 1) by omega]; omega
theorem sm_succ (cnt : Nat → Int) (a l : Nat) : sm cnt a (l + 1) = sm cnt a l + (cnt (a + l) - 1) := by
  rw [sm_add]; simp [sm]

theorem sLoop_mono {g g' : Nat → Option Nat} (h : ∀ i e, g i = some e → g' i = some e) : ∀ c i e, sLoop g c i = some e → sLoop g' c i = some e := by
  intro c
  induction c with
  | zero => intro i e he; exact he
  | succ c ih =>
    intro i e he
    simp only [sLoop] at he ⊢
    cases hg : g i with
    | none => rw [hg] at he; cases he
    | some a => rw [hg] at he; rw [h i a hg]; exact ih a e he
theorem sE_step (n : Nat) (cnt : Nat → Int) : ∀ f i e, sE n cnt f i = some e → sE n cnt (f + 1) i = some e := by
  intro f
  induction f with
  | zero => intro i e he; cases he
  | succ f ih =>
    intro i e he
    rw [sE] at he ⊢
    split at he
    · cases he
    · rename_i hc
      rw [if_neg hc]; exact sLoop_mono ih _ _ _ he
theorem sE_mono (n : Nat) (cnt : Nat → Int) {f f' : Nat} (hf : f ≤ f') {i e : Nat} (h : sE n cnt f i = some e) : sE n cnt f' i = some e := by
  induction hf with
  | refl => exact h
  | step _ ih => exact sE_step n cnt _ _ _ ih
theorem nx_of {n : Nat} {cnt : Nat → Int} {f : Nat} (hf : f ≤ 60) {i e : Nat} (h : sE n cnt f i = some e) : nx n cnt i = e := by
  unfold nx; rw [sE_mono n cnt hf h]; rfl

/-- A branch: from i to e. -/
structure Br (n : Nat) (cnt : Nat → Int) (i e : Nat) : Prop where
  lt : i < e
  le : e ≤ n
  tot : sm cnt i (e - i) = -1
  pos : ∀ l, 0 < l → l < e - i → 0 ≤ sm cnt i l
  cn : ∀ j, i ≤ j → j < e → 0 ≤ cnt j ∧ cnt j ≤ n
theorem br_loop {n : Nat} {cnt : Nat → Int} {g : Nat → Option Nat} (hg : ∀ i e, g i = some e → Br n cnt i e) : ∀ c a e, a ≤ n → sLoop g c a = some e →
    a ≤ e ∧ e ≤ n ∧ sm cnt a (e - a) = -(c : Int) ∧ (∀ l, l < e - a → -(c : Int) < sm cnt a l) ∧ (∀ j, a ≤ j → j < e → 0 ≤ cnt j ∧ cnt j ≤ n) := by
  intro c
  induction c with
  | zero =>
    intro a e ha h
    obtain rfl := Option.some.inj h
    refine ⟨Nat.le_refl _, ha, by rw [Nat.sub_self]; rfl, fun l hl => by omega, fun j h1 h2 => by omega⟩
  | succ c ih =>
    intro a e ha h
    simp only [sLoop] at h
    cases hga : g a with
    | none => rw [hga] at h; cases h
    | some b =>
      rw [hga] at h
      have hb := hg a b hga
      obtain ⟨h1, h2, h3, h4, h5⟩ := ih b e hb.le h
      have hlt := hb.lt
      refine ⟨by omega, h2, ?_, ?_, ?_⟩
      · rw [show e - a = (b - a) + (e - b) by omega, sm_add, hb.tot, show a + (b - a) = b by omega, h3]; omega
      · intro l hl
        by_cases c1 : l < b - a
        · by_cases c0 : l = 0
          · subst c0; simp only [sm]; omega
          · have := hb.pos l (by omega) c1; omega
        · have := h4 (l - (b - a)) (by omega)
          rw [show l = (b - a) + (l - (b - a)) by omega, sm_add, hb.tot, show a + (b - a) = b by omega]; omega
      · intro j j1 j2
        by_cases c1 : j < b
        · exact hb.cn j j1 c1
        · exact h5 j (by omega) j2
theorem sE_br (n : Nat) (cnt : Nat → Int) : ∀ f i e, sE n cnt f i = some e → Br n cnt i e := by
  intro f
  induction f with
  | zero => intro i e h; cases h
  | succ f ih =>
    intro i e h
    rw [sE] at h
    split at h
    · cases h
    · rename_i hc
      obtain ⟨h1, h2, h3, h4, h5⟩ := br_loop ih _ (i + 1) e (by omega) h
      have hcn : (((cnt i).toNat : Nat) : Int) = cnt i := Int.toNat_of_nonneg (by omega)
      rw [hcn] at h3 h4
      refine ⟨by omega, h2, ?_, ?_, ?_⟩
      · rw [show e - i = (e - (i + 1)) + 1 by omega]; simp only [sm]; rw [h3]; omega
      · intro l l0 hl
        obtain ⟨m, rfl⟩ : ∃ m, l = m + 1 := ⟨l - 1, by omega⟩
        simp only [sm]
        have := h4 m (by omega); omega
      · intro j j1 j2
        by_cases c1 : j = i
        · subst c1; omega
        · exact h5 j (by omega) j2
/-- A child's number is no greater than its place. -/
theorem sLoop_ge {g : Nat → Option Nat} (hg : ∀ i e, g i = some e → i < e) : ∀ c a e, sLoop g c a = some e → a + c ≤ e := by
  intro c
  induction c with
  | zero => intro a e h; obtain rfl := Option.some.inj h; omega
  | succ c ih =>
    intro a e h
    simp only [sLoop] at h
    cases hga : g a with
    | none => rw [hga] at h; cases h
    | some b => rw [hga] at h; have := ih b e h; have := hg a b hga; omega

theorem bE_sE {n : Nat} {cnt : Nat → Int} {ok : Nat → Bool} {st : Nat → Nat → Nat → Bool} (hok : ∀ i, ok i = true → 0 ≤ cnt i) :
    ∀ f, f ≤ 60 → ∀ i e, i < n → e ≠ 0 → (bE n cnt ok st f i = e ↔ sE n cnt f i = some e ∧ sG n cnt ok st f i = true) := by
  intro f
  induction f with
  | zero => intro _ i e _ he; simp [bE, sE]; omega
  | succ f ih =>
    intro hf i e hi he
    have ih := ih (by omega)
    have hL : ∀ c k a, a ≤ n → a ≠ 0 → (bLoop n st (bE n cnt ok st f) i c k a = e ↔ sLoop (sE n cnt f) c a = some e ∧ gLoop (nx n cnt) st (sG n cnt ok st f) i c k a = true) := by
      intro c
      induction c with
      | zero => intro k a ha ha0; simp [bLoop, sLoop, gLoop]
      | succ c ihc =>
        intro k a ha ha0
        simp only [bLoop, sLoop, gLoop]
        by_cases c1 : a = n
        · rw [if_pos c1]
          have : sE n cnt f a = none := by
            cases f with
            | zero => rfl
            | succ f => rw [sE, if_pos (by omega)]
          rw [this]; simp; omega
        · rw [if_neg c1]
          by_cases c2 : st i k a = true
          · rw [if_pos c2, c2, Bool.true_and]
            by_cases c3 : bE n cnt ok st f a = 0
            · rw [if_pos c3]
              constructor
              · intro h; omega
              · rintro ⟨h1, h2⟩
                cases hs : sE n cnt f a with
                | none => rw [hs] at h1; cases h1
                | some b =>
                  rw [Bool.and_eq_true] at h2
                  have hb := (sE_br n cnt f a b hs).lt
                  have := (ih a b (by omega) (by omega)).2 ⟨hs, h2.1⟩
                  omega
            · rw [if_neg c3]
              obtain ⟨h1, h2⟩ := (ih a _ (by omega) c3).1 rfl
              rw [h1, h2, Bool.true_and]
              have hb := sE_br n cnt f a _ h1
              rw [nx_of (by omega) h1]
              exact ihc (k + 1) _ hb.le c3
          · rw [if_neg c2]
            simp [c2]; omega
    simp only [bE, sG]
    rw [sE]
    by_cases c1 : ok i = true
    · rw [if_pos c1, c1, Bool.true_and]
      have h0 := hok i c1
      rw [hL _ 0 (i + 1) (by omega) (by omega)]
      by_cases c2 : n ≤ i ∨ cnt i < 0 ∨ (n : Int) < cnt i
      · rw [if_pos c2]
        constructor
        · rintro ⟨h1, _⟩
          have h3 := br_loop (sE_br n cnt f) _ _ _ (by omega) h1
          have h4 := sLoop_ge (fun i e h => (sE_br n cnt f i e h).lt) _ _ _ h1
          omega
        · rintro ⟨h1, _⟩; cases h1
      · rw [if_neg c2]
    · rw [if_neg c1]; simp [c1]; omega
end Go.Proofs.YtbjaccalloipcaaDoor

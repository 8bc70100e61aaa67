/-
  Plainly: heaps of trips, and what distances goes by.
-/
import Derived.Test.YtochfhoaiekioaaJRtRTD
namespace Go.Proofs.Ytochfhoaiekioaa
open Go.RowKit

/-- A way from a cell to the target of a route. -/
structure Tr where
  c : Int
  l : Int
/-- Two that are swapped. -/
def swF (F : Nat → Tr) (i j : Nat) : Nat → Tr := fun k => if k = j then F i else if k = i then F j else F k
theorem swF_l (F : Nat → Tr) (i j : Nat) : swF F i j j = F i := by unfold swF; rw [if_pos rfl]
theorem swF_r (F : Nat → Tr) (i j : Nat) : swF F i j i = F j := by unfold swF; by_cases h : i = j <;> simp [h]
theorem swF_o {F : Nat → Tr} {i j k : Nat} (h1 : k ≠ i) (h2 : k ≠ j) : swF F i j k = F k := by unfold swF; rw [if_neg h2, if_neg h1]
/-- Among the first n. -/
def InH (F : Nat → Tr) (n : Nat) (x : Tr) : Prop := ∃ i, i < n ∧ F i = x
theorem InH.sw {F : Nat → Tr} {n i j : Nat} {x : Tr} (hi : i < n) (hj : j < n) : InH (swF F i j) n x ↔ InH F n x := by
  constructor
  · rintro ⟨k, hk, rfl⟩
    by_cases h2 : k = j
    · subst h2; rw [swF_l]; exact ⟨i, hi, rfl⟩
    · by_cases h1 : k = i
      · subst h1; rw [swF_r]; exact ⟨j, hj, rfl⟩
      · rw [swF_o h1 h2]; exact ⟨k, hk, rfl⟩
  · rintro ⟨k, hk, rfl⟩
    by_cases h1 : k = i
    · subst h1; exact ⟨j, hj, swF_l _ _ _⟩
    · by_cases h2 : k = j
      · subst h2; exact ⟨i, hi, swF_r _ _ _⟩
      · exact ⟨k, hk, swF_o h1 h2⟩
/-- None comes ahead of its parent. -/
def Hp (F : Nat → Tr) (n : Nat) : Prop := ∀ i, 0 < i → i < n → (F ((i - 1) / 2)).l ≤ (F i).l
/-- .. but for one, that may rise. -/
structure HpU (F : Nat → Tr) (n p : Nat) : Prop where
  ok : ∀ i, 0 < i → i < n → i ≠ p → (F ((i - 1) / 2)).l ≤ (F i).l
  up : ∀ i, 0 < i → i < n → (i - 1) / 2 = p → 0 < p → (F ((p - 1) / 2)).l ≤ (F i).l
theorem HpU.stop {F : Nat → Tr} {n p : Nat} (h : HpU F n p) (hp : p = 0 ∨ ¬ (F p).l < (F ((p - 1) / 2)).l) : Hp F n := by
  intro i h0 hi
  by_cases e : i = p
  · subst e
    rcases hp with hp | hp <;> omega
  · exact h.ok i h0 hi e
theorem HpU.step {F : Nat → Tr} {n p : Nat} (h : HpU F n p) (h0 : 0 < p) (hpn : p < n) (hl : (F p).l < (F ((p - 1) / 2)).l) : HpU (swF F p ((p - 1) / 2)) n ((p - 1) / 2) := by
  have hq : (p - 1) / 2 < p := by omega
  obtain ⟨q, hqe⟩ : ∃ q, (p - 1) / 2 = q := ⟨_, rfl⟩
  rw [hqe] at hl hq ⊢
  refine ⟨fun i hi0 hin hne => ?_, fun i hi0 hin hpi hq0 => ?_⟩
  · by_cases e1 : i = p
    · subst e1
      rw [hqe, swF_l, swF_r]
      omega
    · rw [swF_o e1 hne]
      by_cases e2 : (i - 1) / 2 = p
      · rw [e2, swF_r]
        have := h.up i hi0 hin e2 h0
        rw [hqe] at this
        exact this
      · by_cases e3 : (i - 1) / 2 = q
        · rw [e3, swF_l]
          have := h.ok i hi0 hin e1
          rw [e3] at this
          omega
        · rw [swF_o e2 e3]
          exact h.ok i hi0 hin e1
  · have e4 : (q - 1) / 2 ≠ p := by omega
    have e5 : (q - 1) / 2 ≠ q := by omega
    rw [swF_o e4 e5]
    have h1 := h.ok q hq0 (by omega) (by omega)
    by_cases e1 : i = p
    · subst e1
      rw [swF_r]
      exact h1
    · rw [swF_o e1 (by omega)]
      have h2 := h.ok i hi0 hin e1
      rw [hpi] at h2
      omega
/-- .. but for one, that may sink. -/
structure HpD (F : Nat → Tr) (n p : Nat) : Prop where
  ok : ∀ i, 0 < i → i < n → (i - 1) / 2 ≠ p → (F ((i - 1) / 2)).l ≤ (F i).l
  up : ∀ i, 0 < i → i < n → (i - 1) / 2 = p → 0 < p → (F ((p - 1) / 2)).l ≤ (F i).l
theorem HpD.stop {F : Nat → Tr} {n p : Nat} (h : HpD F n p) (hp : ∀ i, 0 < i → i < n → (i - 1) / 2 = p → (F p).l ≤ (F i).l) : Hp F n := by
  intro i h0 hi
  by_cases e : (i - 1) / 2 = p
  · rw [e]; exact hp i h0 hi e
  · exact h.ok i h0 hi e
theorem HpD.step {F : Nat → Tr} {n p k : Nat} (h : HpD F n p) (hk : k < n) (hkp : (k - 1) / 2 = p) (hk0 : 0 < k) (hm : ∀ i, 0 < i → i < n → (i - 1) / 2 = p → (F k).l ≤ (F i).l) (hl : (F k).l < (F p).l) : HpD (swF F p k) n k := by
  have hpk : p < k := by omega
  refine ⟨fun i hi0 hin hne => ?_, fun i hi0 hin hpi _ => ?_⟩
  · by_cases e1 : i = k
    · subst e1
      rw [hkp, swF_l, swF_r]
      omega
    · by_cases e2 : i = p
      · subst e2
        rw [swF_r, swF_o (by omega) hne]
        exact h.up k hk0 hk hkp hi0
      · rw [swF_o e2 e1]
        by_cases e3 : (i - 1) / 2 = p
        · rw [e3, swF_r]
          exact hm i hi0 hin e3
        · rw [swF_o e3 hne]
          exact h.ok i hi0 hin e3
  · rw [hkp, swF_r, swF_o (by omega) (by omega)]
    have := h.ok i hi0 hin (by omega)
    rw [hpi] at this
    exact this
/-- What stands first is the least. -/
theorem Hp.min {F : Nat → Tr} {n : Nat} (h : Hp F n) : ∀ i, i < n → (F 0).l ≤ (F i).l := by
  intro i
  induction i using Nat.strongRecOn with
  | ind i ih =>
    intro hi
    by_cases e : i = 0
    · subst e; exact Int.le_refl _
    · have h1 := ih ((i - 1) / 2) (by omega) (by omega)
      have h2 := h i (by omega) hi
      omega
/-- What is left behind the first: the last in its place. -/
theorem Hp.cut {F : Nat → Tr} {n : Nat} (h : Hp F (n + 1)) : HpD (swF F 0 n) n 0 := by
  refine ⟨fun i hi0 hin hne => ?_, fun i _ _ _ h0 => by omega⟩
  rw [swF_o hne (by omega), swF_o (by omega) (by omega)]
  exact h i hi0 (by omega)
/-- What put leaves. -/
theorem HpU.new {F : Nat → Tr} {n : Nat} (h : Hp F n) : HpU F (n + 1) n :=
  ⟨fun i h0 hi hne => h i h0 (by omega), fun i _ hi hp h0 => by omega⟩

/-- How far distances has come: M the lengths, F the trips that wait. -/
structure Dj (n : Nat) (E : List Ed) (s : Nat) (M : Nat → Int) (F : Nat → Tr) (k : Nat) (R : Ed → Prop) : Prop where
  none : ∀ c, c < n → M c < 0 → M c = -1
  least : ∀ c : Nat, c < n → 0 ≤ M c → Way E (s : Int) (c : Int) (M c) ∧ ∀ l, Way E (s : Int) (c : Int) l → M c ≤ l
  way : ∀ x, InH F k x → 0 ≤ x.c ∧ x.c < n ∧ Way E (s : Int) x.c x.l ∧ x.l ≤ 9 * ((n : Int) - cntN M n)
  base : 0 ≤ M s ∨ InH F k ⟨s, 0⟩
  edge : ∀ e ∈ E, R e → 0 ≤ M e.t.toNat → 0 ≤ M e.f.toNat ∨ InH F k ⟨e.f, M e.t.toNat + e.c⟩
  bnd : ∀ c, c < n → M c ≤ 9 * ((n : Int) - cntN M n)
theorem Dj.meets {n : Nat} {E : List Ed} {s : Nat} {M : Nat → Int} {F : Nat → Tr} {k : Nat} (hE : Ec n E) (h : Dj n E s M F k (fun _ => True)) {c l : Int} (hw : Way E (s : Int) c l) : 0 ≤ M c.toNat ∨ ∃ x, InH F k x ∧ x.l ≤ l := by
  induction hw with
  | base =>
    rcases h.base with h1 | h1
    · exact .inl (by rw [Int.toNat_natCast]; exact h1)
    · exact .inr ⟨_, h1, Int.le_refl _⟩
  | @step e l h1 h2 ih =>
    have hc := (hE.cc e h1).1
    have ht := hE.tt e h1
    rcases ih with h3 | ⟨x, h3, h4⟩
    · rcases h.edge e h1 trivial h3 with h5 | h5
      · exact .inl h5
      · refine .inr ⟨_, h5, ?_⟩
        have h6 := (h.least e.t.toNat (by omega) h3).2 l (by rw [show ((e.t.toNat : Nat) : Int) = e.t by omega]; exact h2)
        show M e.t.toNat + e.c ≤ l + e.c
        omega
    · exact .inr ⟨x, h3, by omega⟩
/-- A trip is taken whose cell has a length already. -/
theorem Dj.skip {n : Nat} {E : List Ed} {s : Nat} {M : Nat → Int} {F F' : Nat → Tr} {k k' : Nat} {x : Tr} (h : Dj n E s M F k (fun _ => True)) (hx : 0 ≤ M x.c.toNat) (h1 : ∀ y, InH F' k' y → InH F k y) (h2 : ∀ y, InH F k y → y = x ∨ InH F' k' y) : Dj n E s M F' k' (fun _ => True) := by
  refine ⟨h.none, h.least, fun y hy => h.way y (h1 y hy), ?_, fun e he hr h0 => ?_, h.bnd⟩
  · rcases h.base with h3 | h3
    · exact .inl h3
    · rcases h2 _ h3 with rfl | h4
      · exact .inl (by rw [Int.toNat_natCast] at hx; exact hx)
      · exact .inr h4
  · rcases h.edge e he hr h0 with h3 | h3
    · exact .inl h3
    · rcases h2 _ h3 with rfl | h4
      · exact .inl hx
      · exact .inr h4
/-- A trip is taken whose cell has none: it is the least. -/
theorem Dj.met {n : Nat} {E : List Ed} {s : Nat} {M : Nat → Int} {F F' : Nat → Tr} {k k' : Nat} {x : Tr} (hE : Ec n E) (h : Dj n E s M F k (fun _ => True)) (hin : InH F k x) (hmin : ∀ y, InH F k y → x.l ≤ y.l) (hx : M x.c.toNat < 0) (h1 : ∀ y, InH F' k' y → InH F k y) (h2 : ∀ y, InH F k y → y = x ∨ InH F' k' y) :
    Dj n E s (updI M x.c.toNat x.l) F' k' (fun e => e.t.toNat ≠ x.c.toNat) := by
  obtain ⟨hc0, hcn, hw, hb⟩ := h.way x hin
  have hl0 := hw.nn hE
  have hcc : ((x.c.toNat : Nat) : Int) = x.c := by omega
  have hcnt := cntN_upd (M := M) (t := x.c.toNat) (v := x.l) hx hl0 (n := n) (by omega)
  refine ⟨fun c hc h0 => ?_, fun c hc h0 => ?_, fun y hy => ?_, ?_, fun e he hr h0 => ?_, fun c hc => ?_⟩
  · by_cases e : c = x.c.toNat
    · subst e; rw [updI_same] at h0; omega
    · rw [updI_ne e] at h0 ⊢; exact h.none c hc h0
  · by_cases e : c = x.c.toNat
    · subst e
      rw [updI_same, hcc]
      refine ⟨hw, fun l hl => ?_⟩
      rcases h.meets hE hl with h3 | ⟨y, h3, h4⟩
      · omega
      · have := hmin y h3; omega
    · rw [updI_ne e] at h0 ⊢; exact h.least c hc h0
  · obtain ⟨g0, g1, g2, g3⟩ := h.way y (h1 y hy)
    exact ⟨g0, g1, g2, by omega⟩
  · by_cases e : s = x.c.toNat
    · exact .inl (by rw [e, updI_same]; exact hl0)
    · rw [updI_ne e]
      rcases h.base with h3 | h3
      · exact .inl h3
      · rcases h2 _ h3 with h4 | h4
        · exact absurd (by rw [← h4, Int.toNat_natCast]) e
        · exact .inr h4
  · rw [updI_ne hr] at h0
    by_cases e1 : e.f.toNat = x.c.toNat
    · exact .inl (by rw [e1, updI_same]; exact hl0)
    · rw [updI_ne e1]
      rw [updI_ne hr]
      rcases h.edge e he trivial h0 with h3 | h3
      · exact .inl h3
      · rcases h2 _ h3 with h4 | h4
        · exact absurd (by rw [← h4]) e1
        · exact .inr h4
  · by_cases e : c = x.c.toNat
    · subst e; rw [updI_same]; omega
    · rw [updI_ne e]; have := h.bnd c hc; omega
/-- One trip more waits. -/
theorem Dj.put {n : Nat} {E : List Ed} {s : Nat} {M : Nat → Int} {F F' : Nat → Tr} {k k' : Nat} {R R' : Ed → Prop} {y : Tr} (h : Dj n E s M F k R) (hy : 0 ≤ y.c ∧ y.c < n ∧ Way E (s : Int) y.c y.l ∧ y.l ≤ 9 * ((n : Int) - cntN M n)) (h1 : ∀ z, InH F' k' z ↔ z = y ∨ InH F k z)
    (hR : ∀ e ∈ E, R' e → R e ∨ (0 ≤ M e.t.toNat → ⟨e.f, M e.t.toNat + e.c⟩ = y)) : Dj n E s M F' k' R' := by
  refine ⟨h.none, h.least, fun z hz => ?_, ?_, fun e he hr h0 => ?_, h.bnd⟩
  · rcases (h1 z).1 hz with rfl | h2
    · exact hy
    · exact h.way z h2
  · rcases h.base with h2 | h2
    · exact .inl h2
    · exact .inr ((h1 _).2 (.inr h2))
  · rcases hR e he hr with h2 | h2
    · rcases h.edge e he h2 h0 with h3 | h3
      · exact .inl h3
      · exact .inr ((h1 _).2 (.inr h3))
    · exact .inr ((h1 _).2 (.inl (h2 h0)))
theorem Dj.more {n : Nat} {E : List Ed} {s : Nat} {M : Nat → Int} {F : Nat → Tr} {k : Nat} {R R' : Ed → Prop} (h : Dj n E s M F k R) (hR : ∀ e ∈ E, R' e → R e) : Dj n E s M F k R' :=
  ⟨h.none, h.least, h.way, h.base, fun e he hr => h.edge e he (hR e he hr), h.bnd⟩
/-- Nothing waits any more. -/
theorem Dj.done {n : Nat} {E : List Ed} {s : Nat} {M : Nat → Int} {F : Nat → Tr} (hE : Ec n E) (hs : s < n) (h : Dj n E s M F 0 (fun _ => True)) (c : Nat) (hc : c < n) : M c = dsF E (s : Int) c := by
  have none : ∀ x, ¬ InH F 0 x := fun x ⟨i, hi, _⟩ => by omega
  have hb : 0 ≤ M s := by
    rcases h.base with h1 | h1
    · exact h1
    · exact absurd h1 (none _)
  refine ds_done hE h.none (fun c hc h0 => (h.least c hc h0).1) ⟨hb, (h.least s hs hb).2 0 Way.base⟩ (fun e he h0 => ?_) c hc
  have ht := hE.tt e he
  have hf := hE.ff e he
  rcases h.edge e he trivial h0 with h1 | h1
  · refine ⟨h1, (h.least e.f.toNat (by omega) h1).2 _ ?_⟩
    have h2 := (h.least e.t.toNat (by omega) h0).1
    rw [show ((e.t.toNat : Nat) : Int) = e.t by omega] at h2
    rw [show ((e.f.toNat : Nat) : Int) = e.f by omega]
    exact .step he h2
  · exact absurd h1 (none _)
/-- How it begins. -/
theorem Dj.first {n : Nat} {E : List Ed} {s : Nat} (hs : s < n) {F : Nat → Tr} {k : Nat} (h1 : ∀ z, InH F k z ↔ z = ⟨s, 0⟩) : Dj n E s (fun _ => -1) F k (fun _ => True) := by
  refine ⟨fun _ _ _ => rfl, fun c _ h => absurd h (by decide), fun x hx => ?_, .inr ((h1 _).2 rfl), fun e _ _ h => absurd h (by decide), fun c _ => ?_⟩
  rotate_left
  · have := cntN_le (fun _ => -1) n
    show (-1 : Int) ≤ _
    omega
  obtain rfl := (h1 x).1 hx
  have := cntN_le (fun _ => -1) n
  exact ⟨by simp, by simp; omega, Way.base, by simp only; omega⟩
end Go.Proofs.Ytochfhoaiekioaa

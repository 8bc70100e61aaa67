/-
  Plainly: components by ranks and what is unknown yet.
-/
import Derived.Test.YtohilccbfdienaaJCoCO
namespace Go.Proofs.Ytohilccbfdienaa
open Go.RowKit

/-- An edge leads from x to y. -/
def Ege (E : List Ed) (x y : Nat) : Prop := ∃ e ∈ E, e.f = (x : Int) ∧ e.t = (y : Int)
/-- y can be reached from x. -/
def Rc (E : List Ed) (x y : Nat) : Prop := Rch E [(x : Int)] (y : Int)
theorem Rc.self (E : List Ed) (x : Nat) : Rc E x x := Rch.self E x
theorem Rc.trans {E : List Ed} {x y z : Nat} (h : Rc E x y) (k : Rc E y z) : Rc E x z := Rch.trans h k
theorem Ege.rc {E : List Ed} {x y : Nat} (h : Ege E x y) : Rc E x y := by
  obtain ⟨e, he, h1, h2⟩ := h
  unfold Rc
  rw [← h2]
  exact .step he (by rw [h1]; exact Rch.self _ _)
/-- What holds for x and goes on along edges holds for all that x reaches. -/
theorem Rc.ind {n : Nat} {E : List Ed} (hE : ∀ e ∈ E, 0 ≤ e.f ∧ e.f < (n : Int) ∧ 0 ≤ e.t ∧ e.t < (n : Int)) {p : Nat → Prop} {x y : Nat} (h : Rc E x y) (h0 : p x) (hs : ∀ a b, p a → Ege E a b → p b) : p y := by
  have key : ∀ z : Int, Rch E [(x : Int)] z → p z.toNat := by
    intro z hz
    induction hz with
    | base h1 => rw [List.mem_singleton.1 h1, Int.toNat_natCast]; exact h0
    | @step e h1 _ ih =>
      have := hE e h1
      exact hs e.f.toNat e.t.toNat ih ⟨e, h1, by omega, by omega⟩
  have := key _ h
  rwa [Int.toNat_natCast] at this
/-- How many are not met. -/
def cntZ (rk : Nat → Nat) : Nat → Nat
  | 0 => 0
  | n + 1 => cntZ rk n + (if rk n = 0 then 1 else 0)
def updN (f : Nat → Nat) (t v : Nat) : Nat → Nat := fun j => if j = t then v else f j
theorem updN_same (f : Nat → Nat) (t v : Nat) : updN f t v t = v := by unfold updN; rw [if_pos rfl]
theorem updN_ne {f : Nat → Nat} {t j : Nat} (h : j ≠ t) (v : Nat) : updN f t v j = f j := by unfold updN; rw [if_neg h]
theorem cntZ_upd_ge {rk : Nat → Nat} {t v : Nat} : ∀ {n : Nat}, n ≤ t → cntZ (updN rk t v) n = cntZ rk n
  | 0, _ => rfl
  | n + 1, h => by
    unfold cntZ
    rw [cntZ_upd_ge (by omega), updN_ne (by omega)]
theorem cntZ_upd {rk : Nat → Nat} {t v : Nat} (ht : rk t = 0) (hv : v ≠ 0) : ∀ {n : Nat}, t < n → cntZ (updN rk t v) n + 1 = cntZ rk n
  | 0, h => by omega
  | n + 1, h => by
    unfold cntZ
    by_cases e : t = n
    · subst e
      rw [cntZ_upd_ge (Nat.le_refl _), updN_same, if_neg hv, if_pos ht]
    · have h1 := cntZ_upd ht hv (n := n) (by omega)
      rw [updN_ne (fun q => e q.symm)]
      omega
theorem cntZ_all (n : Nat) : cntZ (fun _ => 0) n = n := by
  induction n with
  | zero => rfl
  | succ n ih => unfold cntZ; rw [ih, if_pos rfl]
/-- How it stands: rk the ranks, ls the least ones, st what is unknown, m how many were met, gy those that are under way. -/
structure Tj (n : Nat) (E : List Ed) (rk : Nat → Nat) (ls : Nat → Int) (st : List Nat) (m : Nat) (gy : Nat → Prop) : Prop where
  lt : ∀ x ∈ st, x < n
  top : ∀ x, x < n → rk x ≤ m
  cnt : cntZ rk n + m = n
  srt : st.Pairwise fun a b => rk a < rk b
  ins : ∀ x, x < n → (x ∈ st ↔ rk x ≠ 0 ∧ ls x < 0)
  neg : ∀ x, x < n → ls x < 0 → ls x = -1
  zer : ∀ x, x < n → rk x = 0 → ls x < 0
  gry : ∀ x, gy x → x ∈ st
  met : ∀ x y, x < n → y < n → rk x ≠ 0 → ¬ gy x → Ege E x y → rk y ≠ 0
  up : ∀ x ∈ st, ∀ y ∈ st, rk x ≤ rk y → Rc E x y
  dwn : ∀ y ∈ st, ∃ x, gy x ∧ rk x ≤ rk y ∧ Rc E y x
  kn : ∀ x, x < n → 0 ≤ ls x → ∃ c : Nat, ls x = (c : Int) ∧ Mut E (c : Int) (x : Int) ∧ ∀ b : Nat, b < c → ¬ Mut E (b : Int) (x : Int)
  cls : ∀ x y, x < n → y < n → 0 ≤ ls x → Ege E x y → 0 ≤ ls y
theorem Tj.first {n : Nat} {E : List Ed} : Tj n E (fun _ => 0) (fun _ => -1) [] 0 (fun _ => False) := by
  refine ⟨fun x hx => (by cases hx), fun x _ => Nat.le_refl _, by rw [cntZ_all, Nat.add_zero], List.Pairwise.nil, fun x _ => ⟨fun h => (by cases h), fun h => absurd rfl h.1⟩, fun _ _ _ => rfl, fun _ _ _ => by omega, fun x hx => hx.elim, fun x y _ _ h => absurd rfl h, fun x hx => (by cases hx), fun y hy => (by cases hy), fun x _ h => by omega, fun x y _ _ h => by omega⟩
/-- What a visit leaves: s' behind s. -/
structure Tv (n : Nat) (E : List Ed) (rk : Nat → Nat) (ls : Nat → Int) (st : List Nat) (c : Nat) (low : Nat) (rk' : Nat → Nat) (ls' : Nat → Int) (st' : List Nat) : Prop where
  ext : ∃ T, st' = st ++ T ∧ ∀ x ∈ T, rk x = 0 ∧ ∀ y, Ege E x y → y ∈ st → low ≤ rk y
  rks : ∀ x, rk x ≠ 0 → rk' x = rk x
  lss : ∀ x, x < n → rk x ≠ 0 → ls' x = ls x
  cme : rk' c ≠ 0
  lle : low ≤ rk' c
  lin : low = rk' c ∨ ∃ y ∈ st', rk' y = low ∧ Rc E c y
/-- While the next cells of c are gone through: T lies behind c. -/
structure Tl (n : Nat) (E : List Ed) (rk0 : Nat → Nat) (ls0 : Nat → Int) (st0 : List Nat) (c r : Nat) (low : Nat) (rk : Nat → Nat) (ls : Nat → Int) (st : List Nat) (D : Nat → Prop) : Prop where
  ext : ∃ T, st = st0 ++ c :: T ∧ ∀ x ∈ T, rk0 x = 0 ∧ x ≠ c ∧ ∀ y, Ege E x y → y ∈ st0 → low ≤ rk0 y
  rks : ∀ x, rk0 x ≠ 0 → rk x = rk0 x
  lss : ∀ x, x < n → rk0 x ≠ 0 → ls x = ls0 x
  own : rk c = r
  lle : low ≤ r
  lin : ∃ y ∈ st, rk y = low ∧ Rc E c y
  don : ∀ y, D y → rk y ≠ 0 ∧ (y ∈ st0 → low ≤ rk0 y)
  old : ∀ x ∈ st0, rk0 x ≠ 0
/-- c is met. -/
theorem Tj.enter {n : Nat} {E : List Ed} {rk : Nat → Nat} {ls : Nat → Int} {st : List Nat} {m : Nat} {gy : Nat → Prop} (h : Tj n E rk ls st m gy) {c : Nat} (hc : c < n) (h0 : rk c = 0) (hg : ∀ x, gy x → Rc E x c) :
    Tj n E (updN rk c (m + 1)) ls (st ++ [c]) (m + 1) (fun x => gy x ∨ x = c) ∧ Tl n E rk ls st c (m + 1) (m + 1) (updN rk c (m + 1)) ls (st ++ [c]) (fun _ => False) := by
  have hcs : c ∉ st := fun e => ((h.ins c hc).1 e).1 h0
  have hne : ∀ x ∈ st, x ≠ c := fun x hx e => hcs (e ▸ hx)
  have hst : ∀ x ∈ st, Rc E x c := fun x hx => by
    obtain ⟨g, h1, _, h3⟩ := h.dwn x hx
    exact h3.trans (hg g h1)
  refine ⟨⟨fun x hx => ?_, fun x hx => ?_, ?_, ?_, fun x hx => ?_, h.neg, fun x hx hz => ?_, fun x hx => ?_, fun x y hx hy hr hgx he => ?_, fun x hx y hy hl => ?_, fun y hy => ?_, h.kn, h.cls⟩, ⟨[], by simp, fun x hx => by cases hx⟩, fun x hx => ?_, fun x _ _ => rfl, updN_same _ _ _, Nat.le_refl _, ⟨c, by simp, updN_same _ _ _, Rc.self _ _⟩, fun y hy => hy.elim, fun x hx => ((h.ins x (h.lt x hx)).1 hx).1⟩
  · rcases List.mem_append.1 hx with hx | hx
    · exact h.lt x hx
    · rw [List.mem_singleton.1 hx]; exact hc
  · by_cases e : x = c
    · subst e; rw [updN_same]; exact Nat.le_refl _
    · rw [updN_ne e]; have := h.top x hx; omega
  · have := cntZ_upd (rk := rk) (t := c) (v := m + 1) h0 (by omega) hc
    have := h.cnt
    omega
  · refine List.pairwise_append.2 ⟨?_, List.pairwise_singleton _ _, fun a ha b hb => ?_⟩
    · refine h.srt.imp_of_mem fun {a b} ha hb hab => ?_
      rw [updN_ne (hne a ha), updN_ne (hne b hb)]
      exact hab
    · rw [List.mem_singleton.1 hb, updN_same, updN_ne (hne a ha)]
      have := h.top a (h.lt a ha)
      omega
  · by_cases e : x = c
    · subst e
      rw [updN_same]
      exact ⟨fun _ => ⟨by omega, h.zer x hx h0⟩, fun _ => by simp⟩
    · rw [updN_ne e, ← h.ins x hx]
      simp [e]
  · by_cases e : x = c
    · subst e; exact h.zer x hx h0
    · rw [updN_ne e] at hz; exact h.zer x hx hz
  · rcases hx with hx | rfl
    · exact List.mem_append_left _ (h.gry x hx)
    · simp
  · have e : x ≠ c := fun e => hgx (.inr e)
    rw [updN_ne e] at hr
    by_cases e2 : y = c
    · subst e2; rw [updN_same]; omega
    · rw [updN_ne e2]; exact h.met x y hx hy hr (fun q => hgx (.inl q)) he
  · rcases List.mem_append.1 hx with hx | hx
    · rcases List.mem_append.1 hy with hy | hy
      · rw [updN_ne (hne x hx), updN_ne (hne y hy)] at hl
        exact h.up x hx y hy hl
      · rw [List.mem_singleton.1 hy]; exact hst x hx
    · rw [List.mem_singleton.1 hx] at hl ⊢
      rcases List.mem_append.1 hy with hy | hy
      · rw [updN_same, updN_ne (hne y hy)] at hl
        have := h.top y (h.lt y hy)
        omega
      · rw [List.mem_singleton.1 hy]; exact Rc.self _ _
  · rcases List.mem_append.1 hy with hy | hy
    · obtain ⟨g, h1, h2, h3⟩ := h.dwn y hy
      exact ⟨g, .inl h1, by rw [updN_ne (hne g (h.gry g h1)), updN_ne (hne y hy)]; exact h2, h3⟩
    · rw [List.mem_singleton.1 hy]
      exact ⟨c, .inr rfl, Nat.le_refl _, Rc.self _ _⟩
  · by_cases e : x = c
    · subst e; exact absurd h0 hx
    · exact updN_ne e _
/-- All that are under way reach a next cell of c. -/
theorem Tj.reach {n : Nat} {E : List Ed} {rk : Nat → Nat} {ls : Nat → Int} {st : List Nat} {m : Nat} {gy : Nat → Prop} {c y : Nat} (h : Tj n E rk ls st m gy) (hc : c ∈ st) (htop : ∀ x, gy x → rk x ≤ rk c) (he : Ege E c y) : ∀ x, gy x → Rc E x y :=
  fun x hx => (h.up x (h.gry x hx) c hc (htop x hx)).trans he.rc
/-- Behind the visit of a next cell. -/
theorem Tl.visit {n : Nat} {E : List Ed} {rk0 rk rk' : Nat → Nat} {ls0 ls ls' : Nat → Int} {st0 st st' : List Nat} {c r low low' y m : Nat} {D : Nat → Prop} {gy : Nat → Prop} (h : Tl n E rk0 ls0 st0 c r low rk ls st D) (hj : Tj n E rk ls st m gy) (hy : rk y = 0) (hcy : rk c ≠ 0) (he : Ege E c y) (hyn : y < n)
    (hr : m < rk' y) (v : Tv n E rk ls st y low' rk' ls' st') : Tl n E rk0 ls0 st0 c r (min low low') rk' ls' st' (fun z => D z ∨ z = y) := by
  obtain ⟨T, hT, hT2⟩ := h.ext
  obtain ⟨T2, hT3, hT4⟩ := v.ext
  have key : ∀ x, rk0 x ≠ 0 → rk x ≠ 0 := fun x hx => by rw [h.rks x hx]; exact hx
  refine ⟨⟨T ++ T2, by rw [hT3, hT]; simp, fun x hx => ?_⟩, fun x hx => (v.rks x (key x hx)).trans (h.rks x hx), fun x hx h0 => (v.lss x hx (key x h0)).trans (h.lss x hx h0), (v.rks c hcy).trans h.own, by have := h.lle; omega, ?_, fun z hz => ?_, h.old⟩
  · rcases List.mem_append.1 hx with hx | hx
    · obtain ⟨h1, h2, h3⟩ := hT2 x hx
      exact ⟨h1, h2, fun y he hy => by have := h3 y he hy; omega⟩
    · obtain ⟨h1, h2⟩ := hT4 x hx
      refine ⟨?_, fun e => ?_, fun z he hz => ?_⟩
      · by_cases q : rk0 x = 0
        · exact q
        · exact absurd h1 (key x q)
      · rw [e] at h1; exact hcy h1
      · have h3 := h2 z he (by rw [hT]; exact List.mem_append_left _ hz)
        rw [h.rks z (h.old z hz)] at h3
        omega
  · obtain ⟨z, h1, h2, h3⟩ := h.lin
    have hzr : rk z ≠ 0 := ((hj.ins z (hj.lt z h1)).1 h1).1
    by_cases q : low ≤ low'
    · rw [Nat.min_eq_left q]
      exact ⟨z, by rw [hT3]; exact List.mem_append_left _ h1, by rw [v.rks z hzr]; exact h2, h3⟩
    · rw [Nat.min_eq_right (by omega)]
      rcases v.lin with h4 | ⟨u, h4, h5, h6⟩
      · have h7 := hj.top z (hj.lt z h1)
        omega
      · exact ⟨u, h4, h5, he.rc.trans h6⟩
  · rcases hz with hz | rfl
    · obtain ⟨h1, h2⟩ := h.don z hz
      exact ⟨by rw [v.rks z h1]; exact h1, fun hs => by have := h2 hs; omega⟩
    · refine ⟨v.cme, fun hs => ?_⟩
      have hz' : z ∈ st := by rw [hT]; exact List.mem_append_left _ hs
      exact absurd hy ((hj.ins z hyn).1 hz').1
/-- A next cell that is unknown yet. -/
theorem Tl.seen {n : Nat} {E : List Ed} {rk0 rk : Nat → Nat} {ls0 ls : Nat → Int} {st0 st : List Nat} {c r low y m : Nat} {D : Nat → Prop} {gy : Nat → Prop} (h : Tl n E rk0 ls0 st0 c r low rk ls st D) (hj : Tj n E rk ls st m gy) (hy : rk y ≠ 0) (hl : ls y < 0) (he : Ege E c y) (hyn : y < n) : Tl n E rk0 ls0 st0 c r (min low (rk y)) rk ls st (fun z => D z ∨ z = y) := by
  obtain ⟨T, hT, hT2⟩ := h.ext
  refine ⟨⟨T, hT, fun x hx => ?_⟩, h.rks, h.lss, h.own, by have := h.lle; omega, ?_, fun z hz => ?_, h.old⟩
  · obtain ⟨h1, h2, h3⟩ := hT2 x hx
    exact ⟨h1, h2, fun y he hy => by have := h3 y he hy; omega⟩
  · by_cases q : low ≤ rk y
    · rw [Nat.min_eq_left q]; exact h.lin
    · rw [Nat.min_eq_right (by omega)]; exact ⟨y, (hj.ins y hyn).2 ⟨hy, hl⟩, rfl, he.rc⟩
  · rcases hz with hz | rfl
    · obtain ⟨h1, h2⟩ := h.don z hz
      exact ⟨h1, fun hs => by have := h2 hs; omega⟩
    · exact ⟨hy, fun hs => by have := h.rks z (h.old z hs); omega⟩
/-- A next cell that is known. -/
theorem Tl.known {n : Nat} {E : List Ed} {rk0 rk : Nat → Nat} {ls0 ls : Nat → Int} {st0 st : List Nat} {c r low y m : Nat} {D : Nat → Prop} {gy : Nat → Prop} (h : Tl n E rk0 ls0 st0 c r low rk ls st D) (hj : Tj n E rk ls st m gy) (hy : rk y ≠ 0) (hl : 0 ≤ ls y) (hyn : y < n) : Tl n E rk0 ls0 st0 c r low rk ls st (fun z => D z ∨ z = y) := by
  obtain ⟨T, hT, hT2⟩ := h.ext
  refine ⟨⟨T, hT, hT2⟩, h.rks, h.lss, h.own, h.lle, h.lin, fun z hz => ?_, h.old⟩
  rcases hz with hz | rfl
  · exact h.don z hz
  · refine ⟨hy, fun hs => ?_⟩
    have := ((hj.ins z hyn).1 (by rw [hT]; exact List.mem_append_left _ hs)).2
    omega
theorem Tl.more {n : Nat} {E : List Ed} {rk0 rk : Nat → Nat} {ls0 ls : Nat → Int} {st0 st : List Nat} {c r low : Nat} {D D' : Nat → Prop} (h : Tl n E rk0 ls0 st0 c r low rk ls st D) (hD : ∀ z, D' z → D z) : Tl n E rk0 ls0 st0 c r low rk ls st D' :=
  ⟨h.ext, h.rks, h.lss, h.own, h.lle, h.lin, fun y hy => h.don y (hD y hy), h.old⟩
/-- c reaches one below it: it stays. -/
theorem Tl.keep {n : Nat} {E : List Ed} {rk0 rk : Nat → Nat} {ls0 ls : Nat → Int} {st0 st : List Nat} {c r low m : Nat} {D : Nat → Prop} {gy : Nat → Prop} (h : Tl n E rk0 ls0 st0 c r low rk ls st D) (hj : Tj n E rk ls st m (fun x => gy x ∨ x = c)) (h0 : rk0 c = 0) (hr : r ≠ 0) (hD : ∀ y, y < n → Ege E c y → D y) (hE : ∀ x y, Ege E x y → x < n ∧ y < n) (hlt : low < r) :
    Tj n E rk ls st m gy ∧ Tv n E rk0 ls0 st0 c low rk ls st := by
  obtain ⟨T, hT, hT2⟩ := h.ext
  refine ⟨⟨hj.lt, hj.top, hj.cnt, hj.srt, hj.ins, hj.neg, hj.zer, fun x hx => hj.gry x (.inl hx), fun x y hx hy hrx hg he => ?_, hj.up, fun y hy => ?_, hj.kn, hj.cls⟩, ⟨c :: T, hT, fun x hx => ?_⟩, h.rks, h.lss, by rw [h.own]; exact hr, by rw [h.own]; exact h.lle, .inr h.lin⟩
  · by_cases e : x = c
    · subst e; exact (h.don y (hD y hy he)).1
    · exact hj.met x y hx hy hrx (fun q => q.elim hg e) he
  · obtain ⟨g, h1, h2, h3⟩ := hj.dwn y hy
    rcases h1 with h1 | rfl
    · exact ⟨g, h1, h2, h3⟩
    · obtain ⟨z, h4, h5, h6⟩ := h.lin
      obtain ⟨g2, h7, h8, h9⟩ := hj.dwn z h4
      rw [h.own] at h2
      rcases h7 with h7 | rfl
      · exact ⟨g2, h7, by omega, h3.trans (h6.trans h9)⟩
      · rw [h.own] at h8; omega
  · rcases List.mem_cons.1 hx with rfl | hx
    · exact ⟨h0, fun y he hy => (h.don y (hD y (hE _ _ he).2 he)).2 hy⟩
    · obtain ⟨h1, _, h3⟩ := hT2 x hx
      exact ⟨h1, h3⟩
/-- c reaches none below it: it has a component with all behind it. -/
theorem Tl.pop {n : Nat} {E : List Ed} {rk0 rk : Nat → Nat} {ls0 ls ls' : Nat → Int} {st0 st T : List Nat} {c r m f : Nat} {D : Nat → Prop} {gy : Nat → Prop} (hEb : ∀ e ∈ E, 0 ≤ e.f ∧ e.f < (n : Int) ∧ 0 ≤ e.t ∧ e.t < (n : Int)) (h : Tl n E rk0 ls0 st0 c r r rk ls st D) (hj : Tj n E rk ls st m (fun x => gy x ∨ x = c)) (hT : st = st0 ++ c :: T) (h0 : rk0 c = 0) (hr : r ≠ 0) (hD : ∀ y, y < n → Ege E c y → D y) (hg0 : ∀ x, gy x → x ∈ st0)
    (hf : f ∈ c :: T) (hfm : ∀ x ∈ c :: T, f ≤ x) (hl1 : ∀ x ∈ c :: T, ls' x = (f : Int)) (hl2 : ∀ x, x ∉ c :: T → ls' x = ls x) :
    Tj n E rk ls' st0 m gy ∧ Tv n E rk0 ls0 st0 c r rk ls' st0 := by
  have hE : ∀ x y, Ege E x y → x < n ∧ y < n := fun x y ⟨e, he, h1, h2⟩ => by have := hEb e he; omega
  obtain ⟨T', hT', hT2'⟩ := h.ext
  have hTT : T' = T := by
    have : st0 ++ c :: T' = st0 ++ c :: T := by rw [← hT', hT]
    have := List.append_cancel_left this
    injection this
  subst hTT
  have hsrt := hj.srt
  rw [hT] at hsrt
  obtain ⟨s1, s2, s3⟩ := List.pairwise_append.1 hsrt
  have s4 := (List.pairwise_cons.1 s2).1
  have sub : ∀ x ∈ st0, x ∈ st := fun x hx => by rw [hT]; exact List.mem_append_left _ hx
  have sup : ∀ x ∈ c :: T', x ∈ st := fun x hx => by rw [hT]; exact List.mem_append_right _ hx
  have apart : ∀ x ∈ st0, x ∉ c :: T' := fun x hx hx' => by have := s3 x hx x hx'; omega
  have cle : ∀ x ∈ c :: T', rk c ≤ rk x := fun x hx => by
    rcases List.mem_cons.1 hx with rfl | hx
    · exact Nat.le_refl _
    · exact Nat.le_of_lt (s4 x hx)
  have mlt : ∀ x ∈ c :: T', x < n := fun x hx => hj.lt x (sup x hx)
  have mneg : ∀ x ∈ c :: T', ls x < 0 := fun x hx => ((hj.ins x (mlt x hx)).1 (sup x hx)).2
  have hcs : c ∈ st := sup c (by simp)
  have hmut : ∀ x ∈ c :: T', Mut E (c : Int) (x : Int) := fun x hx => by
    refine ⟨hj.up c hcs x (sup x hx) (cle x hx), ?_⟩
    obtain ⟨g, h1, h2, h3⟩ := hj.dwn x (sup x hx)
    rcases h1 with h1 | rfl
    · exact h3.trans (hj.up g (sub g (hg0 g h1)) c hcs (Nat.le_of_lt (s3 g (hg0 g h1) c (by simp))))
    · exact h3
  have hcl : ∀ x ∈ c :: T', ∀ y, Ege E x y → 0 ≤ ls' y := fun x hx y he => by
    have hyn := (hE x y he).2
    have hd : rk y ≠ 0 ∧ (y ∈ st0 → r ≤ rk0 y) := by
      rcases List.mem_cons.1 hx with rfl | hx'
      · exact h.don y (hD y hyn he)
      · obtain ⟨h1, h2, h3⟩ := hT2' x hx'
        refine ⟨hj.met x y (mlt x hx) hyn ((hj.ins x (mlt x hx)).1 (sup x hx)).1 (fun q => ?_) he, h3 y he⟩
        rcases q with q | q
        · exact apart x (hg0 x q) hx
        · exact h2 q
    have hns : y ∉ st0 := fun hs => by
      have h1 := hd.2 hs
      have h2 := s3 y hs c (by simp)
      rw [h.rks y (h.old y hs), h.own] at h2
      omega
    by_cases hm : y ∈ c :: T'
    · rw [hl1 y hm]; omega
    · rw [hl2 y hm]
      rcases Int.lt_or_le (ls y) 0 with hl | hl
      · have := (hj.ins y hyn).2 ⟨hd.1, hl⟩
        rw [hT] at this
        rcases List.mem_append.1 this with q | q
        · exact absurd q hns
        · exact absurd q hm
      · exact hl
  have hcls : ∀ x y, x < n → y < n → 0 ≤ ls' x → Ege E x y → 0 ≤ ls' y := fun x y hx hy hl he => by
    by_cases hm : x ∈ c :: T'
    · exact hcl x hm y he
    · rw [hl2 x hm] at hl
      have h1 := hj.cls x y hx hy hl he
      rw [hl2 y (fun q => by have := mneg y q; omega)]
      exact h1
  refine ⟨⟨fun x hx => hj.lt x (sub x hx), hj.top, hj.cnt, s1, fun x hx => ⟨fun hs => ?_, fun hs => ?_⟩, fun x hx hl => ?_, fun x hx hz => ?_, hg0, fun x y hx hy hrx hg he => ?_, fun x hx y hy hl => hj.up x (sub x hx) y (sub y hy) hl, fun y hy => ?_, fun x hx hl => ?_, hcls⟩, ⟨[], by simp, fun x hx => by cases hx⟩, h.rks, fun x hx hz => ?_, by rw [h.own]; exact hr, by rw [h.own]; exact Nat.le_refl _, .inl h.own.symm⟩
  · have h1 := (hj.ins x hx).1 (sub x hs)
    rw [hl2 x (apart x hs)]
    exact h1
  · have hm : x ∉ c :: T' := fun q => by have := hl1 x q; omega
    rw [hl2 x hm] at hs
    have h1 := (hj.ins x hx).2 hs
    rw [hT] at h1
    rcases List.mem_append.1 h1 with q | q
    · exact q
    · exact absurd q hm
  · have hm : x ∉ c :: T' := fun q => by have := hl1 x q; omega
    rw [hl2 x hm] at hl ⊢
    exact hj.neg x hx hl
  · have hm : x ∉ c :: T' := fun q => ((hj.ins x hx).1 (sup x q)).1 hz
    rw [hl2 x hm]
    exact hj.zer x hx hz
  · by_cases e : x = c
    · subst e; exact (h.don y (hD y hy he)).1
    · exact hj.met x y hx hy hrx (fun q => q.elim hg e) he
  · obtain ⟨g, h1, h2, h3⟩ := hj.dwn y (sub y hy)
    rcases h1 with h1 | rfl
    · exact ⟨g, h1, h2, h3⟩
    · have := s3 y hy g (by simp); omega
  · by_cases hm : x ∈ c :: T'
    · refine ⟨f, hl1 x hm, (hmut f hf).symm.trans (hmut x hm), fun b hb hbm => ?_⟩
      have hxb : Rc E x b := hbm.2
      have hp := Rc.ind hEb (p := fun y => y < n ∧ 0 ≤ ls' y) hxb ⟨hx, hl⟩ (fun a b ha he => ⟨(hE a b he).2, hcls a b ha.1 (hE a b he).2 ha.2 he⟩)
      by_cases hbm2 : b ∈ c :: T'
      · have := hfm b hbm2; omega
      · have hb0 : 0 ≤ ls b := by have := hp.2; rw [hl2 b hbm2] at this; exact this
        have hbx : Rc E b x := hbm.1
        have hq := Rc.ind hEb (p := fun y => y < n ∧ 0 ≤ ls y) hbx ⟨hp.1, hb0⟩ (fun a b ha he => ⟨(hE a b he).2, hj.cls a b ha.1 (hE a b he).2 ha.2 he⟩)
        have := mneg x hm
        omega
    · rw [hl2 x hm] at hl ⊢
      exact hj.kn x hx hl
  · have hm : x ∉ c :: T' := fun q => by
      rcases List.mem_cons.1 q with rfl | q
      · exact hz h0
      · exact hz (hT2' x q).1
    rw [hl2 x hm]
    exact h.lss x hx hz
/-- Nothing is under way and all are met: it is done. -/
theorem Tj.done {n : Nat} {E : List Ed} {rk : Nat → Nat} {ls : Nat → Int} {st : List Nat} {m : Nat} (h : Tj n E rk ls st m (fun _ => False)) (hm : ∀ x, x < n → rk x ≠ 0) (x : Nat) (hx : x < n) : ls x = (coL n E).getD x 0 := by
  have hs : st = [] := by
    cases st with
    | nil => rfl
    | cons a s => obtain ⟨g, h1, _⟩ := h.dwn a (by simp); exact h1.elim
  have hl : 0 ≤ ls x := by
    rcases Int.lt_or_le (ls x) 0 with q | q
    · have := (h.ins x hx).2 ⟨hm x hx, q⟩
      rw [hs] at this
      cases this
    · exact q
  obtain ⟨c, h1, h2, h3⟩ := h.kn x hx hl
  obtain ⟨c', _, h5, h6, h7⟩ := coL_getD E hx
  rw [h1, h5]
  rcases Nat.lt_trichotomy c c' with q | q | q
  · exact absurd h2 (h7 c q)
  · rw [q]
  · exact absurd h6 (h3 c' q)
end Go.Proofs.Ytohilccbfdienaa

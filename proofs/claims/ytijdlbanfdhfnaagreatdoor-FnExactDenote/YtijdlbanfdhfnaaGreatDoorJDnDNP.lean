/-
  Plainly: targets in the order of their names.
  Plainly: what a layout in the making keeps.
-/
import Derived.Test.YtijdlbanfdhfnaaGreatDoorJDnSL4
namespace Go.Proofs.YtijdlbanfdhfnaaGreatDoor

theorem bl_irr : ∀ a : List UInt8, Go.Op.bytesLess a a = false
  | [] => rfl
  | a :: r => by simp [Go.Op.bytesLess, bl_irr r]
theorem bl_trans : ∀ a b c : List UInt8, Go.Op.bytesLess a b = true → Go.Op.bytesLess b c = true → Go.Op.bytesLess a c = true
  | _, _, [], _, h => by simp [Go.Op.bytesLess] at h
  | [], _, _ :: _, _, _ => rfl
  | _ :: _, [], _ :: _, h, _ => by simp [Go.Op.bytesLess] at h
  | a :: x, b :: y, c :: z, h1, h2 => by
    simp only [Go.Op.bytesLess, Bool.or_eq_true, Bool.and_eq_true, decide_eq_true_eq, beq_iff_eq] at h1 h2 ⊢
    rcases h1 with h1 | ⟨rfl, h1⟩ <;> rcases h2 with h2 | ⟨rfl, h2⟩
    · exact .inl (UInt8.lt_trans h1 h2)
    · exact .inl h1
    · exact .inl h2
    · exact .inr ⟨rfl, bl_trans x y z h1 h2⟩
theorem bl_tri : ∀ a b : List UInt8, Go.Op.bytesLess a b = true ∨ a = b ∨ Go.Op.bytesLess b a = true
  | [], [] => .inr (.inl rfl)
  | [], _ :: _ => .inl rfl
  | _ :: _, [] => .inr (.inr rfl)
  | a :: x, b :: y => by
    simp only [Go.Op.bytesLess, Bool.or_eq_true, Bool.and_eq_true, decide_eq_true_eq, beq_iff_eq]
    have tri : a < b ∨ a = b ∨ b < a := by
      rcases Nat.lt_trichotomy a.toNat b.toNat with h | h | h
      · exact .inl (UInt8.lt_iff_toNat_lt.2 h)
      · exact .inr (.inl (UInt8.toNat_inj.1 h))
      · exact .inr (.inr (UInt8.lt_iff_toNat_lt.2 h))
    rcases tri with h | rfl | h
    · exact .inl (.inl h)
    · rcases bl_tri x y with h | rfl | h
      · exact .inl (.inr ⟨rfl, h⟩)
      · exact .inr (.inl rfl)
      · exact .inr (.inr (.inr ⟨rfl, h⟩))
    · exact .inr (.inr (.inl h))
/-- One name is ahead of another. -/
def tlt (a b : Tg) : Prop := Go.Op.bytesLess a.name.toList b.name.toList = true
theorem insT_perm (t : Tg) : ∀ A : List Tg, (insT t A).Perm (t :: A)
  | [] => .refl _
  | x :: r => by
    unfold insT
    split
    · exact ((insT_perm t r).cons x).trans (.swap t x r)
    · exact .refl _
theorem srtT_perm : ∀ (L A : List Tg), (srtT A L).Perm (A ++ L)
  | [], A => by unfold srtT; rw [List.append_nil]
  | t :: r, A => by
    unfold srtT
    refine (srtT_perm r _).trans (((insT_perm t A).append_right r).trans ?_)
    exact (List.perm_middle (a := t) (l₁ := A) (l₂ := r)).symm
theorem insT_asc {t : Tg} : ∀ {A : List Tg}, A.Pairwise tlt → (∀ x ∈ A, x.name.toList ≠ t.name.toList) → (insT t A).Pairwise tlt
  | [], _, _ => by unfold insT; exact List.pairwise_singleton _ _
  | x :: r, h, hn => by
    rw [List.pairwise_cons] at h
    unfold insT
    by_cases q : Go.Op.bytesLess x.name.toList t.name.toList = true
    · rw [if_pos q, List.pairwise_cons]
      refine ⟨fun y hy => ?_, insT_asc h.2 fun y hy => hn y (List.mem_cons_of_mem _ hy)⟩
      rcases List.mem_cons.1 ((insT_perm t r).mem_iff.1 hy) with rfl | hy
      · exact q
      · exact h.1 y hy
    · rw [if_neg q, List.pairwise_cons, List.pairwise_cons]
      have hx : tlt t x := by
        rcases bl_tri x.name.toList t.name.toList with g | g | g
        · exact absurd g q
        · exact absurd g (hn x (List.mem_cons_self ..))
        · exact g
      refine ⟨fun y hy => ?_, h.1, h.2⟩
      rcases List.mem_cons.1 hy with rfl | hy
      · exact hx
      · exact bl_trans _ _ _ hx (h.1 y hy)
theorem srtT_asc : ∀ {L A : List Tg}, A.Pairwise tlt → (A ++ L).Pairwise (fun a b => a.name.toList ≠ b.name.toList) → (srtT A L).Pairwise tlt
  | [], A, h, _ => by unfold srtT; exact h
  | t :: r, A, h, hn => by
    unfold srtT
    have hn2 := List.pairwise_append.1 hn
    refine srtT_asc (insT_asc h fun x hx => hn2.2.2 x hx t (List.mem_cons_self ..)) ?_
    have hp : (insT t A ++ r).Perm (A ++ t :: r) := ((insT_perm t A).append_right r).trans (List.perm_middle (a := t) (l₁ := A) (l₂ := r)).symm
    exact (hp.pairwise_iff (fun {a b} h => fun e => h e.symm)).2 hn
/-- There is but one such order. -/
theorem srt_one {L S : List Tg} (hn : L.Pairwise (fun a b => a.name.toList ≠ b.name.toList)) (hp : S.Perm L) (hs : S.Pairwise (fun a b => Go.Op.bytesLess b.name.toList a.name.toList = false)) : S = srtT [] L := by
  have h1 : (srtT [] L).Pairwise tlt := srtT_asc List.Pairwise.nil hn
  have h2 : (srtT [] L).Perm L := srtT_perm L []
  have hnS : S.Pairwise (fun a b => a.name.toList ≠ b.name.toList) := (hp.pairwise_iff (fun {a b} h => fun e => h e.symm)).2 hn
  have h3 : S.Pairwise tlt := (hs.and hnS).imp fun {a b} ⟨g1, g2⟩ => by
    rcases bl_tri a.name.toList b.name.toList with g | g | g
    · exact g
    · exact absurd g g2
    · rw [g1] at g; cases g
  refine (hp.trans h2.symm).eq_of_pairwise (le := tlt) (fun a b _ _ ha hb => ?_) h3 h1
  have := bl_trans _ _ _ ha hb
  rw [bl_irr] at this
  cases this
end Go.Proofs.YtijdlbanfdhfnaaGreatDoor

namespace Go.Proofs.YtijdlbanfdhfnaaGreatDoor

theorem tl_inj {a b : ByteArray} (h : a.toList = b.toList) : a = b := by
  rw [ByteArray.toList_eq, ByteArray.toList_eq] at h
  obtain ⟨⟨l⟩⟩ := a
  obtain ⟨⟨m⟩⟩ := b
  have : l = m := h
  rw [this]
/-- What is always so of a floor. -/
structure FloOk (f : Flo) : Prop where
  w0 : 1 ≤ f.w
  w1 : f.w ≤ 40
  h0 : 1 ≤ f.h
  h1 : f.h ≤ 40
  cs : ∀ c, 1 ≤ f.cost c ∧ f.cost c ≤ 9
  tl : f.tgs.length ≤ 30
  tc : ∀ t ∈ f.tgs, 0 ≤ t.cell ∧ t.cell < ((f.w * f.h : Nat) : Int)
  tn : f.tgs.Pairwise (fun a b => a.name.toList ≠ b.name.toList)
  ts : ∀ t ∈ f.tgs, t.name.size ≤ 60
  fl : f.frs.length = f.tgs.length
theorem FloOk.first {w h : Nat} (w0 : 1 ≤ w) (w1 : w ≤ 40) (h0 : 1 ≤ h) (h1 : h ≤ 40) : FloOk (flo0 w h) :=
  ⟨w0, w1, h0, h1, fun _ => ⟨by show (1 : Int) ≤ 1; omega, by show (1 : Int) ≤ 9; omega⟩, by show 0 ≤ 30; omega, fun t h => (by cases h), List.Pairwise.nil, fun t h => (by cases h), rfl⟩
theorem lay1_cost {d : Dc} {f : Flo} (hc : d.kind = 13 → 1 ≤ d.cost ∧ d.cost ≤ 9) (h : ∀ c, 1 ≤ f.cost c ∧ f.cost c ≤ 9) (c : Nat) : ∀ x, 1 ≤ (lay1 d f c).cost x ∧ (lay1 d f c).cost x ≤ 9 := fun x => by
  unfold lay1
  split
  · exact h x
  split
  · exact h x
  split
  · rename_i q
    show 1 ≤ (if x = c then d.cost else f.cost x) ∧ (if x = c then d.cost else f.cost x) ≤ 9
    split
    · exact hc q
    · exact h x
  · exact h x
theorem layN_keeps {d : Dc} (hc : d.kind = 13 → 1 ≤ d.cost ∧ d.cost ≤ 9) : ∀ (L : List Int) {f : Flo}, FloOk f → FloOk (layN d f L) ∧ (layN d f L).w = f.w ∧ (layN d f L).h = f.h ∧ (layN d f L).tgs = f.tgs ∧ (layN d f L).frs = f.frs
  | [], _, h => ⟨h, rfl, rfl, rfl, rfl⟩
  | c :: r, f, h => by
    obtain ⟨s1, s2, s3, s4⟩ := lay1_same d f c.toNat
    have h1 : FloOk (lay1 d f c.toNat) := ⟨by rw [s1]; exact h.w0, by rw [s1]; exact h.w1, by rw [s2]; exact h.h0, by rw [s2]; exact h.h1, lay1_cost hc h.cs _, by rw [s3]; exact h.tl, by rw [s1, s2, s3]; exact h.tc, by rw [s3]; exact h.tn, by rw [s3]; exact h.ts, by rw [s3, s4]; exact h.fl⟩
    obtain ⟨k1, k2, k3, k4, k5⟩ := layN_keeps hc r h1
    exact ⟨k1, k2.trans s1, k3.trans s2, k4.trans s3, k5.trans s4⟩
/-- What a code of none says. -/
theorem apC_zero {f : Flo} {d : Dc} (h : apC f d = 0) : d.kind ≠ 7 ∧ inF f.w f.h d ∧ (d.kind = 13 → 1 ≤ d.cost ∧ d.cost ≤ 9) ∧ (nmK d.kind = true → 0 < d.name.size ∧ ¬ tkn2 f.tgs (tgOf f d) ∧ f.tgs.length < 30) := by
  unfold apC at h
  by_cases q1 : d.kind = 7
  · rw [if_pos q1] at h; omega
  rw [if_neg q1] at h
  by_cases q2 : ¬ inF f.w f.h d ∨ (d.kind = 13 ∧ (d.cost < 1 ∨ 9 < d.cost))
  · rw [if_pos q2] at h; omega
  rw [if_neg q2] at h
  have i1 : inF f.w f.h d := Classical.byContradiction fun g => q2 (.inl g)
  refine ⟨q1, i1, fun hk => ⟨?_, ?_⟩, fun hk => ?_⟩
  · exact Classical.byContradiction fun g => q2 (.inr ⟨hk, .inl (by omega)⟩)
  · exact Classical.byContradiction fun g => q2 (.inr ⟨hk, .inr (by omega)⟩)
  · rw [if_pos hk] at h
    by_cases q3 : d.name.size = 0 ∨ tkn2 f.tgs (tgOf f d)
    · rw [if_pos q3] at h; omega
    rw [if_neg q3] at h
    by_cases q4 : 30 ≤ f.tgs.length
    · rw [if_pos q4] at h; omega
    exact ⟨by have : d.name.size ≠ 0 := fun g => q3 (.inl g); omega, fun g => q3 (.inr g), by omega⟩
theorem tgOf_in {f : Flo} {d : Dc} (hi : inF f.w f.h d) : 0 ≤ (tgOf f d).cell ∧ (tgOf f d).cell < ((f.w * f.h : Nat) : Int) := by
  have h1 := arL_head (w := f.w) (d := d)
  have h2 := arL_pos (w := f.w) (d := d)
  show 0 ≤ loI d.y1 d.y2 * f.w + loI d.x1 d.x2 ∧ loI d.y1 d.y2 * f.w + loI d.x1 d.x2 < _
  rw [← h1]
  refine arL_in hi _ ?_
  rw [List.getD_eq_getElem?_getD, List.getElem?_eq_getElem h2]
  exact List.getElem_mem h2
theorem apF_ok {f : Flo} {d : Dc} {i : Nat} (h : FloOk f) (hd : DcOk d) (hc : apC f d = 0) : FloOk (apF f d i) ∧ (apF f d i).w = f.w ∧ (apF f d i).h = f.h := by
  obtain ⟨_, c2, c3, c4⟩ := apC_zero hc
  unfold apF
  by_cases q : nmK d.kind = true
  · rw [if_pos q]
    obtain ⟨n1, n2, n3⟩ := c4 q
    have nn : ∀ x ∈ f.tgs, x.name.toList ≠ (tgOf f d).name.toList := fun x hx e => n2 ⟨x, hx, .inl (tl_inj e)⟩
    refine ⟨⟨h.w0, h.w1, h.h0, h.h1, h.cs, ?_, fun t ht => ?_, ?_, fun t ht => ?_, ?_⟩, rfl, rfl⟩
    · show (f.tgs ++ [tgOf f d]).length ≤ 30
      rw [List.length_append]; simp; omega
    · rcases List.mem_append.1 (show t ∈ f.tgs ++ [tgOf f d] from ht) with g | g
      · exact h.tc t g
      · rw [List.mem_singleton.1 g]; exact tgOf_in c2
    · show (f.tgs ++ [tgOf f d]).Pairwise _
      exact List.pairwise_append.2 ⟨h.tn, List.pairwise_singleton _ _, fun a ha b hb => by rw [List.mem_singleton.1 hb]; exact nn a ha⟩
    · rcases List.mem_append.1 (show t ∈ f.tgs ++ [tgOf f d] from ht) with g | g
      · exact h.ts t g
      · rw [List.mem_singleton.1 g]; exact hd.n0 q
    · show (f.frs ++ [i]).length = (f.tgs ++ [tgOf f d]).length
      rw [List.length_append, List.length_append, h.fl]; rfl
  · rw [if_neg q]
    obtain ⟨k1, k2, k3, _⟩ := layN_keeps (d := d) c3 (arL f.w d) h
    exact ⟨k1, k2, k3⟩
/-- The targets among declarations, and whence they came. -/
def tgI (w : Nat) (i : Nat) : List Dc → List (Tg × Nat)
  | [] => []
  | d :: r => if nmK d.kind = true then (⟨d.name, if d.kind = 15 then 1 else 0, loI d.y1 d.y2 * w + loI d.x1 d.x2⟩, i) :: tgI w (i + 1) r else tgI w (i + 1) r
theorem apF_tgs {f : Flo} {d : Dc} {i : Nat} (h : FloOk f) (hc : apC f d = 0) (r : List Dc) : (apF f d i).tgs ++ (tgI f.w (i + 1) r).map Prod.fst = f.tgs ++ (tgI f.w i (d :: r)).map Prod.fst ∧ (apF f d i).frs ++ (tgI f.w (i + 1) r).map Prod.snd = f.frs ++ (tgI f.w i (d :: r)).map Prod.snd := by
  obtain ⟨_, c2, c3, c4⟩ := apC_zero hc
  unfold apF
  by_cases q : nmK d.kind = true
  · rw [if_pos q]
    show (f.tgs ++ [tgOf f d]) ++ _ = _ ∧ (f.frs ++ [i]) ++ _ = _
    rw [tgI, if_pos q]
    simp [tgOf]
  · rw [if_neg q]
    obtain ⟨_, _, _, k4, k5⟩ := layN_keeps (d := d) c3 (arL f.w d) h
    rw [k4, k5, tgI, if_neg q]
    exact ⟨rfl, rfl⟩
theorem dnR_ok : ∀ {L : List Dc} {f : Flo} {i : Nat}, FloOk f → (∀ d ∈ L, DcOk d) → (dnR f i L).2.1 = 0 → FloOk (dnR f i L).1 ∧ (dnR f i L).1.w = f.w ∧ (dnR f i L).1.h = f.h ∧ (dnR f i L).1.tgs = f.tgs ++ (tgI f.w i L).map Prod.fst ∧ (dnR f i L).1.frs = f.frs ++ (tgI f.w i L).map Prod.snd
  | [], f, i, h, _, _ => ⟨h, rfl, rfl, by simp [dnR, tgI], by simp [dnR, tgI]⟩
  | d :: r, f, i, h, hd, hc => by
    unfold dnR at hc ⊢
    by_cases q : apC f d = 0
    · rw [if_pos q] at hc ⊢
      obtain ⟨k1, k2, k3⟩ := apF_ok (i := i) h (hd d (List.mem_cons_self ..)) q
      obtain ⟨m1, m2, m3, m4, m5⟩ := dnR_ok k1 (fun x hx => hd x (List.mem_cons_of_mem _ hx)) hc
      obtain ⟨t1, t2⟩ := apF_tgs (i := i) h q r
      refine ⟨m1, m2.trans k2, m3.trans k3, ?_, ?_⟩
      · rw [m4, k2, t1]
      · rw [m5, k2, t2]
    · rw [if_neg q] at hc
      exact absurd hc q
/-- The first declaration whose target lies on a wall. -/
def wlD (f : Flo) (i : Nat) : List Dc → Int
  | [] => -1
  | d :: r => if nmK d.kind = true ∧ f.wall (loI d.y1 d.y2 * f.w + loI d.x1 d.x2).toNat = true then (i : Int) else wlD f (i + 1) r
theorem wlT_wlD (f : Flo) : ∀ (L : List Dc) (i : Nat), wlT f ((tgI f.w i L).map Prod.fst) ((tgI f.w i L).map Prod.snd) = wlD f i L
  | [], _ => rfl
  | d :: r, i => by
    unfold tgI wlD
    by_cases q : nmK d.kind = true
    · rw [if_pos q]
      show (if f.wall (loI d.y1 d.y2 * f.w + loI d.x1 d.x2).toNat = true then (i : Int) else wlT f _ _) = _
      rw [wlT_wlD f r (i + 1)]
      by_cases g : f.wall (loI d.y1 d.y2 * f.w + loI d.x1 d.x2).toNat = true
      · rw [if_pos g, if_pos ⟨q, g⟩]
      · rw [if_neg g, if_neg (fun h => g h.2)]
    · rw [if_neg q, if_neg (fun h => q h.1), wlT_wlD f r (i + 1)]
end Go.Proofs.YtijdlbanfdhfnaaGreatDoor

/-
  Names bound to numbers in a map; a scope in memory.
-/
import Derived.Test.YtdlahabeegmjiaaDoorJCkCKY
import Derived.Maps.OwnOps
import Derived.Maps.OwnSet
import Derived.Maps.Views
import Derived.WideShapes
namespace Go.Proofs.YtdlahabeegmjiaaDoor
open Go.RowKit

theorem bytes_lit {a b : ByteArray} (h : (Lit.string a.data.toList) = Lit.string b.data.toList) : a = b := by
  injection h with h
  have : a.data = b.data := Array.toList_inj.1 h
  exact ByteArray.ext this
/-- A map from names to numbers. -/
def MapS (W : World) (b n : Nat) (f : ByteArray → Nat) : Prop :=
  ∃ D : DataW Unit, W.ownsMap Tryd.prog 9 (plainElem Tryd.prog 3) b n D ∧ ∀ nm : ByteArray, nm.size ≤ 1000 → D.atKey (.string nm.data.toList) (.lit (.int .i64 0)) = .lit (.int .i64 (f nm : Nat))
theorem MapS.lt {W : World} {b n : Nat} {f : ByteArray → Nat} (h : MapS W b n f) : b < W.heap.size := by obtain ⟨_, h1, _⟩ := h; exact h1.lt
theorem MapS.keep {W W' : World} {b n : Nat} {f : ByteArray → Nat} (h : MapS W b n f) (hk : W'.heap[b]? = W.heap[b]?) : MapS W' b n f := by
  obtain ⟨D, ⟨es, clock, hb, F, hs, e⟩, h2⟩ := h
  exact ⟨D, ⟨es, clock, hk.trans hb, F, hs, e⟩, h2⟩
theorem MapS.gw {P : Nat → Prop} {W W' : World} {b n : Nat} {f : ByteArray → Nat} (h : MapS W b n f) (hg : Gw P W W') (hp : ¬ P b) : MapS W' b n f := h.keep (hg.block b h.lt hp)
theorem MapS.below {W W' : World} {b n : Nat} {f : ByteArray → Nat} (h : MapS W b n f) (hb : Below W.heap.size W W') : MapS W' b n f := h.gw (P := fun _ => False) (Gw.of_below hb) (fun q => q)
theorem MapS.ext {W : World} {b n : Nat} {f g : ByteArray → Nat} (h : MapS W b n f) (he : ∀ nm, f nm = g nm) : MapS W b n g := by
  obtain ⟨D, h1, h2⟩ := h
  exact ⟨D, h1, fun nm hnm => by rw [h2 nm hnm, he]⟩
theorem MapS.made (w : World) : MapS (w.alloc (.map #[] 0)) w.heap.size 0 (fun _ => 0) :=
  ⟨.map [], World.ownsMap_made w Tryd.prog 9 (plainElem Tryd.prog 3), fun _ _ => rfl⟩
theorem MapS.look {W : World} {b n : Nat} {f : ByteArray → Nat} (h : MapS W b n f) {nm : ByteArray} (hn : nm.size ≤ 1000) : (Instr.lookup 46 (.map (some b)) (.string nm) false).run Tryd.prog W = .ok (.int .i64 (f nm : Nat)) W := by
  obtain ⟨D, h1, h2⟩ := h
  obtain ⟨v, hrun, hat, _⟩ := h1.lookup_int (Maps.string_keyed Tryd.underlying9) Tryd.underlying46 Tryd.underlying3 (Tryd.zeroValue3 _) (WideMaps.keyOf_string_mk Tryd.underlying9 (s := nm) (by unfold maxLen; omega))
  rw [h2 nm hn] at hat
  simp at hat
  rw [hrun, hat]
theorem MapS.put {W : World} {b n : Nat} {f : ByteArray → Nat} (h : MapS W b n f) {nm : ByteArray} (hn : nm.size ≤ 1000) {v : Nat} (hv : v ≤ 1000000) (hl : n ≤ 1000000) :
    ∃ W', (Instr.mapUpdate 46 (.map (some b)) (.string nm) (.int .i64 (v : Nat))).run Tryd.prog W = .ok () W' ∧ MapS W' b (n + 1) (fun x => if x = nm then v else f x) ∧ Gw (· = b) W W' ∧ W'.heap.size = W.heap.size := by
  obtain ⟨D, h1, h2⟩ := h
  have hwf : (Lit.int .i64 (v : Nat)).wf = true := by
    simp [Lit.wf, IntKind.min, IntKind.max, IntKind.signed, IntKind.bits]
    omega
  obtain ⟨W', hrun, ho, ht⟩ := h1.store (Maps.string_keyed Tryd.underlying9) Tryd.underlying46 (by unfold maxLen; omega) (WideMaps.keyOf_string_mk Tryd.underlying9 (s := nm) (by unfold maxLen; omega)) (plainElem_int Tryd.underlying3 hwf)
  have hz : W'.heap.size = W.heap.size := by obtain ⟨_, _, _, _, _, rfl⟩ := ht; simp [Go.ChangeMaps.setBlock]
  have hgw : Gw (· = b) W W' := Gw.of_grown ht.grown (fun k hk _ => (Option.some.inj hk).symm)
  refine ⟨W', hrun, ⟨_, ho, fun x hx => ?_⟩, hgw, hz⟩
  · by_cases e : x = nm
    · subst e
      rw [Maps.atKey_put_same h1.isMap (by simp [WideAt.IsKeyLit])]
      simp only [if_true]
    · rw [Maps.atKey_put_other (fun he => e (bytes_lit he)), h2 x hx]
      simp only [if_neg e]
/-- The number of the last binding of a name, counted from 1, or 0. -/
def ltG : List (ByteArray × Int) → ByteArray → Nat → Nat → Nat
  | [], _, _, r => r
  | v :: t, nm, k, r => ltG t nm (k + 1) (if v.1 = nm then k + 1 else r)
def ltN (vs : List (ByteArray × Int)) (nm : ByteArray) : Nat := ltG vs nm 0 0
theorem ltG_snoc (nm : ByteArray) (v : ByteArray × Int) : ∀ vs k r, ltG (vs ++ [v]) nm k r = if v.1 = nm then k + vs.length + 1 else ltG vs nm k r
  | [], k, r => rfl
  | x :: vs, k, r => by
    rw [List.cons_append, ltG, ltG_snoc nm v vs, ltG, List.length_cons]
    split
    · omega
    · rfl
theorem ltN_snoc (vs : List (ByteArray × Int)) (v : ByteArray × Int) (nm : ByteArray) : ltN (vs ++ [v]) nm = if v.1 = nm then vs.length + 1 else ltN vs nm := by
  unfold ltN
  rw [ltG_snoc, Nat.zero_add]
theorem vrT_snoc (nm : ByteArray) (v : ByteArray × Int) : ∀ l : List (ByteArray × Int), vrT (l ++ [v]) nm = if v.1 = nm then some v.2 else vrT l nm
  | [] => by simp [vrT]
  | a :: l => by
    rw [List.cons_append, vrT, vrT_snoc nm v l]
    by_cases c : v.1 = nm
    · rw [if_pos c, if_pos c]
    · rw [if_neg c, if_neg c, vrT]
theorem snoc_ind {α : Type} {motive : List α → Prop} (nil : motive []) (snoc : ∀ l a, motive l → motive (l ++ [a])) (l : List α) : motive l := by
  have h : ∀ l : List α, motive l.reverse := by
    intro l
    induction l with
    | nil => exact nil
    | cons a l ih => rw [List.reverse_cons]; exact snoc _ _ ih
  have h := h l.reverse
  rw [List.reverse_reverse] at h
  exact h
/-- What the number says. -/
theorem ltN_vrT (nm : ByteArray) (vs : List (ByteArray × Int)) : ltN vs nm ≤ vs.length ∧ (ltN vs nm = 0 → vrT vs nm = none) ∧ ∀ j, ltN vs nm = j + 1 → ∃ v, vs[j]? = some v ∧ v.1 = nm ∧ vrT vs nm = some v.2 := by
  induction vs using snoc_ind with
  | nil => exact ⟨Nat.le_refl _, fun _ => rfl, fun j h => (by cases h)⟩
  | snoc vs v ih =>
    rw [ltN_snoc, vrT_snoc, List.length_append]
    by_cases c : v.1 = nm
    · rw [if_pos c, if_pos c]
      refine ⟨by show vs.length + 1 ≤ vs.length + 1; omega, fun h => (by omega), fun j h => ⟨v, ?_, c, rfl⟩⟩
      have : j = vs.length := by omega
      rw [this, List.getElem?_append_right (Nat.le_refl _), Nat.sub_self]; rfl
    · rw [if_neg c, if_neg c]
      refine ⟨by have := ih.1; omega, ih.2.1, fun j h => ?_⟩
      obtain ⟨x, h1, h2⟩ := ih.2.2 j h
      have hj : j < vs.length := by have := ih.1; omega
      exact ⟨x, by rw [List.getElem?_append_left hj]; exact h1, h2⟩
/-- The cells of bindings, behind others. -/
def bcs (p : List (ByteArray × Int)) : List (ByteArray × Int) → List Value
  | [] => []
  | v :: r => [.string v.1, .int .i64 v.2, .int .i64 (ltN p v.1 : Nat)] ++ bcs (p ++ [v]) r
theorem bcs_snoc (v : ByteArray × Int) : ∀ (vs p : List (ByteArray × Int)), bcs p (vs ++ [v]) = bcs p vs ++ [.string v.1, .int .i64 v.2, .int .i64 (ltN (p ++ vs) v.1 : Nat)]
  | [], p => by simp [bcs]
  | x :: vs, p => by
    rw [List.cons_append, bcs, bcs, bcs_snoc v vs (p ++ [x]), List.append_assoc p [x] vs]
    rfl
theorem bcs_len : ∀ (vs p : List (ByteArray × Int)), (bcs p vs).length = vs.length * 3
  | [], p => rfl
  | x :: vs, p => by rw [bcs, List.length_append, bcs_len vs]; show 3 + vs.length * 3 = (vs.length + 1) * 3; omega
theorem bcs_at : ∀ (vs p : List (ByteArray × Int)) (j : Nat) (v : ByteArray × Int), vs[j]? = some v → ∀ i, i < 3 → (bcs p vs)[j * 3 + i]? = ([.string v.1, .int .i64 v.2, .int .i64 (ltN (p ++ vs.take j) v.1 : Nat)] : List Value)[i]?
  | [], p, j, v, h, i, hi => by simp at h
  | x :: vs, p, 0, v, h, i, hi => by
    obtain rfl : x = v := by simpa using h
    rw [bcs, Nat.zero_mul, Nat.zero_add, List.getElem?_append_left (by show i < 3; exact hi), List.take_zero, List.append_nil]
  | x :: vs, p, j + 1, v, h, i, hi => by
    rw [bcs, List.getElem?_append_right (by show 3 ≤ _; omega)]
    show (bcs (p ++ [x]) vs)[(j + 1) * 3 + i - 3]? = _
    rw [show (j + 1) * 3 + i - 3 = j * 3 + i by omega, bcs_at vs (p ++ [x]) j v (by simpa using h) i hi, List.take_succ_cons, List.append_assoc]
    rfl
/-- A scope. -/
structure ScA (W : World) (S M : Nat) (bv : Value) (vs : List (ByteArray × Int)) (n : Nat) : Prop where
  blk : Blk W S 78 #[bv, .map (some M)]
  row : W.ownsRow (S + 1) 99 3 bv vs.length (bcs [] vs)
  map : MapS W M n (ltN vs)
  ms : M < S
  le : vs.length ≤ n
/-- What changes while names are bound. -/
def ScX (S M : Nat) (bv : Value) (k : Nat) : Prop := k = S ∨ k = M ∨ bv.ownBlock = some k
theorem ScA.gw {P : Nat → Prop} {W W' : World} {S M n : Nat} {bv : Value} {vs : List (ByteArray × Int)} (h : ScA W S M bv vs n) (hg : Gw P W W') (hp : ∀ k, ScX S M bv k → ¬ P k) : ScA W' S M bv vs n :=
  ⟨hg.blk h.blk (hp _ (.inl rfl)), hg.own h.row (fun _ hk => hp _ (.inr (.inr hk))), h.map.gw hg (hp _ (.inr (.inl rfl))), h.ms, h.le⟩
theorem ScA.below {W W' : World} {S M n : Nat} {bv : Value} {vs : List (ByteArray × Int)} (h : ScA W S M bv vs n) (hb : Below W.heap.size W W') : ScA W' S M bv vs n := h.gw (P := fun _ => False) (Gw.of_below hb) (fun _ _ q => q)
theorem ScX.trans {S M : Nat} {bv bv' : Value} {V V' V'' : World} (h : Gw (ScX S M bv) V V') (m : CkM V bv bv') (k : Gw (ScX S M bv') V' V'') : Gw (ScX S M bv) V V'' :=
  h.trans k (fun j hj q => by
    rcases q with q | q | q
    · exact .inl q
    · exact .inr (.inl q)
    · rcases m with m | ⟨b, m, hb⟩
      · exact .inr (.inr (by rw [← m]; exact q))
      · rw [m] at q; injection q with q; omega)
/-- What a function that binds leaves. -/
def ScQ (S M : Nat) (bv : Value) (V : World) (vs : List (ByteArray × Int)) (n : Nat) (V' : World) : Prop := ∃ bv', ScA V' S M bv' vs n ∧ Gw (ScX S M bv) V V' ∧ CkM V bv bv'
end Go.Proofs.YtdlahabeegmjiaaDoor

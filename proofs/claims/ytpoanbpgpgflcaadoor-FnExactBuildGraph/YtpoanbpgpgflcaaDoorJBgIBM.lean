/-
  Marks that ranges over functions leave, and how a function that has some is left.
  What a round of impl.BuildGraph keeps.
-/
import Derived.Test.YtpoanbpgpgflcaaDoorJBgB0
import Derived.Test.YtpoanbpgpgflcaaDoorJBgIVA
import Derived.RangeFuncNested
import Derived.RangeFuncBound
import Derived.RangeFuncCalls
import Derived.RangeFuncLeaves
import Derived.RangeFuncBox
import Derived.RangeFuncWrites
import Derived.Test.YtpoanbpgpgflcaaDoorJBgBGD
import Derived.Test.YtpoanbpgpgflcaaDoorJBgILW
import Derived.Test.YtpoanbpgpgflcaaDoorJBgIAS
import Derived.Maps.OwnIn
namespace Go.Proofs.YtpoanbpgpgflcaaDoor
open Go.RowKit

/-- These blocks are marks that hold nothing. -/
structure Mks (W : World) (ds : List Nat) : Prop where
  nd : ds.Nodup
  at' : ∀ D ∈ ds, W.heap[D]? = some (.deferred (some []))
def mks (ds : List Nat) : List Deferred := ds.map fun D => { target := .collected D, args := #[] }
theorem Mks.nil (W : World) : Mks W [] := ⟨List.nodup_nil, fun D h => by cases h⟩
theorem Mks.lt {W : World} {ds : List Nat} (h : Mks W ds) : ∀ D ∈ ds, D < W.heap.size := fun D hD => (Array.getElem?_eq_some_iff.1 (h.at' D hD)).1
theorem Mks.keep {W W' : World} {ds : List Nat} (h : Mks W ds) (hk : ∀ D ∈ ds, W'.heap[D]? = W.heap[D]?) : Mks W' ds := ⟨h.nd, fun D hD => (hk D hD).trans (h.at' D hD)⟩
theorem Mks.below {W W' : World} {ds : List Nat} (h : Mks W ds) (hb : Below W.heap.size W W') : Mks W' ds := h.keep fun D hD => hb.block D (h.lt D hD)
theorem Mks.cons {W : World} {ds : List Nat} {D : Nat} (h : Mks W ds) (hD : W.heap[D]? = some (.deferred (some []))) (hn : D ∉ ds) : Mks W (D :: ds) :=
  ⟨List.nodup_cons.2 ⟨hn, h.nd⟩, fun E hE => by
    rcases List.mem_cons.1 hE with rfl | hE
    · exact hD
    · exact h.at' E hE⟩
theorem Mks.ne {W : World} {ds : List Nat} {b t : Nat} {cs : Array Value} (h : Mks W ds) (hb : Blk W b t cs) : ∀ D ∈ ds, D ≠ b := fun D hD e => by
  subst e
  have h1 := h.at' D hD
  unfold Blk at hb
  rw [hb] at h1
  cases h1
theorem Mks.set {W : World} {ds : List Nat} {b t k : Nat} {cs : Array Value} {v : Value} (h : Mks W ds) (hb : Blk W b t cs) : Mks (W.setCell ⟨b, k, none⟩ v) ds :=
  h.keep fun D hD => Below.heap_setCell _ _ _ _ (h.ne hb D hD)
theorem Mks.grown {W W' : World} {ds : List Nat} {B e sz n : Nat} {v : Value} {xs : List Value} (h : Mks W ds) (ho : W.ownsRow B e sz v n xs) (hg : W.grownBy W' v.ownBlock) : Mks W' ds :=
  h.keep fun D hD => hg.block D (h.lt D hD) fun q => by
    rcases ho.2 with ⟨h1, _⟩ | ⟨g, cap, cur, h1, _, hgg, _⟩
    · rw [h1] at q; cases q
    · rw [h1] at q
      injection q with q
      exact h.ne (show Blk W g e cur from hgg) D hD q
theorem mks_own {β : Type} {B : Nat} {ds : List Nat} (hB : ∀ D ∈ ds, D < B) : OwnFrom B (fun (_ : β) W => Mks W ds) :=
  fun _ W W' row hs hg hr => hs.keep fun D hD => hg.block D (hs.lt D hD) fun q => by
    have h1 := (hr D q.symm).1
    have h2 := hB D hD
    omega
/-- A function with such marks is left as one with none: what holds of cells holds. -/
theorem leaves_marks {F : Fence} {n : Nat} {P : Program} {fn : Func} {tmps : Array Value} {R : Ending → World → Prop} {B : Nat} : ∀ (ds : List Nat) (W : World), Mks W ds → (∀ D ∈ ds, B ≤ D) → (∀ W', Below B W W' → W'.heap.size = W.heap.size → (∀ k, k ∉ ds → W'.heap[k]? = W.heap[k]?) → LeavesIn F n P fn tmps R [] .returning W') → LeavesInM F n P fn tmps R (mks ds) .returning W
  | [], W, _, _, h => h W (Below.refl _ _) rfl (fun _ _ => rfl)
  | D :: ds, W, hm, hB, h => by
    have hD := hm.at' D (List.mem_cons_self ..)
    refine ⟨by simp, .inl ⟨D, W.putObj D (.deferred none), rfl, run_takeDeferred hD, ?_⟩⟩
    have hn : D ∉ ds := (List.nodup_cons.1 hm.nd).1
    have hb : Below B W (W.putObj D (.deferred none)) := (Below.refl B W).grown (grownBy_putObj' W D _) (by have := (Array.getElem?_eq_some_iff.1 hD).1; have := hB D (List.mem_cons_self ..); omega) (fun k e => by cases e; exact hB D (List.mem_cons_self ..))
    refine leaves_marks ds _ ⟨(List.nodup_cons.1 hm.nd).2, fun E hE => ?_⟩ (fun E hE => hB E (List.mem_cons_of_mem _ hE)) (fun W' h1 h2 h3 => ?_)
    · exact (World.putObj_heap_other (fun e => hn (by rw [← e]; exact hE))).trans (hm.at' E (List.mem_cons_of_mem _ hE))
    · refine h W' (hb.trans h1) (by rw [h2]; simp) (fun k hk => (h3 k (fun e => hk (List.mem_cons_of_mem _ e))).trans (World.putObj_heap_other (fun e => hk ?_)))
      rw [e]
      exact List.mem_cons_self ..
end Go.Proofs.YtpoanbpgpgflcaaDoor

namespace Go.Proofs.YtpoanbpgpgflcaaDoor
open Go.RowKit Go.Shelf

theorem EiOw.blk {W : World} {B : Nat} {v : Value} {L : List Ed} (h : EiOw W B v L) {g : Nat} (hv : v.ownBlock = some g) : ∃ cur, Blk W g 59 cur := by
  rcases h.2 with ⟨h1, _⟩ | ⟨g', c, cur, h1, _, hg, _⟩
  · rw [h1] at hv; cases hv
  · rw [h1] at hv; cases hv; exact ⟨cur, hg⟩
theorem blk_ty2 {w : World} {b : Nat} {t t' : TypeId} {cs cs' : Array Value} (h : Blk w b t cs) (h' : Blk w b t' cs') : t = t' := by
  unfold Blk at h h'
  rw [h] at h'
  injection h' with h1
  injection h1
/-- What a round of the outer loop finds. -/
def BgO (d : Ly) (v2 v3 v4 : Value) (c : Nat) (w : World) (EB : Nat) (ds : List Nat) (W : World) : Prop :=
  (∃ v, Blk W w.heap.size 33 #[.int .i64 d.w, .int .i64 d.h, v2, v3, v4] ∧ Blk W (w.heap.size + 1) 28 #[.int .i64 0, .slice none 0 0, .slice none 0 0, .slice none 0 0, .slice none 0 0] ∧ Boxed W EB 52 v ∧ EiOw W w.heap.size v (bgS d c)) ∧ Below w.heap.size w W ∧ Mks W ds ∧ ∀ D ∈ ds, w.heap.size ≤ D
/-- What a round finds. -/
def BgR {P : Nat → Bool} (d : Ly) (v2 v3 v4 : Value) (c : Nat) (w : World) (EB CB Bn : Nat) (sx : Int) (L0 : List Ed) (ds : List Nat) (pre : List (Wy P)) (W : World) : Prop :=
  (∃ v, Blk W w.heap.size 33 #[.int .i64 d.w, .int .i64 d.h, v2, v3, v4] ∧ Blk W (w.heap.size + 1) 28 #[.int .i64 0, .slice none 0 0, .slice none 0 0, .slice none 0 0, .slice none 0 0] ∧ Boxed W CB 3 (.int .i64 c) ∧ Boxed W EB 52 v ∧ Boxed W Bn 3 (.int .i64 sx) ∧ EiOw W w.heap.size v (L0 ++ bgW d c (pre.map fun x => x.1))) ∧ Below w.heap.size w W ∧ Mks W ds
theorem bgR_own {P : Nat → Bool} (d : Ly) (v2 v3 v4 : Value) (c : Nat) (w : World) (EB CB Bn : Nat) (sx : Int) (L0 : List Ed) (ds : List Nat) (B : Nat) (hB : w.heap.size ≤ B) (hds : ∀ D ∈ ds, D < B) : OwnFrom B (BgR (P := P) d v2 v3 v4 c w EB CB Bn sx L0 ds) := by
  refine OwnFrom.and (Own.from ?_ B) (OwnFrom.and (ownFrom_below (Nat.le_refl _) hB) (mks_own hds))
  rintro pre X Y row ⟨v, h1, h0, h2, h3, h4, h5⟩ hg hr
  refine ⟨v, blk_kept h1 hg hr, blk_kept h0 hg hr, box_kept h2 hg hr, box_kept h3 hg hr, box_kept h4 hg hr, World.ownsRow.kept h5 hg ?_⟩
  cases hv : v.ownBlock with
  | none => exact .inl rfl
  | some g =>
    refine .inr fun e => ?_
    obtain ⟨o, ho, hc⟩ := hr g e.symm
    obtain ⟨cur, hb⟩ := h5.blk hv
    rw [hb] at ho
    cases ho
    cases hc
theorem edBlock_ne {W : World} {B : Nat} {v : Value} {L : List Ed} (h : EiOw W B v L) {D : Nat} {o : Obj} (ho : W.heap[D]? = some o) (hc : o.isCells = false) : v.ownBlock = none ∨ v.ownBlock ≠ some D := by
  cases hv : v.ownBlock with
  | none => exact .inl rfl
  | some g =>
    refine .inr fun e => ?_
    cases e
    obtain ⟨cur, hb⟩ := h.blk hv
    rw [hb] at ho
    cases ho
    cases hc
/-- One more edge in the box. -/
theorem bgR_step {d : Ly} {v2 v3 v4 : Value} {c : Nat} {w : World} {EB CB Bn : Nat} {sx : Int} {W w1 : World} {v v' : Value} {L l : List Ed} {o : Obj}
    (hn : w.heap.size ≤ W.heap.size) (hE : w.heap.size + 1 < EB) (hBn : Bn ≠ EB) (hCB : CB ≠ EB)
    (h1 : Blk W w.heap.size 33 #[.int .i64 d.w, .int .i64 d.h, v2, v3, v4]) (h0 : Blk W (w.heap.size + 1) 28 #[.int .i64 0, .slice none 0 0, .slice none 0 0, .slice none 0 0, .slice none 0 0]) (h2 : Boxed W CB 3 (.int .i64 c)) (h3 : Boxed W EB 52 v) (h4 : Boxed W Bn 3 (.int .i64 sx)) (h5 : EiOw W w.heap.size v L)
    (h6 : EiOw w1 w.heap.size v' l) (hg : (W.alloc o).grownBy w1 v.ownBlock) :
    (Blk (w1.setCell ⟨EB, 0, none⟩ v') w.heap.size 33 #[.int .i64 d.w, .int .i64 d.h, v2, v3, v4] ∧ Blk (w1.setCell ⟨EB, 0, none⟩ v') (w.heap.size + 1) 28 #[.int .i64 0, .slice none 0 0, .slice none 0 0, .slice none 0 0, .slice none 0 0] ∧ Boxed (w1.setCell ⟨EB, 0, none⟩ v') CB 3 (.int .i64 c) ∧ Boxed (w1.setCell ⟨EB, 0, none⟩ v') EB 52 v' ∧ Boxed (w1.setCell ⟨EB, 0, none⟩ v') Bn 3 (.int .i64 sx) ∧ EiOw (w1.setCell ⟨EB, 0, none⟩ v') w.heap.size v' l) ∧ Boxed w1 EB 52 v ∧ KeepsOthers W (w1.setCell ⟨EB, 0, none⟩ v') ∧ Below w.heap.size W (w1.setCell ⟨EB, 0, none⟩ v') := by
  obtain ⟨a1, a2, a3, a4, a5⟩ := Boxed.appended h3 (by decide) h5 hn (by omega) h6 hg
  have k1 : Blk w1 w.heap.size 33 #[.int .i64 d.w, .int .i64 d.h, v2, v3, v4] := (hg.block w.heap.size (by rw [World.size_alloc]; have := h1.lt; omega) (fun e => by
    obtain ⟨cur, hb⟩ := h5.blk e.symm
    have := blk_ty2 h1 hb
    exact absurd this (by decide))).trans (h1.alloc _)
  have k0 : Blk w1 (w.heap.size + 1) 28 #[.int .i64 0, .slice none 0 0, .slice none 0 0, .slice none 0 0, .slice none 0 0] := (hg.block (w.heap.size + 1) (by rw [World.size_alloc]; have := h0.lt; omega) (fun e => by
    obtain ⟨cur, hb⟩ := h5.blk e.symm
    have := blk_ty2 h0 hb
    exact absurd this (by decide))).trans (h0.alloc _)
  have k2 : Boxed w1 CB 3 (.int .i64 c) := (h2.alloc o).kept hg (h2.not_row (by decide) h5)
  have k4 : Boxed w1 Bn 3 (.int .i64 sx) := (h4.alloc o).kept hg (h4.not_row (by decide) h5)
  exact ⟨⟨k1.other _ _ (by omega), k0.other _ _ (by omega), k2.other hCB _, a2, k4.other hBn _, a3⟩, a1, a4, a5⟩
end Go.Proofs.YtpoanbpgpgflcaaDoor

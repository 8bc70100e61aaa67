/-
  A range over a function that writes what the body writes too (a row of what is still to be done): a law after the library's for iterators that leave the caller's cells alone.
-/
import Derived.Test.YtonhehndoifipabJReachB0
import Derived.RangeFuncNested
import Derived.RangeFuncBound
import Derived.RangeFuncCalls
import Derived.RangeFuncLeaves
import Derived.RangeFuncBox
import Derived.RangeFuncWrites
namespace Go.Proofs.Ytonhehndoifipab
open Go.RowKit

/-- HOW THE BODY OF A ROUND IS LEFT: it goes on. -/
def bodyOn (B : Nat) (I : World → Prop) (mu : World → Nat) (W : World) : Exit → Act → World → Prop
  | .normal, _, W' => KeepsFrom B W W' ∧ I W' ∧ mu W' ≤ mu W
  | _, _, _ => False

/-- The record of a loop is ready, and nothing is deferred. -/
def Rdy (r : Loop) (B : Nat) (W : World) : Prop := W.heap[B + 1]? = some (.loop r) ∧ W.heap[B]? = some (.deferred (some []))
theorem Rdy.keep {r : Loop} {B : Nat} {W W' : World} (h : Rdy r B W) (hk : KeepsFrom B W W') : Rdy r B W' :=
  ⟨hk.same _ _ (by omega) h.1 rfl, hk.same _ _ (Nat.le_refl _) h.2 rfl⟩

/-- The range over a function that takes from what the body adds to. I0: ahead of each take; I1 x: x is taken. -/
theorem wpIn_rangeFunc_row {F : Fence} {n : Nat} {P : Program} {α : Type} {g : Operand} {ps : Array Tmp} {assign body : Code} {Q : Exit → Act → World → Prop} {a : Act} {w : World}
    (hro : F.round = none) (h1 : 1 ≤ n) {gf : Nat} {lb : Array Value} (hg : a.eval g = .func (.func gf) #[] lb) (hFg : F.fn gf) (eg : ∀ args w, (callFunc gf args).run P w = .ok (.enter gf args) w)
    {enc : α → Value} (hps : ps.size = 1) (I0 Ie : World → Prop) (I1 : α → World → Prop) (mu : World → Nat)
    (hmu : ∀ {W : World} {l : Nat} {o' : Obj}, w.heap.size ≤ l → mu (W.putObj l o') = mu W)
    (hI0 : ∀ {W : World} {l : Nat} {o o' : Obj}, w.heap.size ≤ l → W.heap[l]? = some o → o.isCells = false → I0 W → I0 (W.putObj l o'))
    (hI1 : ∀ {x : α} {W : World} {l : Nat} {o o' : Obj}, w.heap.size ≤ l → W.heap[l]? = some o → o.isCells = false → I1 x W → I1 x (W.putObj l o'))
    (hIe : ∀ {W : World} {l : Nat} {o o' : Obj}, w.heap.size ≤ l → W.heap[l]? = some o → o.isCells = false → Ie W → Ie (W.putObj l o'))
    (hal : ∀ (W : World) (o : Obj), I0 W → I0 (W.alloc o)) (h0 : I0 w)
    (hseq : ∀ (l : Nat) (Rd : World → Prop) (W : World), w.heap.size ≤ W.heap.size → (∀ {A B : World}, Rd A → KeepsFrom w.heap.size A B → Rd B) →
      (∀ x W1, I1 x W1 → Rd W1 → YieldAt F (n - 1 - 1) P l #[enc x] W1 fun e W' => e = .returned (.bool true) ∧ I0 W' ∧ mu W' ≤ mu W1 ∧ Rd W') → I0 W → Rd W →
      CallsIn F (n - 1) P gf (#[.func (.yield l) #[] #[]] ++ lb) W fun e W' => (∃ v, e = .returned v) ∧ Ie W' ∧ Rd W')
    (a₁ : α → Act)
    (hassign : ∀ (l : Nat) (x : α) (W : World) (K : Act → World → Prop), K (a₁ x) W →
      assign.wpIn (F.inRound l) (n - 1 - 1) P (Exit.then K (fun _ _ _ => False)) { tmps := (ps.zip #[enc x]).foldl (fun t (p, v) => t.setIfInBounds p v) a.tmps, defers := [] } W)
    (hbody : ∀ (l : Nat) (x : α) (W : World), I1 x W → body.wpIn (F.inRound l) (n - 1 - 1) P (bodyOn w.heap.size I0 mu W) (a₁ x) W)
    (hdone : ∀ (D : Nat) (W : World), w.heap.size ≤ D → Ie W → W.heap[D]? = some (.deferred (some [])) → Q .normal { a with defers := { target := .collected D, args := #[] } :: a.defers } W) :
    (Code.rangeFunc g ps assign body).wpIn F n P Q a w := by
  refine wpIn_rangeFunc ?_
  intro fn hfn
  rw [hro]
  obtain ⟨rec, hrec⟩ : ∃ rec : LoopState → Option Code → Loop, rec = fun st pe => { state := st, pending := pe, fn, tmps := a.tmps, params := ps, assign, body, defers := w.heap.size } := ⟨_, rfl⟩
  obtain ⟨W1, hW1⟩ : ∃ W1, (w.alloc (.deferred (some []))).alloc (.loop (rec .ready none)) = W1 := ⟨_, rfl⟩
  have hL1 : W1.heap[w.heap.size + 1]? = some (.loop (rec .ready none)) := by
    rw [← hW1]; have := World.alloc_heap_new (w.alloc (.deferred (some []))) (.loop (rec .ready none)); rwa [World.size_alloc] at this
  have hK1 : W1.heap[w.heap.size]? = some (.deferred (some [])) := by
    rw [← hW1]; exact (Below.heap_alloc _ _ _ (by simp)).trans (World.alloc_heap_new w _)
  have hI1w : I0 W1 := by rw [← hW1]; exact hal _ _ (hal _ _ h0)
  have hz1 : w.heap.size ≤ W1.heap.size := by rw [← hW1]; simp; omega
  refine ⟨w.heap.size + 1, [{ target := .collected w.heap.size, args := #[] }], W1, { target := .fn (.func gf) lb, args := #[.func (.yield (w.heap.size + 1)) #[] #[]] }, W1, gf,
    #[.func (.yield (w.heap.size + 1)) #[] #[]] ++ lb, W1, ?_, ?_, ?_, ?_, fun _ => h1, ?_⟩
  · rw [← hW1, hrec]; exact run_enterLoop_outer _ _ _ _ _
  · simp only [resolve, hg]
    simp [go_sem]
  · intro f' hf'; simp [Target.leads] at hf'; subst hf'; exact hFg
  · simp [invoke, go_sem, eg]
  · refine (hseq (w.heap.size + 1) (Rdy (rec .ready none) w.heap.size) W1 hz1 (fun h k => h.keep k) ?_ hI1w ⟨hL1, hK1⟩).mono ?_
    · rintro x W hi ⟨hl, hk⟩
      have hlt : w.heap.size + 1 < W.heap.size := (Array.getElem?_eq_some_iff.1 hl).1
      have hy := run_yield (P := P) (args := #[enc x]) hl (by rw [hrec]; exact hps.symm)
      rw [hrec] at hy
      refine ⟨fn, _, assign, body, hy, roundIn_of_wpIn hfn (hassign _ x W _ ⟨_, run_beginRound hl (by rw [hrec]), ?_⟩)⟩
      have hl2 : (W.putObj (w.heap.size + 1) (.loop { rec .ready none with state := .busy })).heap[w.heap.size + 1]? = some (.loop { rec .ready none with state := .busy }) := World.putObj_heap_same hlt
      have hk2 : (W.putObj (w.heap.size + 1) (.loop { rec .ready none with state := .busy })).heap[w.heap.size]? = some (.deferred (some [])) := (World.putObj_heap_other (by omega)).trans hk
      refine wpIn_mono (hbody _ x _ (hI1 (by omega) hl rfl hi)) ?_
      rintro e a3 W3 hp
      cases e with
      | normal =>
        obtain ⟨hk3, hi3, hm3⟩ := hp
        have hl3 := hk3.same _ _ (by omega) hl2 rfl
        have hr := run_endRound (P := P) none hl3
        rw [hrec] at hr hl3
        refine ⟨_, _, hr, rfl, hI0 (by omega) hl3 rfl hi3, ?_, ?_, ?_⟩
        · rw [hmu (by omega)]; rw [hmu (by omega)] at hm3; exact hm3
        · rw [hrec]; exact World.putObj_heap_same (Array.getElem?_eq_some_iff.1 hl3).1
        · exact (World.putObj_heap_other (by omega)).trans (hk3.same _ _ (Nat.le_refl _) hk2 rfl)
      | ret => exact hp.elim
      | exit id => exact hp.elim
      | goto t => exact hp.elim
      | panic ch => exact hp.elim
      | outgrown => exact hp.elim
    · rintro e W2 ⟨⟨v, rfl⟩, hi, hl, hk⟩
      exact ⟨none, _, by have := run_endLoop (P := P) hl (by rw [hrec]; simp); rw [hrec] at this; exact this, hdone _ _ (Nat.le_refl _) (hIe (by omega) hl rfl hi) ((World.putObj_heap_other (by omega)).trans hk)⟩
end Go.Proofs.Ytonhehndoifipab

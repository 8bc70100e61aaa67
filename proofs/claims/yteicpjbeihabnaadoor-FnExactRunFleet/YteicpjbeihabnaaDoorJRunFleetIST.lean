/-
  The walk of isShortText.
  The walk of bytes.Compare.
  What a round of a range over a function keeps.
-/
import Derived.Test.YteicpjbeihabnaaDoorJRunFleetB0
import Derived.Test.YteicpjbeihabnaaDoorJRunFleetShelf
import Derived.Test.YteicpjbeihabnaaDoorJRunFleetK
import Derived.Lib.BytesEntry
import Derived.Lib.Bytealg
import Derived.Laws.Externs
import Derived.RangeFuncNested
import Derived.RangeFuncBound
import Derived.RangeFuncCalls
import Derived.RangeFuncLeaves
import Derived.RangeFuncBox
import Derived.Shelf.Abstract
import Derived.Shelf.RegionOpen
import Derived.OwnWalkIn
import Derived.TacticsInMore
import Derived.LoopNIn
import Derived.LoopIn
import Derived.Maps.AppendAt
namespace Go.Proofs.YteicpjbeihabnaaDoor
open Go.RowKit

theorem implCheck_bs {w : World} {v : Value} {s : ByteArray} (hs : s.size ≤ 1048576) (hT : Lib.Utf8Tabs 2 3 w) (h : BS w v s) :
    Calls Tryd.prog 89 #[v] w fun e w' => e = .returned (pairVal (chk s)) ∧ Below w.heap.size w w' := implCheck_val v s w hs hT (toStr_bs h)

/-- Whether a text is short and well-formed. -/
def shortT (s : ByteArray) : Bool := decide (s.size ≤ 60) && decide ((chk s).1 = 0)
set_option maxHeartbeats 1000000 in
set_option maxRecDepth 1000000 in
theorem isShort_any (v : Value) (s : ByteArray) (w : World) (hl : s.size ≤ 1048576) (hT : Lib.Utf8Tabs 2 3 w) (h : BS w v s) :
    Calls Tryd.prog 83 #[v] w fun e w' => e = .returned (.bool (shortT s)) ∧ Below w.heap.size w w' := by
  have HB := hide h
  have HT := hide hT
  obtain ⟨a, b, o, c, rfl, _, _⟩ := h
  clear hT
  by_cases h60 : s.size ≤ 60
  · have d1 : decide ((60 : Int) < (s.size : Int)) = false := decide_eq_false (by omega)
    obtain ⟨A, D, hAD⟩ : ∃ A D, chk s = (A, D) := ⟨_, _, rfl⟩
    have HN : Hid (shortT s = ((A : Int) == 0)) := by
      show _ = _
      unfold shortT
      rw [decide_eq_true h60, Bool.true_and, hAD]
      show decide (A = 0) = _
      by_cases h : A = 0
      · subst h; rfl
      · rw [decide_eq_false h]; symm; rw [beq_eq_false_iff_ne]; omega
    have HAD := hide hAD
    clear hAD h60
    go_enter Tryd.func83, Tryd.ntmps83
    go_wp2_with fail
    refine (implCheck_bs hl HT.out HB.out).mono ?_
    rintro e w2 ⟨rfl, hb2⟩
    rw [pairVal_of HAD.out]
    have HB2 := hide hb2
    clear hb2
    go_wp2
    go_ret
    exact ⟨by rw [HN.out]; rfl, HB2.out⟩
  · have d1 : decide ((60 : Int) < (s.size : Int)) = true := decide_eq_true (by omega)
    have HN : Hid (shortT s = false) := by show _ = _; unfold shortT; rw [decide_eq_false h60, Bool.false_and]
    clear h60
    go_enter Tryd.func83, Tryd.ntmps83
    go_wp2
    go_ret
    exact ⟨by rw [HN.out]; rfl, Below.refl _ _⟩
end Go.Proofs.YteicpjbeihabnaaDoor

namespace Go.Proofs.YteicpjbeihabnaaDoor
open Go.RowKit

theorem bytesOf_bs {w : World} {v : Value} {s : ByteArray} (h : BS w v s) : (Extern.Bytes.bytesOf v).run Tryd.prog w = .ok s w := by
  obtain ⟨a, b, o, c, rfl, ha, hc⟩ := h
  by_cases h0 : 0 < s.size
  · obtain rfl := ha h0
    have hl := Lib.run_loadBytesX (P := Tryd.prog) w (nums s) ⟨b, o, none⟩ .empty (fun j x hj => by
      have hjl : j < (nums s).length := (List.getElem?_eq_some_iff.1 hj).1
      rw [nums_length] at hjl
      have e : (⟨b, o, none⟩ : Addr).add j = ⟨b, o + j, none⟩ := by unfold Addr.add; split <;> simp_all
      rw [e, hc j hjl, ← nums_getD s j hjl, List.getD_eq_getElem?_getD, hj]
      rfl)
    rw [nums_length] at hl
    refine (show (Extern.Bytes.bytesOf (.slice (some ⟨b, o, none⟩) s.size c)).run Tryd.prog w = (Extern.Bytes.loadBytes ⟨b, o, none⟩ s.size .empty).run Tryd.prog w from rfl).trans (hl.trans ?_)
    have hs := strOf_nums s
    congr 1
    refine Eq.trans ?_ hs
    unfold strOfNums
    congr 1
    exact Array.empty_append.trans rfl
  · have hz : s.size = 0 := by omega
    have e : s = ByteArray.empty := ext_bytes hz (fun j hj => by omega)
    subst e
    cases a <;> rfl

theorem cmp_less : ∀ (a b : List UInt8), decide (0 ≤ Lib.compareBytes a b) = !Go.Op.bytesLess a b
  | [], [] => rfl
  | [], _ :: _ => rfl
  | _ :: _, [] => rfl
  | a :: xs, b :: ys => by
    unfold Lib.compareBytes Go.Op.bytesLess
    by_cases h1 : a < b
    · simp [h1]
    · by_cases h2 : b < a
      · have h3 : (a == b) = false := by
          rw [beq_eq_false_iff_ne]; intro e; subst e; exact h1 h2
        simp [h1, h2, h3]
      · have h3 : a = b := by
          apply UInt8.toNat_inj.1
          rw [UInt8.lt_iff_toNat_lt] at h1 h2
          omega
        subst h3
        simp [h1, cmp_less xs ys]

set_option maxHeartbeats 1000000 in
set_option maxRecDepth 1000000 in
theorem bcmp_any (va vb : Value) (a b : ByteArray) (w : World) (ha : BS w va a) (hb : BS w vb b) :
    Calls Tryd.prog 84 #[va, vb] w fun e w' => e = .returned (.int .i64 (Lib.compareBytes a.data.toList b.data.toList)) ∧ w' = w := by
  have HR : Hid ((Extern.BytealgCompare.compare #[va, vb]).run Tryd.prog w = .ok (.int .i64 (Lib.compareBytes a.data.toList b.data.toList)) w) := by
    show _ = _
    change Sem.run _ (do pure (goInt (Extern.BytealgCompare.cmp (← Extern.Bytes.bytesOf va) (← Extern.Bytes.bytesOf vb)))) w = _
    simp only [Sem.run_bind, Sem.run_pure, bytesOf_bs ha, bytesOf_bs hb, Result.andThen]
    rw [Lib.cmp_eq]
    rfl
  clear ha hb
  go_enter Tryd.func84, Tryd.ntmps84
  go_wp2
  rw [run_callFunc_extern Tryd.func90 (by kernel_rfl) (by kernel_rfl) (by kernel_rfl) (e := Extern.BytealgCompare.compare) (by kernel_rfl), HR.out]
  simp only [Result.andThen]
  rw [Oper.upon_value]
  go_wp2
  go_ret
  exact ⟨rfl, rfl⟩
end Go.Proofs.YteicpjbeihabnaaDoor

namespace Go.Proofs.YteicpjbeihabnaaDoor
open Go.RowKit Go.Shelf

/-- What is kept over a round: what lay below n₀, and the box of the source. -/
def KpB (n₀ Bn : Nat) (W W' : World) : Prop := Below n₀ W W' ∧ W'.cell? ⟨Bn, 0, none⟩ = W.cell? ⟨Bn, 0, none⟩

theorem below_grown {w w' : World} (hb : Below w.heap.size w w') : w.grownBy w' none := ⟨hb.os, hb.tape, hb.output, hb.size, fun k hk _ => hb.block k hk⟩
theorem kpB_t {n₀ Bn : Nat} {A B C : World} (h : KpB n₀ Bn A B) (k : KpB n₀ Bn B C) : KpB n₀ Bn A C := ⟨h.1.trans k.1, k.2.trans h.2⟩
theorem kpB_b {n₀ Bn : Nat} {w : World} (hn : n₀ ≤ w.heap.size) (hB : Bn < w.heap.size) (W : World) (l : Nat) (o o' : Obj) (hl : w.heap.size ≤ l) (h : W.heap[l]? = some o) (h1 : o.isCells = false) (h2 : o.isWalk = false) : KpB n₀ Bn W (W.putObj l o') :=
  ⟨belowK_b hn W l o o' hl h h1 h2, (belowK_b (n₀ := Bn + 1) (w := w) hB W l o o' hl h h1 h2).cell (p := ⟨Bn, 0, none⟩) (Nat.lt_succ_self _)⟩

theorem box_kept {W W' : World} {row : Option Nat} {B : Nat} {t : TypeId} {v : Value} (h : Boxed W B t v) (hg : W.grownBy W' row) (hr : ∀ r, row = some r → ∃ o : Obj, W.heap[r]? = some o ∧ o.isCells = false) : Boxed W' B t v :=
  h.kept hg (fun e' => by obtain ⟨o, ho, hc⟩ := hr B e'.symm; rw [show W.heap[B]? = _ from h] at ho; cases ho; cases hc)
end Go.Proofs.YteicpjbeihabnaaDoor

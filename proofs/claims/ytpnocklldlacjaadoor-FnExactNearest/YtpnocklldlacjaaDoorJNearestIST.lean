/-
  The walk of isShortText.
-/
import Derived.Test.YtpnocklldlacjaaDoorJNearestIN0
import Derived.Test.YtpnocklldlacjaaDoorJNearestQ
import Derived.Test.YtpnocklldlacjaaDoorJNearestM
namespace Go.Proofs.YtpnocklldlacjaaDoor
open Go.RowKit

theorem implCheck_bs {w : World} {v : Value} {s : ByteArray} (hs : s.size ≤ 1048576) (hT : Lib.Utf8Tabs 3 4 w) (h : BS w v s) :
    Calls Tryd.prog 78 #[v] w fun e w' => e = .returned (pairVal (chk s)) ∧ Below w.heap.size w w' := implCheck_val v s w hs hT (toStr_bs h)

/-- Whether a text is short and well-formed. -/
def shortT (s : ByteArray) : Bool := decide (s.size ≤ 60) && decide ((chk s).1 = 0)
set_option maxHeartbeats 1000000 in
set_option maxRecDepth 1000000 in
theorem isShort_any (v : Value) (s : ByteArray) (w : World) (hl : s.size ≤ 1048576) (hT : Lib.Utf8Tabs 3 4 w) (h : BS w v s) :
    Calls Tryd.prog 56 #[v] w fun e w' => e = .returned (.bool (shortT s)) ∧ Below w.heap.size w w' := by
  have HB := hide h
  have HT := hide hT
  obtain ⟨a, b, o, c, rfl, _, _⟩ := h
  clear hT
  by_cases h60 : s.size ≤ 60
  · have d1 : decide ((60 : Int) < (s.size : Int)) = false := decide_eq_false (by omega)
    obtain ⟨A, D, hAD⟩ : ∃ A D, chk s = (A, D) := ⟨_, _, rfl⟩
    have HN : Hid (shortT s = ((A : Int) == 0)) := by
      show _ = _
      unfold shortT
      rw [decide_eq_true h60, Bool.true_and, hAD]
      show decide (A = 0) = _
      by_cases h : A = 0
      · subst h; rfl
      · rw [decide_eq_false h]; symm; rw [beq_eq_false_iff_ne]; omega
    have HAD := hide hAD
    clear hAD h60
    go_enter Tryd.func56, Tryd.ntmps56
    go_wp2_with fail
    refine (implCheck_bs hl HT.out HB.out).mono ?_
    rintro e w2 ⟨rfl, hb2⟩
    rw [pairVal_of HAD.out]
    have HB2 := hide hb2
    clear hb2
    go_wp2
    go_ret
    exact ⟨by rw [HN.out]; rfl, HB2.out⟩
  · have d1 : decide ((60 : Int) < (s.size : Int)) = true := decide_eq_true (by omega)
    have HN : Hid (shortT s = false) := by show _ = _; unfold shortT; rw [decide_eq_false h60, Bool.false_and]
    clear h60
    go_enter Tryd.func56, Tryd.ntmps56
    go_wp2
    go_ret
    exact ⟨by rw [HN.out]; rfl, Below.refl _ _⟩
end Go.Proofs.YtpnocklldlacjaaDoor

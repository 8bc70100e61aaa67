/-
  A slice of bytes as a string.
  The walk of isShortText.
  The walk of validNodeText.
-/
import Derived.Test.YtbjaccalloipcaaDoorJVtIN0
import Derived.Test.YtbjaccalloipcaaDoorJVtShelf
import Derived.Laws.BytesString
import Derived.Test.YtbjaccalloipcaaDoorJVtQ
import Derived.Test.YtbjaccalloipcaaDoorJVtND3
namespace Go.Proofs.YtbjaccalloipcaaDoor
open Go.RowKit

theorem toStr_bs {w : World} {v : Value} {s : ByteArray} (h : BS w v s) : (convert 30 9 v).run Tryd.prog w = .ok (.string s) w := by
  obtain ⟨a, b, o, c, rfl, ha, hc⟩ := h
  by_cases h0 : 0 < s.size
  · obtain rfl := ha h0
    exact toStr_run s w b o c hc
  · have hz : s.size = 0 := by omega
    have e : s = ByteArray.empty := ext_bytes hz (fun j hj => by omega)
    subst e
    show (convert 30 9 (.slice a 0 c)).run Tryd.prog w = _
    rw [run_convert_bytes_string w 30 9 5 a 0 c Tryd.underlying30 Tryd.underlying5 Tryd.underlying9]
    cases a <;> simp [Conv.bytesToString, loadCells]
    all_goals rfl
end Go.Proofs.YtbjaccalloipcaaDoor

namespace Go.Proofs.YtbjaccalloipcaaDoor
open Go.RowKit

theorem implCheck_bs {w : World} {v : Value} {s : ByteArray} (hs : s.size ≤ 1048576) (hT : Lib.Utf8Tabs 0 1 w) (h : BS w v s) :
    Calls Tryd.prog 53 #[v] w fun e w' => e = .returned (pairVal (chk s)) ∧ Below w.heap.size w w' := implCheck_val v s w hs hT (toStr_bs h)

/-- Whether a text is short and well-formed. -/
def shortT (s : ByteArray) : Bool := decide (s.size ≤ 60) && decide ((chk s).1 = 0)
set_option maxHeartbeats 1000000 in
set_option maxRecDepth 1000000 in
theorem isShort_any (v : Value) (s : ByteArray) (w : World) (hl : s.size ≤ 1048576) (hT : Lib.Utf8Tabs 0 1 w) (h : BS w v s) :
    Calls Tryd.prog 47 #[v] w fun e w' => e = .returned (.bool (shortT s)) ∧ Below w.heap.size w w' := by
  have HB := hide h
  have HT := hide hT
  obtain ⟨a, b, o, c, rfl, _, _⟩ := h
  clear hT
  by_cases h60 : s.size ≤ 60
  · have d1 : decide ((60 : Int) < (s.size : Int)) = false := decide_eq_false (by omega)
    obtain ⟨A, D, hAD⟩ : ∃ A D, chk s = (A, D) := ⟨_, _, rfl⟩
    have HN : Hid (shortT s = ((A : Int) == 0)) := by
      show _ = _
      unfold shortT
      rw [decide_eq_true h60, Bool.true_and, hAD]
      show decide (A = 0) = _
      by_cases h : A = 0
      · subst h; rfl
      · rw [decide_eq_false h]; symm; rw [beq_eq_false_iff_ne]; omega
    have HAD := hide hAD
    clear hAD h60
    go_enter Tryd.func47, Tryd.ntmps47
    go_wp2_with fail
    refine (implCheck_bs hl HT.out HB.out).mono ?_
    rintro e w2 ⟨rfl, hb2⟩
    rw [pairVal_of HAD.out]
    have HB2 := hide hb2
    clear hb2
    go_wp2
    go_ret
    exact ⟨by rw [HN.out]; rfl, HB2.out⟩
  · have d1 : decide ((60 : Int) < (s.size : Int)) = true := decide_eq_true (by omega)
    have HN : Hid (shortT s = false) := by show _ = _; unfold shortT; rw [decide_eq_false h60, Bool.false_and]
    clear h60
    go_enter Tryd.func47, Tryd.ntmps47
    go_wp2
    go_ret
    exact ⟨by rw [HN.out]; rfl, Below.refl _ _⟩
end Go.Proofs.YtbjaccalloipcaaDoor

namespace Go.Proofs.YtbjaccalloipcaaDoor
open Go.RowKit

/-- Whether a node's text may stand. -/
def vTx (d : Nd) : Bool := if d.kind = 17 then decide (d.text.size ≤ 60) && decide ((chk d.text).1 = 0) else d.text.size == 0
set_option maxHeartbeats 2000000 in
set_option maxRecDepth 1000000 in
theorem validText_any (d : Nd) (vt vn vy : Value) (w : World) (ht : BS w vt d.text) (hl : d.text.size ≤ 1048576) (hT : Lib.Utf8Tabs 0 1 w) :
    Calls Tryd.prog 38 #[nagg d vt vn vy] w fun e w' => e = .returned (.bool (vTx d)) ∧ Below w.heap.size w w' := by
  obtain ⟨K, N, T, M, Y, C⟩ := d
  simp only at ht hl
  have HN : Hid (vTx ⟨K, N, T, M, Y, C⟩ = if K = 17 then decide (T.size ≤ 60) && decide ((chk T).1 = 0) else T.size == 0) := rfl
  have HT := hide hT
  have HBT := hide ht
  obtain ⟨at_, bt, ot, ct, rfl, _, _⟩ := ht
  clear hT
  unfold nagg
  simp only
  by_cases h1 : K = 17
  · subst h1
    rw [if_pos rfl] at HN
    have HB1 : ∀ o, Below w.heap.size w (w.alloc o) := fun o => (Below.refl _ _).alloc (Nat.le_refl _) _
    have HBH := hide HB1
    have HN2 : Hid (vTx ⟨17, N, T, M, Y, C⟩ = shortT T) := HN.out
    obtain ⟨sb, hsb⟩ : ∃ b, shortT T = b := ⟨_, rfl⟩
    rw [hsb] at HN2
    have HSB := hide hsb
    clear HB1 HN hsb
    go_enter Tryd.func38, Tryd.ntmps38
    go_wp2_with fail
    refine (isShort_any _ T _ hl (Utf8Tabs_below HT.out (HBH.out _)) (HBT.out.below (HBH.out _))).mono ?_
    rintro e w2 ⟨rfl, hb2⟩
    rw [HSB.out]
    have HB2 : Hid (Below w.heap.size w w2) := (HBH.out _).trans (hb2.mono (HBH.out _).size)
    clear hb2
    go_wp2
    go_ret
    exact ⟨by rw [HN2.out]; rfl, HB2.out⟩
  · rw [if_neg h1] at HN
    have n1 : (K != 17) = true := by rw [bne_iff_ne]; exact h1
    have e0 : ((T.size : Int) == 0) = (T.size == 0) := by
      by_cases h : T.size = 0
      · rw [h]; rfl
      · rw [beq_eq_false_iff_ne.2 h, beq_eq_false_iff_ne]; omega
    rw [← e0] at HN
    clear h1 e0
    go_enter Tryd.func38, Tryd.ntmps38
    go_wp2
    go_ret
    exact ⟨by rw [HN.out]; rfl, (Below.refl _ _).alloc (Nat.le_refl _) _⟩
end Go.Proofs.YtbjaccalloipcaaDoor

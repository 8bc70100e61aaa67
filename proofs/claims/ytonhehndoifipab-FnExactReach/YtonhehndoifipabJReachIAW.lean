/-
  The walk of slices.IsSorted.
-/
import Derived.Test.YtonhehndoifipabJReachIAW0
namespace Go.Proofs.Ytonhehndoifipab
open Go.RowKit

set_option maxHeartbeats 1000000 in
theorem isNaN_int (x : Int) (w : World) : Calls Try.prog 33 #[.int .i64 x] w fun e w' => e = .returned (.bool false) ∧ w' = w := by
  go_enter Try.func33, Try.ntmps33
  go_wp2
  go_ret
  exact ⟨by simp, rfl⟩

set_option maxHeartbeats 1000000 in
theorem less_int (x y : Int) (w : World) : Calls Try.prog 31 #[.int .i64 x, .int .i64 y] w fun e w' => e = .returned (.bool (decide (x < y))) ∧ w' = w := by
  go_enter Try.func31, Try.ntmps31
  go_wp2_with (go_at_call 33; refine (isNaN_int _ _).mono ?_; rintro e w' ⟨rfl, rfl⟩)
  go_ret
  exact ⟨rfl, rfl⟩

/-- No number of a list is less than the one ahead of it. -/
def Grows (L : List Int) : Prop := ∀ i, i + 1 < L.length → L.getD i 0 ≤ L.getD (i + 1) 0

set_option maxHeartbeats 2000000 in
set_option maxRecDepth 1000000 in
theorem isSorted_any (v : Value) (L : List Int) (w : World) (hl : (L.length : Int) ≤ 9223372036854775807) (h : IS w v L) :
    Calls Try.prog 26 #[v] w fun e w' => Ans (Grows L) e ∧ Below w.heap.size w w' := by
  obtain ⟨a, b, o, c, rfl, ha, hc⟩ := h
  have HC := hide hc
  clear hc
  go_enter Try.func26, Try.ntmps26
  go_wp2
  go_loopw [3] (fun ix wr => ∃ k : Int, -1 ≤ k ∧ k < L.length ∧ ix = .int .i64 k ∧ (∀ i : Nat, k ≤ i → i + 1 < L.length → L.getD i 0 ≤ L.getD (i + 1) 0) ∧ Below w.heap.size w wr) (fun ix _ => (intOf ix).toNat)
  case atStart => exact ⟨(L.length : Int) - 1, by omega, by omega, by go_num, fun i h1 h2 => by omega, Below.refl _ _⟩
  case round =>
    obtain ⟨k, hk0, hk1, rfl, hg, hbl⟩ := hrel
    have HG := hide hg
    have HB := hide hbl
    clear hg
    by_cases hlt : 0 < k
    · obtain ⟨m, rfl⟩ : ∃ m : Nat, k = (m : Int) + 1 := ⟨(k - 1).toNat, by omega⟩
      obtain rfl := ha (by omega)
      have e0 := cell_kept (HC.out m (by omega)) hbl
      have e1 := cell_kept (HC.out (m + 1) (by omega)) hbl
      obtain ⟨y0, hy0⟩ : ∃ y, L.getD m 0 = y := ⟨_, rfl⟩
      obtain ⟨y1, hy1⟩ : ∃ y, L.getD (m + 1) 0 = y := ⟨_, rfl⟩
      rw [hy0] at e0
      rw [hy1] at e1
      have HY0 := hide hy0
      have HY1 := hide hy1
      have hml : (m : Int) < (L.length : Int) := by omega
      have hlt1 : 0 < (m : Int) + 1 := by omega
      clear hbl hy0 hy1 hlt
      by_cases q : y1 < y0
      · have t : decide (y1 < y0) = true := decide_eq_true q
        have HR : Hid (¬ Grows L) := fun h => by
          have := h m (by omega); rw [HY0.out, HY1.out] at this; omega
        have HLS := hide (fun w2 => less_int y1 y0 w2)
        rw [t] at HLS
        go_wp2_with fail
        go_quiet ((go_at_call 31; exact Calls.quiet_of_same (HLS.out _)))
        go_wp2
        go_ret
        exact ⟨Ans.no HR.out, below_drewN HB.out _⟩
      · have t : decide (y1 < y0) = false := decide_eq_false q
        have HG1 : Hid (∀ i : Nat, (m : Int) ≤ i → i + 1 < L.length → L.getD i 0 ≤ L.getD (i + 1) 0) := fun i h1 h2 => by
          by_cases e : i = m
          · subst e; rw [HY0.out, HY1.out]; omega
          · exact HG.out i (by omega) h2
        have HLS := hide (fun w2 => less_int y1 y0 w2)
        rw [t] at HLS
        go_wp2_with fail
        go_quiet ((go_at_call 31; exact Calls.quiet_of_same (HLS.out _)))
        go_wp2
        go_roundw
        case rel => exact ⟨m, by omega, by omega, by go_num, HG1.out, below_drewN HB.out _⟩
        case measure => simp [intOf]
    · have hge : ¬ 0 < k := hlt
      clear hbl
      go_wp2
      go_ret
      exact ⟨Ans.yes fun i hi => HG.out i (by omega) hi, HB.out⟩
end Go.Proofs.Ytonhehndoifipab

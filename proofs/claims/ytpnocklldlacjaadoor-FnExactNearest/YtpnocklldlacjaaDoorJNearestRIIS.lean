/-
  Lists of lists that came in.
-/
import Derived.Test.YtpnocklldlacjaaDoorJNearestIIS0
import Derived.Test.YtpnocklldlacjaaDoorJNearestRB
namespace Go.Proofs.YtpnocklldlacjaaDoor
open Go.ChangeShapes Go.WideShapes Go.ChangeAt Go.RowKit Go.Deep

theorem iis_of {H : Type} {enc : TypeId × Value → H} {P : Program} {w : World} {base : Nat} {held : Bool} {tiis q ti : TypeId} (htiis : P.underlying tiis = some (.slice ti)) (hti : P.underlying ti = some (.slice q)) (hq : P.underlying q = some (.int .i64)) (cq : P.cellsOf q = 1) (cti : P.cellsOf ti = 1) {fuel : Nat} {v : Value} {x : DataW H × List MemPlace}
    (h : DataW.trod enc P w base (fun _ => true) held fuel tiis [v] = some x) : ∃ L : List (List Int), IIS w v L ∧ IISL L := by
  have mf := max_fits
  rcases open_slice1 htiis cti h with ⟨hcs, _⟩ | ⟨a, len, cap, m, n, V, D, Pl, hcs, _, hl, hm, hmm, _, hx⟩
  · simp only [List.cons.injEq, and_true] at hcs
    exact ⟨[], ⟨none, 0, 0, 0, hcs, fun h => absurd h (by decide), fun j hj => absurd hj (Nat.not_lt_zero _)⟩, ⟨by simp, fun j hj => absurd hj (Nat.not_lt_zero _)⟩⟩
  · simp only [List.cons.injEq, and_true] at hcs
    have hmc : m = cap := by simpa using hmm
    obtain ⟨S, hS⟩ := choose_lt (α := List Int) (n := len) (p := fun i s => IS w (V i) s ∧ IL s) (fun i hi => is_of hti hq cq (hx i (by omega)).2)
    have hlen : ((List.range len).map S).length = len := by simp
    by_cases h0 : len = 0
    · subst h0
      exact ⟨[], ⟨some a, 0, 0, cap, hcs, fun h => absurd h (by decide), fun j hj => absurd hj (Nat.not_lt_zero _)⟩, ⟨by simp, fun j hj => absurd hj (Nat.not_lt_zero _)⟩⟩
    · obtain ⟨b, off, spot⟩ := a
      have hspot : spot = none := by simpa [Addr.add] using World.cell?_spot (hx 0 (by omega)).1
      subst hspot
      refine ⟨(List.range len).map S, ⟨_, b, off, cap, by rw [hcs, hlen], fun _ => rfl, fun j hj => ?_⟩, ⟨by omega, fun j hj => ?_⟩⟩
      · rw [hlen] at hj
        refine ⟨V j, ?_, ?_⟩
        · rw [← Go.WideShapes.add_plain]; exact (hx j (by omega)).1
        · rw [range_getD S _ _ _ hj]; exact (hS j hj).1
      · rw [hlen] at hj
        rw [range_getD S _ _ _ hj]; exact (hS j hj).2
end Go.Proofs.YtpnocklldlacjaaDoor

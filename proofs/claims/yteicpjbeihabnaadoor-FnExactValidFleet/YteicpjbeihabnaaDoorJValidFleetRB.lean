/-
  Slices of bytes and of numbers that came in, and lists of lists.
  Lists of lists that came in.
-/
import Derived.Test.YteicpjbeihabnaaDoorJValidFleetIN0
import Derived.Test.YteicpjbeihabnaaDoorJValidFleetIVF
import Derived.Deep.Slices
import Derived.Test.YteicpjbeihabnaaDoorJValidFleetIIS0
namespace Go.Proofs.YteicpjbeihabnaaDoor
open Go.ChangeShapes Go.WideShapes Go.ChangeAt Go.RowKit Go.Deep

theorem max_fits : (maxLen : Int) ≤ 9223372036854775807 := by unfold maxLen; omega

theorem bs_of {H : Type} {enc : TypeId × Value → H} {P : Program} {w : World} {base : Nat} {held : Bool} {t e : TypeId} (ht : P.underlying t = some (.slice e)) (he : P.underlying e = some (.int .u8)) (hc : P.cellsOf e = 1) {fuel : Nat} {v : Value} {x : DataW H × List MemPlace}
    (h : DataW.trod enc P w base (fun _ => true) held fuel t [v] = some x) : ∃ s : ByteArray, BS w v s ∧ (s.size : Int) ≤ 9223372036854775807 := by
  have mf := max_fits
  rcases open_ints ht he hc h with ⟨hcs, _⟩ | ⟨a, l, c, zs, hcs, _, hl, hm, hz, _, hcell, hwz⟩
  · simp only [List.cons.injEq, and_true] at hcs
    exact ⟨.empty, ⟨none, 0, 0, 0, hcs, fun h => absurd h (by decide), fun j hj => absurd hj (Nat.not_lt_zero _)⟩, by decide⟩
  · simp only [List.cons.injEq, and_true] at hcs
    have hr : IsRow .u8 w (some a) l c zs := .inr ⟨_, rfl, hl, hm, by simpa using hz, hcell, hwz⟩
    obtain ⟨s, b, off, h1, h2, h3⟩ := text_of_row hr
    exact ⟨s, ⟨some a, b, off, c, by rw [hcs, h1], h2, h3⟩, by omega⟩

theorem cap_of {H : Type} {enc : TypeId × Value → H} {P : Program} {w : World} {base : Nat} {held : Bool} {t e : TypeId} (ht : P.underlying t = some (.slice e)) (he : P.underlying e = some (.int .u8)) (hc : P.cellsOf e = 1) {fuel : Nat} {a0 : Option Addr} {l0 c0 : Nat} {x : DataW H × List MemPlace}
    (h : DataW.trod enc P w base (fun _ => true) held fuel t [.slice a0 l0 c0] = some x) : l0 ≤ c0 := by
  rcases open_ints ht he hc h with ⟨hcs, _⟩ | ⟨a, l, c, zs, hcs, _, hl, _⟩
  · simp only [List.cons.injEq, and_true, Value.slice.injEq] at hcs
    omega
  · simp only [List.cons.injEq, and_true, Value.slice.injEq] at hcs
    omega
theorem is_of {H : Type} {enc : TypeId × Value → H} {P : Program} {w : World} {base : Nat} {held : Bool} {t e : TypeId} (ht : P.underlying t = some (.slice e)) (he : P.underlying e = some (.int .i64)) (hc : P.cellsOf e = 1) {fuel : Nat} {v : Value} {x : DataW H × List MemPlace}
    (h : DataW.trod enc P w base (fun _ => true) held fuel t [v] = some x) : ∃ l : List Int, IS w v l ∧ IL l := by
  have mf := max_fits
  rcases open_ints ht he hc h with ⟨hcs, _⟩ | ⟨a, l, c, zs, hcs, _, hl, hm, hz, _, hcell, hwf⟩
  · simp only [List.cons.injEq, and_true] at hcs
    exact ⟨[], ⟨none, 0, 0, 0, hcs, fun h => absurd h (by decide), fun j hj => absurd hj (Nat.not_lt_zero _)⟩, ⟨by simp, fun j hj => absurd hj (Nat.not_lt_zero _)⟩⟩
  · simp only [List.cons.injEq, and_true] at hcs
    have hzl : zs.length = c := by simpa using hz
    have hlen : (zs.take l).length = l := by rw [List.length_take]; omega
    by_cases h0 : l = 0
    · subst h0
      exact ⟨[], ⟨some a, 0, 0, c, hcs, fun h => absurd h (by decide), fun j hj => absurd hj (Nat.not_lt_zero _)⟩, ⟨by simp, fun j hj => absurd hj (Nat.not_lt_zero _)⟩⟩
    · obtain ⟨b, off, rfl, hc⟩ := ints_at hcell (by omega)
      refine ⟨zs.take l, ⟨_, b, off, c, by rw [hcs, hlen], fun _ => rfl, fun j hj => ?_⟩, ⟨by omega, fun j hj => ?_⟩⟩
      rotate_left
      · rw [List.getD_eq_getElem?_getD, List.getElem?_eq_getElem hj, Option.getD_some]
        exact hwf _ (List.mem_of_mem_take (List.getElem_mem hj))
      rw [hc j (by omega)]
      have : (zs.take l).getD j 0 = zs.getD j 0 := by
        simp only [List.getD_eq_getElem?_getD, List.getElem?_take]; rw [if_pos (by omega)]
      rw [this]

theorem range_getD {α : Type} (S : Nat → α) (z : α) (n j : Nat) (h : j < n) : ((List.range n).map S).getD j z = S j := by
  simp [List.getD, h]
end Go.Proofs.YteicpjbeihabnaaDoor

namespace Go.Proofs.YteicpjbeihabnaaDoor
open Go.ChangeShapes Go.WideShapes Go.ChangeAt Go.RowKit Go.Deep

theorem iis_of {H : Type} {enc : TypeId × Value → H} {P : Program} {w : World} {base : Nat} {held : Bool} {tiis q ti : TypeId} (htiis : P.underlying tiis = some (.slice ti)) (hti : P.underlying ti = some (.slice q)) (hq : P.underlying q = some (.int .i64)) (cq : P.cellsOf q = 1) (cti : P.cellsOf ti = 1) {fuel : Nat} {v : Value} {x : DataW H × List MemPlace}
    (h : DataW.trod enc P w base (fun _ => true) held fuel tiis [v] = some x) : ∃ L : List (List Int), IIS w v L ∧ IISL L := by
  have mf := max_fits
  rcases open_slice1 htiis cti h with ⟨hcs, _⟩ | ⟨a, len, cap, m, n, V, D, Pl, hcs, _, hl, hm, hmm, _, hx⟩
  · simp only [List.cons.injEq, and_true] at hcs
    exact ⟨[], ⟨none, 0, 0, 0, hcs, fun h => absurd h (by decide), fun j hj => absurd hj (Nat.not_lt_zero _)⟩, ⟨by simp, fun j hj => absurd hj (Nat.not_lt_zero _)⟩⟩
  · simp only [List.cons.injEq, and_true] at hcs
    have hmc : m = cap := by simpa using hmm
    obtain ⟨S, hS⟩ := choose_lt (α := List Int) (n := len) (p := fun i s => IS w (V i) s ∧ IL s) (fun i hi => is_of hti hq cq (hx i (by omega)).2)
    have hlen : ((List.range len).map S).length = len := by simp
    by_cases h0 : len = 0
    · subst h0
      exact ⟨[], ⟨some a, 0, 0, cap, hcs, fun h => absurd h (by decide), fun j hj => absurd hj (Nat.not_lt_zero _)⟩, ⟨by simp, fun j hj => absurd hj (Nat.not_lt_zero _)⟩⟩
    · obtain ⟨b, off, spot⟩ := a
      have hspot : spot = none := by simpa [Addr.add] using World.cell?_spot (hx 0 (by omega)).1
      subst hspot
      refine ⟨(List.range len).map S, ⟨_, b, off, cap, by rw [hcs, hlen], fun _ => rfl, fun j hj => ?_⟩, ⟨by omega, fun j hj => ?_⟩⟩
      · rw [hlen] at hj
        refine ⟨V j, ?_, ?_⟩
        · rw [← Go.WideShapes.add_plain]; exact (hx j (by omega)).1
        · rw [range_getD S _ _ _ hj]; exact (hS j hj).1
      · rw [hlen] at hj
        rw [range_getD S _ _ _ hj]; exact (hS j hj).2
end Go.Proofs.YteicpjbeihabnaaDoor

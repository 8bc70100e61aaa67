/-
  The walk of impl.nextCells; next cells and edges.
-/
import Derived.Test.YtonhehndoifipabJReachIG
import Derived.Test.YtonhehndoifipabJReachED
import Derived.Test.YtonhehndoifipabJReachTIc
import Derived.BigQuiet
import Derived.Deep.QuietTactic
namespace Go.Proofs.Ytonhehndoifipab
open Go.RowKit

/-- The cells to which the edges of a cell lead. -/
def nxt (g : Gr) (c : Nat) : List Int := (List.range ((g.start.getD (c + 1) 0).toNat - (g.start.getD c 0).toNat)).map fun j => g.to.getD ((g.start.getD c 0).toNat + j) 0
theorem nxt_length (g : Gr) (c : Nat) : (nxt g c).length = (g.start.getD (c + 1) 0).toNat - (g.start.getD c 0).toNat := by unfold nxt; simp

set_option maxHeartbeats 2000000 in
set_option maxRecDepth 1000000 in
theorem next_any (g : Gr) (v1 v2 v3 v4 : Value) (c : Nat) (w00 w : World) (hok : GrOk g) (hc : c < g.n.toNat) (h00 : GrV w00 g v1 v2 v3 v4) (hb00 : Below w00.heap.size w00 w) (hcp : Cp v2) :
    Calls Try.prog 25 #[gragg g v1 v2 v3 v4, .int .i64 (c : Nat)] w fun e w' => ∃ v, e = .returned v ∧ IS w00 v (nxt g c) ∧ Below w.heap.size w w' := by
  have h := h00.below hb00
  obtain ⟨a1, b1, o1, c1, rfl, ha1, hc1⟩ := h.start
  obtain ⟨a2, b2, o2, c2, rfl, ha2, hc2⟩ := h00.to
  obtain ⟨a3, c3, rfl⟩ := h.dir.slice
  obtain ⟨a4, c4, rfl⟩ := h.cost.slice
  clear h00 hb00
  have hcap : g.to.length ≤ c2 := hcp
  have hlen := hok.len
  have hn0 := hok.n0
  have hn1 := hok.n1
  obtain rfl := ha1 (by omega)
  have m1 := start_le hok 0 c (by omega) (by omega)
  have m2 := start_le hok c (c + 1) (by omega) (by omega)
  have m3 := start_le hok (c + 1) g.n.toNat (by omega) (by omega)
  have htos := hok.tos
  have hmost := hok.most
  rw [hok.first] at m1
  have f0 := hc1 c (by omega)
  have f1 := hc1 (c + 1) (by omega)
  obtain ⟨s, hs⟩ : ∃ s : Nat, g.start.getD c 0 = s := ⟨(g.start.getD c 0).toNat, by omega⟩
  obtain ⟨t, ht⟩ : ∃ t : Nat, g.start.getD (c + 1) 0 = t := ⟨(g.start.getD (c + 1) 0).toNat, by omega⟩
  rw [hs] at f0 m1 m2
  rw [ht] at f1 m2 m3
  have hst : s ≤ t := by omega
  have htl : t ≤ g.to.length := by omega
  have HNX : Hid (nxt g c = (List.range (t - s)).map fun j => g.to.getD (s + j) 0) := by show _ = _; unfold nxt; rw [hs, ht, Int.toNat_natCast, Int.toNat_natCast]
  have hsti : (s : Int) ≤ (t : Int) := by omega
  have htci : (t : Int) ≤ (c2 : Int) := by omega
  have hcl : (c : Int) < (g.start.length : Int) := by omega
  have hcl1 : (c : Int) + 1 < (g.start.length : Int) := by omega
  have hwc : IntKind.i64.wrap ((c : Int) + 1) = (c : Int) + 1 := by rw [IntKind.wrap_i64]; omega
  obtain ⟨W0, hW0⟩ : ∃ W, w.alloc (.cells #[.int .i64 g.n, .slice (some ⟨b1, o1, none⟩) g.start.length c1, .slice a2 g.to.length c2, .slice a3 g.dir.length c3, .slice a4 g.cost.length c4] 29) = W := ⟨_, rfl⟩
  have hB0 : Below w.heap.size w W0 := by rw [← hW0]; exact (Below.refl _ _).alloc (Nat.le_refl _) _
  have hA0 : Blk W0 w.heap.size 29 #[.int .i64 g.n, .slice (some ⟨b1, o1, none⟩) g.start.length c1, .slice a2 g.to.length c2, .slice a3 g.dir.length c3, .slice a4 g.cost.length c4] := by rw [← hW0]; exact Blk.new _ _ _
  have z1 := hA0.cell 1
  have z2 := hA0.cell 2
  simp only [List.getElem?_toArray, List.getElem?_cons_succ, List.getElem?_cons_zero] at z1 z2
  have e0 := cell_kept f0 hB0
  have e1 := cell_kept f1 hB0
  have HB0 := hide hB0
  unfold gragg
  by_cases q : s < t
  · obtain rfl := ha2 (by omega)
    have HIS : Hid (IS w00 (.slice (some ⟨b2, o2 + s, none⟩) (t - s) (c2 - s)) (nxt g c)) := by
      rw [HNX.out]
      refine ⟨_, b2, o2 + s, c2 - s, by simp, fun _ => rfl, fun j hj => ?_⟩
      have hj' : j < t - s := by simpa using hj
      rw [Nat.add_assoc, hc2 (s + j) (by omega)]
      simp [List.getD, hj']
    have k1 : s < c2 := by omega
    have k2 : (s : Int) < (c2 : Int) := by omega
    have k3 : ¬ s = c2 := by omega
    have k4 : ¬ c2 = s := by omega
    clear hB0 hA0 hc1 hc2 h hok hlen hn0 hn1 m1 m2 m3 htos hmost hs ht f0 f1 q
    go_enter Try.func25, Try.ntmps25
    go_wp2_with fail
    clear hW0
    go_quiet (fail)
    go_wp2
    go_ret
    exact ⟨_, rfl, HIS.out, below_drewN HB0.out _⟩
  · have e : t = s := by omega
    subst e
    have HNIL : Hid (nxt g c = []) := by show _ = _; rw [HNX.out, Nat.sub_self]; rfl
    have k0 : t - t = 0 := Nat.sub_self _
    clear hB0 hA0 hc1 hc2 h hok hlen hn0 hn1 m1 m2 m3 htos hmost hs ht f0 f1 q
    by_cases k1 : t < c2
    · have k2 : (t : Int) < (c2 : Int) := by omega
      have k3 : ¬ t = c2 := by omega
      have k4 : ¬ c2 = t := by omega
      cases a2 with
      | none =>
        go_enter Try.func25, Try.ntmps25
        go_wp2_with fail
        clear hW0
        go_quiet (fail)
        go_wp2
        go_ret
        rw [HNIL.out]
        exact ⟨_, rfl, ⟨_, 0, 0, _, rfl, (fun h => absurd h (by decide)), fun j hj => absurd hj (Nat.not_lt_zero _)⟩, below_drewN HB0.out _⟩
      | some ad =>
        go_enter Try.func25, Try.ntmps25
        go_wp2_with fail
        clear hW0
        go_quiet (fail)
        go_wp2
        go_ret
        rw [HNIL.out]
        exact ⟨_, rfl, ⟨_, 0, 0, _, rfl, (fun h => absurd h (by decide)), fun j hj => absurd hj (Nat.not_lt_zero _)⟩, below_drewN HB0.out _⟩
    · have e : c2 = t := by omega
      subst e
      cases a2 with
      | none =>
        go_enter Try.func25, Try.ntmps25
        go_wp2_with fail
        clear hW0
        go_quiet (fail)
        go_wp2
        go_ret
        rw [HNIL.out]
        exact ⟨_, rfl, ⟨_, 0, 0, _, rfl, (fun h => absurd h (by decide)), fun j hj => absurd hj (Nat.not_lt_zero _)⟩, below_drewN HB0.out _⟩
      | some ad =>
        go_enter Try.func25, Try.ntmps25
        go_wp2_with fail
        clear hW0
        go_quiet (fail)
        go_wp2
        go_ret
        rw [HNIL.out]
        exact ⟨_, rfl, ⟨_, 0, 0, _, rfl, (fun h => absurd h (by decide)), fun j hj => absurd hj (Nat.not_lt_zero _)⟩, below_drewN HB0.out _⟩
/-- A next cell is an edge's end. -/
theorem nxt_ed {g : Gr} (h : GrOk g) {c : Nat} (hc : c < g.n.toNat) {y : Int} (hy : y ∈ nxt g c) : ∃ e ∈ eds g, e.f = (c : Int) ∧ e.t = y := by
  unfold nxt at hy
  obtain ⟨j, hj, rfl⟩ := List.mem_map.1 hy
  have hj := List.mem_range.1 hj
  have m1 := start_le h 0 c (by omega) (by omega)
  have m3 := start_le h (c + 1) g.n.toNat (by omega) (by omega)
  have htos := h.tos
  rw [h.first] at m1
  refine ⟨edAt g ((g.start.getD c 0).toNat + j), ?_, ?_, rfl⟩
  · unfold eds edsTo
    exact List.mem_map.2 ⟨_, List.mem_range.2 (by omega), rfl⟩
  · show ((srcUp g ((g.start.getD c 0).toNat + j) (g.n.toNat - 1) : Nat) : Int) = c
    rw [edAt_src h hc (by omega) (by omega)]
theorem seg_ex {g : Gr} (h : GrOk g) {i : Nat} : ∀ k, k ≤ g.n.toNat → (i : Int) < g.start.getD k 0 → ∃ c, c < k ∧ g.start.getD c 0 ≤ (i : Int) ∧ (i : Int) < g.start.getD (c + 1) 0
  | 0, _, hi => by rw [h.first] at hi; omega
  | k + 1, hk, hi => by
    by_cases q : (i : Int) < g.start.getD k 0
    · obtain ⟨c, h1, h2⟩ := seg_ex h k (by omega) q
      exact ⟨c, by omega, h2⟩
    · exact ⟨k, by omega, by omega, hi⟩
/-- An edge's end is a next cell. -/
theorem ed_nxt {g : Gr} (h : GrOk g) {e : Ed} (he : e ∈ eds g) : e.t ∈ nxt g e.f.toNat := by
  unfold eds edsTo at he
  obtain ⟨i, hi, rfl⟩ := List.mem_map.1 he
  have hi := List.mem_range.1 hi
  have htos := h.tos
  obtain ⟨c, h1, h2, h3⟩ := seg_ex h (i := i) g.n.toNat (Nat.le_refl _) (by omega)
  have m1 := start_le h 0 c (by omega) (by omega)
  rw [h.first] at m1
  have hf : (edAt g i).f.toNat = c := by
    show ((srcUp g i (g.n.toNat - 1) : Nat) : Int).toNat = c
    rw [edAt_src h h1 h2 h3, Int.toNat_natCast]
  rw [hf]
  unfold nxt
  refine List.mem_map.2 ⟨i - (g.start.getD c 0).toNat, List.mem_range.2 (by omega), ?_⟩
  show g.to.getD ((g.start.getD c 0).toNat + (i - (g.start.getD c 0).toNat)) 0 = g.to.getD i 0
  rw [show (g.start.getD c 0).toNat + (i - (g.start.getD c 0).toNat) = i from by omega]
theorem getD_mem {L : List Int} {j : Nat} (hj : j < L.length) : L.getD j 0 ∈ L := by
  rw [List.getD_eq_getElem?_getD, List.getElem?_eq_getElem hj]
  exact List.getElem_mem hj
end Go.Proofs.Ytonhehndoifipab

/-
  The walk of SortStableFunc.
  The walks of slices.Collect and slices.SortedStableFunc, at edges.
-/
import Derived.Test.YtplbbfloebhjjaaJRvSRZ
import Derived.Test.YtplbbfloebhjjaaJRvIAS
namespace Go.Proofs.Ytplbbfloebhjjaa
open Go.RowKit

set_option maxHeartbeats 2000000 in
set_option maxRecDepth 1000000 in
theorem sortStable_any (v : Value) (D : Nat) (S : List Ed) (w : World) (hn : S.length ≤ 1048576) (h : EdR w D v S) :
    Calls Try.prog 41 #[v, cfV] w fun e w' => e = .returned (.tuple #[]) ∧ StbP w w' D v S := by
  have HST := hide (stable_any v D S w hn h)
  generalize cfV = cf at HST ⊢
  obtain ⟨a0, c0, hv, -⟩ := h.slc
  subst hv
  obtain ⟨N, hN⟩ : ∃ N, S.length = N := ⟨_, rfl⟩
  rw [hN] at HST ⊢
  clear h hN hn
  go_enter Try.func41, Try.ntmps41
  go_wp2_with fail
  refine HST.out.mono ?_
  rintro e w2 ⟨rfl, hP⟩
  have HP := hide hP
  clear hP
  go_wp2
  go_end0
  exact ⟨rfl, HP.out⟩
end Go.Proofs.Ytplbbfloebhjjaa

namespace Go.Proofs.Ytplbbfloebhjjaa
open Go.RowKit

theorem ed_of_own {w : World} {B : Nat} {v : Value} {L : List Ed} (h : EiOw w B v L) : ∃ D, B ≤ D ∧ EdR w D v L := by
  rcases h.2 with ⟨h1, h0⟩ | ⟨g, c, cur, h1, hb, hg, hn, _, hcz, ht⟩
  · exact ⟨B, Nat.le_refl _, ⟨none, 0, by rw [h1, h0], fun h => absurd h (by omega)⟩, fun h => absurd h (by omega), fun j hj => absurd hj (by omega)⟩
  · refine ⟨g, hb, ⟨_, c, h1, fun _ => rfl⟩, fun _ => ⟨cur, hg, ?_⟩, fun j hj => ?_⟩
    · rw [hcz]; exact Nat.mul_le_mul_right _ hn
    · have hp : L[j]? = some (L.getD j .nul) := by rw [List.getD_eq_getElem?_getD, List.getElem?_eq_getElem hj]; rfl
      have key : ∀ i, i < 4 → w.cell? ⟨g, j * 4 + i, none⟩ = (edc (L.getD j .nul))[i]? := by
        intro i hi
        rw [← edcs_at L j _ hp i hi, ← ht]
        have hlt : j * 4 + i < L.length * 4 := by
          have : (j + 1) * 4 ≤ L.length * 4 := Nat.mul_le_mul_right _ hj
          omega
        rw [List.getElem?_take, if_pos hlt, Array.getElem?_toList]
        simp [World.cell?, hg]
      exact ⟨key 0 (by omega), key 1 (by omega), key 2 (by omega), key 3 (by omega)⟩

set_option maxRecDepth 1000000 in
set_option maxHeartbeats 1000000 in
theorem collect_any (B1 D c : Nat) (S : List Ed) (a : Option Addr) (hm : S.length ≤ 1048576) (ha : 0 < S.length → a = some ⟨D, 0, none⟩) (w : World) (hD : D < w.heap.size)
    (hB1 : w.cell? ⟨B1, 0, none⟩ = some (.slice a S.length c)) (hE : ∀ j, j < S.length → EdC w D (j * 4) (S.getD j .nul)) :
    Calls Try.prog 40 #[.func (.func 42) #[] #[.pointer (some ⟨B1, 0, none⟩)]] w fun e w' => ∃ v, e = .returned v ∧ EiOw w' w.heap.size v S ∧ Below w.heap.size w w' := by
  have HAS := hide (appendSeq_any B1 D c S a hm ha w hD hB1 hE)
  clear hm ha hD hB1 hE
  go_enter Try.func40, Try.ntmps40
  go_wp2_with fail
  refine HAS.out.mono ?_
  rintro e w2 ⟨v, rfl, h1, h2⟩
  have H1 := hide h1
  have H2 := hide h2
  obtain ⟨a2, c2, rfl⟩ := own_slc h1
  clear h1 h2
  go_wp2
  go_ret
  exact ⟨_, rfl, H1.out, H2.out⟩

set_option maxRecDepth 1000000 in
set_option maxHeartbeats 1000000 in
theorem sortedStable_any (B1 D c : Nat) (S : List Ed) (a : Option Addr) (hm : S.length ≤ 1048576) (ha : 0 < S.length → a = some ⟨D, 0, none⟩) (w : World) (hD : D < w.heap.size)
    (hB1 : w.cell? ⟨B1, 0, none⟩ = some (.slice a S.length c)) (hE : ∀ j, j < S.length → EdC w D (j * 4) (S.getD j .nul)) :
    Calls Try.prog 29 #[.func (.func 42) #[] #[.pointer (some ⟨B1, 0, none⟩)], cfV] w fun e w' => ∃ v C g, e = .returned v ∧ Stb S C ∧ w.heap.size ≤ g ∧ EdR w' g v C ∧ Below w.heap.size w w' := by
  have HCO := hide (collect_any B1 D c S a hm ha w hD hB1 hE)
  have HSO := hide (fun v D w' h => sortStable_any v D S w' hm h)
  generalize cfV = cf at HSO ⊢
  clear hm ha hD hB1 hE
  go_enter Try.func29, Try.ntmps29
  go_wp2_with fail
  refine HCO.out.mono ?_
  rintro e w2 ⟨v, rfl, h1, h2⟩
  obtain ⟨g, hg, h3⟩ := ed_of_own h1
  have HG := hide hg
  have H2 := hide h2
  have H3 := hide h3
  obtain ⟨a2, c2, rfl⟩ := own_slc h1
  clear h1 h2 h3 hg
  go_wp2_with fail
  refine (HSO.out _ g w2 H3.out).mono ?_
  rintro e w3 ⟨rfl, C, hC, hr, hw⟩
  have HP : Hid (Stb S C ∧ w.heap.size ≤ g ∧ EdR w3 g (.slice a2 S.length c2) C ∧ Below w.heap.size w w3) := by
    refine ⟨hC, HG.out, hr, ?_⟩
    have hb := H2.out
    exact hb.trans ⟨hw.os, hw.tape, hw.output, hw.size, fun k hk => hw.blk k (Nat.lt_of_lt_of_le hk hb.size) (by have := HG.out; simp; omega)⟩
  clear hC hr hw
  go_wp2
  go_ret
  exact ⟨_, C, g, rfl, HP.out⟩
end Go.Proofs.Ytplbbfloebhjjaa

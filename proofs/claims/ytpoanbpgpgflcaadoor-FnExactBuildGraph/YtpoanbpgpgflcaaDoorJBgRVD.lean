/-
  Plainly: the graph turned round.
  The walks of l4to, l4bits.
  Where a way leads lies in the grid.
-/
import Derived.Test.YtpoanbpgpgflcaaDoorJBgGOI
import Derived.Test.YtpoanbpgpgflcaaDoorJBgB0
namespace Go.Proofs.YtpoanbpgpgflcaaDoor
open Go.RowKit

/-- Its edges turned. -/
def rvS (g : Gr) : List Ed := (eds g).map Ed.turn
theorem eds_length (g : Gr) : (eds g).length = g.to.length := edsTo_length _ _
theorem rvS_length (g : Gr) : (rvS g).length = g.to.length := by unfold rvS; rw [List.length_map, eds_length]
open Classical in
/-- What Reverse answers. -/
noncomputable def rvF (g : Gr) : Gr := if GrOk g then grOf g.n.toNat (rvS g) else ⟨0, [], [], [], []⟩
open Classical in
noncomputable def rvC (g : Gr) : Int := if GrOk g then 0 else 1
theorem rvF_yes {g : Gr} (h : GrOk g) : rvF g = grOf g.n.toNat (rvS g) := by unfold rvF; rw [if_pos h]
theorem rvF_no {g : Gr} (h : ¬ GrOk g) : rvF g = ⟨0, [], [], [], []⟩ := by unfold rvF; rw [if_neg h]
theorem rvC_yes {g : Gr} (h : GrOk g) : rvC g = 0 := by unfold rvC; rw [if_pos h]
theorem rvC_no {g : Gr} (h : ¬ GrOk g) : rvC g = 1 := by unfold rvC; rw [if_neg h]
theorem srcUp_le (g : Gr) (e : Nat) : ∀ n, srcUp g e n ≤ n
  | 0 => Nat.le_refl _
  | n + 1 => by
    unfold srcUp
    split
    · exact Nat.le_refl _
    · have := srcUp_le g e n; omega
theorem GrOk.m {g : Gr} (h : GrOk g) : g.to.length ≤ 6400 := by have h1 := h.most; have h2 := h.tos; omega
theorem rvS_in {g : Gr} (h : GrOk g) : ∀ e ∈ rvS g, 0 ≤ e.f ∧ e.f < (g.n.toNat : Int) := by
  intro e he
  obtain ⟨x, hx, rfl⟩ := List.mem_map.1 he
  obtain ⟨k, hk, rfl⟩ := List.mem_map.1 hx
  have h1 := h.edges k (List.mem_range.1 hk)
  have h2 := h.n0
  show 0 ≤ g.to.getD k 0 ∧ g.to.getD k 0 < _
  have := h1.to0
  have := h1.to1
  omega
theorem grOf_b {n : Nat} {S : List Ed} (hn : n ≤ 1600) (hS : S.length ≤ 6400) : GrB (grOf n S) := by
  have h := (stA_le S n).2
  unfold stA at h
  refine ⟨?_, ?_, ?_, ?_⟩ <;> (unfold grOf; simp; omega)
theorem rvF_b (g : Gr) : GrB (rvF g) := by
  by_cases h : GrOk g
  · rw [rvF_yes h]
    have h1 := h.n1
    exact grOf_b (by omega) (by rw [rvS_length]; exact h.m)
  · rw [rvF_no h]
    exact ⟨by simp, by simp, by simp, by simp⟩
/-- The first k edges are turned. -/
def trn (L : List Ed) (k : Nat) : List Ed := L.mapIdx fun j e => if j < k then e.turn else e
theorem trn_length (L : List Ed) (k : Nat) : (trn L k).length = L.length := by unfold trn; simp
theorem trn_zero (L : List Ed) : trn L 0 = L := by
  unfold trn
  apply List.ext_getElem?
  intro j
  rw [List.getElem?_mapIdx]
  simp
theorem trn_done (L : List Ed) : trn L L.length = L.map Ed.turn := by
  unfold trn
  apply List.ext_getElem?
  intro j
  rw [List.getElem?_mapIdx, List.getElem?_map]
  by_cases h : j < L.length
  · simp [h]
  · rw [List.getElem?_eq_none (by omega)]; rfl
theorem trn_at {L : List Ed} {k : Nat} (h : k < L.length) : (trn L k).getD k .nul = L.getD k .nul := by
  unfold trn
  rw [List.getD_eq_getElem?_getD, List.getElem?_mapIdx, List.getD_eq_getElem?_getD, List.getElem?_eq_getElem h]
  simp
theorem trn_set {L : List Ed} {k : Nat} (h : k < L.length) : (trn L k).set k (L.getD k .nul).turn = trn L (k + 1) := by
  apply List.ext_getElem?
  intro j
  by_cases e : j = k
  · subst e
    rw [List.getElem?_set_self (by rw [trn_length]; exact h)]
    unfold trn
    rw [List.getElem?_mapIdx, List.getD_eq_getElem?_getD, List.getElem?_eq_getElem h]
    simp
  · rw [List.getElem?_set_ne (fun q => e q.symm)]
    unfold trn
    rw [List.getElem?_mapIdx, List.getElem?_mapIdx]
    by_cases h1 : j < k
    · simp [h1, show j < k + 1 by omega]
    · simp [h1, show ¬ j < k + 1 by omega]
/-- An edge is turned where it lies. -/
theorem EdR.turn {W : World} {D i : Nat} {v : Value} {L : List Ed} (h : EdR W D v L) (hi : i < L.length) : EdR ((W.setCell ⟨D, i * 4, none⟩ (.int .i64 (L.getD i .nul).t)).setCell ⟨D, i * 4 + 1, none⟩ (.int .i64 (L.getD i .nul).f)) D v (L.set i (L.getD i .nul).turn) := by
  have hc := h.each i hi
  refine ⟨?_, fun _ => ?_, fun j hj => ?_⟩
  · obtain ⟨a, c, h1, h2⟩ := h.slc
    exact ⟨a, c, by rw [List.length_set]; exact h1, by rw [List.length_set]; exact h2⟩
  · obtain ⟨cur, h1, h2⟩ := h.blk (by omega)
    exact ⟨_, (h1.set _ _).set _ _, by rw [List.length_set]; simpa using h2⟩
  · rw [List.length_set] at hj
    have ne : ∀ p q : Nat, p ≠ q → (⟨D, p, none⟩ : Addr) ≠ ⟨D, q, none⟩ := fun p q h e => by injection e with _ e _; exact h e
    by_cases q : j = i
    · subst q
      rw [ed_set_eq hj]
      refine ⟨?_, ?_, ?_, ?_⟩
      · rw [World.cell?_setCell_other _ _ _ _ (ne _ _ (by omega))]
        exact World.cell?_setCell_same _ _ _ hc.f
      · exact World.cell?_setCell_same _ _ _ ((World.cell?_setCell_other _ _ _ _ (ne _ _ (by omega))).trans hc.t)
      · rw [World.cell?_setCell_other _ _ _ _ (ne _ _ (by omega)), World.cell?_setCell_other _ _ _ _ (ne _ _ (by omega))]
        exact hc.d
      · rw [World.cell?_setCell_other _ _ _ _ (ne _ _ (by omega)), World.cell?_setCell_other _ _ _ _ (ne _ _ (by omega))]
        exact hc.c
    · rw [ed_set_ne (fun x => q x.symm)]
      exact (h.each j hj).of_ne fun k hk => by
        rw [World.cell?_setCell_other _ _ _ _ (ne _ _ (by omega)), World.cell?_setCell_other _ _ _ _ (ne _ _ (by omega))]
theorem EdR.addr {W : World} {D : Nat} {a : Option Addr} {n c : Nat} {L : List Ed} (h : EdR W D (.slice a n c) L) (h0 : 0 < L.length) : a = some ⟨D, 0, none⟩ := by
  obtain ⟨a', c', h2, h3⟩ := h.slc
  injection h2 with h4 _ _
  exact h4.trans (h3 h0)
/-- Such a row as graphOf takes it. -/
theorem EdR.give {W : World} {D : Nat} {a : Option Addr} {n c : Nat} {L : List Ed} (h : EdR W D (.slice a n c) L) (h0 : 0 < W.heap.size) : ∃ D', D' < W.heap.size ∧ (0 < L.length → a = some ⟨D', 0, none⟩) ∧ ∀ j, j < L.length → EdC W D' (j * 4) (L.getD j .nul) := by
  by_cases hL : 0 < L.length
  · obtain ⟨cur, h1, _⟩ := h.blk hL
    obtain ⟨a', c', h2, h3⟩ := h.slc
    injection h2 with h4 _ _
    exact ⟨D, h1.lt, fun q => h4.trans (h3 q), h.each⟩
  · exact ⟨0, h0, fun q => absurd q hL, fun j hj => absurd hj (by omega)⟩
end Go.Proofs.YtpoanbpgpgflcaaDoor

namespace Go.Proofs.YtpoanbpgpgflcaaDoor
open Go.RowKit

/-- The cell to which a way leads, or -1 (l4to). -/
def toC (w h c : Int) (d : Nat) : Int :=
  if d = 0 then (if c / w - 1 < 0 then -1 else (c / w - 1) * w + c % w)
  else if d = 1 then (if w ≤ c % w + 1 then -1 else c / w * w + (c % w + 1))
  else if d = 2 then (if h ≤ c / w + 1 then -1 else (c / w + 1) * w + c % w)
  else (if c % w - 1 < 0 then -1 else c / w * w + (c % w - 1))

theorem toC_div {w h c : Int} (hw : 1 ≤ w) (hc0 : 0 ≤ c) (hc : c < w * h) : 0 ≤ c / w ∧ c / w < h ∧ 0 ≤ c % w ∧ c % w < w := by
  refine ⟨Int.ediv_nonneg hc0 (by omega), Int.ediv_lt_of_lt_mul (by omega) (by rw [Int.mul_comm]; exact hc), Int.emod_nonneg _ (by omega), Int.emod_lt_of_pos _ (by omega)⟩

set_option maxHeartbeats 1000000 in
set_option maxRecDepth 1000000 in
theorem l4to_any (W H c : Int) (d : Nat) (w : World) (hw0 : 1 ≤ W) (hw1 : W ≤ 40) (hh0 : 1 ≤ H) (hh1 : H ≤ 40) (hc0 : 0 ≤ c) (hc1 : c < W * H) (hd : d < 4) :
    Calls Tryd.prog 17 #[.int .i64 W, .int .i64 H, .int .i64 c, .int .i64 d] w fun e w' => e = .returned (.int .i64 (toC W H c d)) ∧ w' = w := by
  obtain ⟨hy0, hy1, hx0, hx1⟩ := toC_div hw0 hc0 hc1
  have hdm : c.tdiv W = c / W := Int.tdiv_eq_ediv_of_nonneg hc0
  have hmm : c.tmod W = c % W := Int.tmod_eq_emod_of_nonneg hc0
  have hWne : (W == 0) = false := by rw [beq_eq_false_iff_ne]; omega
  have hcb : c ≤ 1600 := by
    have : W * H ≤ 40 * 40 := Int.mul_le_mul hw1 hh1 (by omega) (by omega)
    omega
  obtain ⟨x, hx⟩ : ∃ x, c % W = x := ⟨_, rfl⟩
  obtain ⟨y, hy⟩ : ∃ y, c / W = y := ⟨_, rfl⟩
  have HT : Hid (toC W H c d = if d = 0 then (if y - 1 < 0 then -1 else (y - 1) * W + x) else if d = 1 then (if W ≤ x + 1 then -1 else y * W + (x + 1)) else if d = 2 then (if H ≤ y + 1 then -1 else (y + 1) * W + x) else (if x - 1 < 0 then -1 else y * W + (x - 1))) := by
    show _ = _; unfold toC; rw [hx, hy]
  have hy1' : y < H := by rw [← hy]; exact hy1
  have hy0' : 0 ≤ y := by rw [← hy]; exact hy0
  have hx1' : x < W := by rw [← hx]; exact hx1
  have hx0' : 0 ≤ x := by rw [← hx]; exact hx0
  have hyW : ∀ z, 0 ≤ z → z ≤ 40 → 0 ≤ z * W ∧ z * W ≤ 1600 := fun z h0 h1 => ⟨Int.mul_nonneg h0 (by omega), by
    have := Int.mul_le_mul h1 hw1 (by omega) (by omega); omega⟩
  have HYW := hide hyW
  rw [hx] at hmm
  rw [hy] at hdm
  clear hyW hx hy hy0 hy1 hx0 hx1
  have hd4 : d = 0 ∨ d = 1 ∨ d = 2 ∨ d = 3 := by omega
  have u1 : decide (x < 0) = false := decide_eq_false (by omega)
  have u2 : decide (W ≤ x) = false := decide_eq_false (by omega)
  have u3 : decide (y < 0) = false := decide_eq_false (by omega)
  have u4 : decide (H ≤ y) = false := decide_eq_false (by omega)
  rcases hd4 with rfl | rfl | rfl | rfl
  · have HT2 : Hid (toC W H c 0 = if y - 1 < 0 then -1 else (y - 1) * W + x) := HT.out
    by_cases r : y - 1 < 0
    · have v1 : decide (y - 1 < 0) = true := decide_eq_true r
      have HT3 : Hid (toC W H c 0 = -1) := by show _ = _; rw [HT2.out, if_pos r]
      go_enter Tryd.func17, Tryd.ntmps17
      go_wp2
      go_ret
      exact ⟨by rw [HT3.out]; rfl, rfl⟩
    · have v1 : decide (y - 1 < 0) = false := decide_eq_false r
      have v2 : decide (H ≤ y - 1) = false := decide_eq_false (by omega)
      have HT3 : Hid (toC W H c 0 = (y - 1) * W + x) := by show _ = _; rw [HT2.out, if_neg r]
      obtain ⟨p0, p1⟩ := HYW.out (y - 1) (by omega) (by omega)
      go_enter Tryd.func17, Tryd.ntmps17
      go_wp2
      go_ret
      exact ⟨by rw [HT3.out]; rfl, rfl⟩
  · have HT2 : Hid (toC W H c 1 = if W ≤ x + 1 then -1 else y * W + (x + 1)) := HT.out
    have u5 : decide (x + 1 < 0) = false := decide_eq_false (by omega)
    by_cases r : W ≤ x + 1
    · have v1 : decide (W ≤ x + 1) = true := decide_eq_true r
      have HT3 : Hid (toC W H c 1 = -1) := by show _ = _; rw [HT2.out, if_pos r]
      go_enter Tryd.func17, Tryd.ntmps17
      go_wp2
      go_ret
      exact ⟨by rw [HT3.out]; rfl, rfl⟩
    · have v1 : decide (W ≤ x + 1) = false := decide_eq_false r
      have HT3 : Hid (toC W H c 1 = y * W + (x + 1)) := by show _ = _; rw [HT2.out, if_neg r]
      obtain ⟨p0, p1⟩ := HYW.out y (by omega) (by omega)
      go_enter Tryd.func17, Tryd.ntmps17
      go_wp2
      go_ret
      exact ⟨by rw [HT3.out]; rfl, rfl⟩
  · have HT2 : Hid (toC W H c 2 = if H ≤ y + 1 then -1 else (y + 1) * W + x) := HT.out
    have u5 : decide (y + 1 < 0) = false := decide_eq_false (by omega)
    by_cases r : H ≤ y + 1
    · have v1 : decide (H ≤ y + 1) = true := decide_eq_true r
      have HT3 : Hid (toC W H c 2 = -1) := by show _ = _; rw [HT2.out, if_pos r]
      go_enter Tryd.func17, Tryd.ntmps17
      go_wp2
      go_ret
      exact ⟨by rw [HT3.out]; rfl, rfl⟩
    · have v1 : decide (H ≤ y + 1) = false := decide_eq_false r
      have HT3 : Hid (toC W H c 2 = (y + 1) * W + x) := by show _ = _; rw [HT2.out, if_neg r]
      obtain ⟨p0, p1⟩ := HYW.out (y + 1) (by omega) (by omega)
      go_enter Tryd.func17, Tryd.ntmps17
      go_wp2
      go_ret
      exact ⟨by rw [HT3.out]; rfl, rfl⟩
  · have HT2 : Hid (toC W H c 3 = if x - 1 < 0 then -1 else y * W + (x - 1)) := HT.out
    have u5 : decide (W ≤ x - 1) = false := decide_eq_false (by omega)
    by_cases r : x - 1 < 0
    · have v1 : decide (x - 1 < 0) = true := decide_eq_true r
      have HT3 : Hid (toC W H c 3 = -1) := by show _ = _; rw [HT2.out, if_pos r]
      go_enter Tryd.func17, Tryd.ntmps17
      go_wp2
      go_ret
      exact ⟨by rw [HT3.out]; rfl, rfl⟩
    · have v1 : decide (x - 1 < 0) = false := decide_eq_false r
      have HT3 : Hid (toC W H c 3 = y * W + (x - 1)) := by show _ = _; rw [HT2.out, if_neg r]
      obtain ⟨p0, p1⟩ := HYW.out y (by omega) (by omega)
      go_enter Tryd.func17, Tryd.ntmps17
      go_wp2
      go_ret
      exact ⟨by rw [HT3.out]; rfl, rfl⟩
end Go.Proofs.YtpoanbpgpgflcaaDoor

namespace Go.Proofs.YtpoanbpgpgflcaaDoor
open Go.RowKit

theorem toC_lt {w h c : Int} (hw : 1 ≤ w) (hc0 : 0 ≤ c) (hc : c < w * h) (d : Nat) : toC w h c d < w * h := by
  obtain ⟨h1, h2, h3, h4⟩ := toC_div hw hc0 hc
  have e : c = w * (c / w) + c % w := (Int.mul_ediv_add_emod c w).symm
  have hp : 0 < w * h := by omega
  generalize c / w = y at *
  generalize c % w = x at *
  have ew : w * y = y * w := Int.mul_comm _ _
  have eh : w * h = h * w := Int.mul_comm _ _
  have m1 : (y + 1) * w ≤ h * w := Int.mul_le_mul_of_nonneg_right (by omega) (by omega)
  have e1 : (y + 1) * w = y * w + w := by rw [Int.add_mul, Int.one_mul]
  have e2 : (y - 1) * w = y * w - w := by rw [Int.sub_mul, Int.one_mul]
  have key : toC w h c d = (if d = 0 then (if y - 1 < 0 then -1 else (y - 1) * w + x) else if d = 1 then (if w ≤ x + 1 then -1 else y * w + (x + 1)) else if d = 2 then (if h ≤ y + 1 then -1 else (y + 1) * w + x) else (if x - 1 < 0 then -1 else y * w + (x - 1))) := by
    have ey : c / w = y := by rw [e, Int.add_comm, Int.add_mul_ediv_left _ _ (by omega), Int.ediv_eq_zero_of_lt h3 h4, Int.zero_add]
    have ex : c % w = x := by rw [e, Int.add_comm, Int.add_mul_emod_self_left, Int.emod_eq_of_lt h3 h4]
    unfold toC; rw [ey, ex]
  rw [key]
  split
  · split <;> omega
  · split
    · split <;> omega
    · split
      · split
        · omega
        · have m2 : (y + 1 + 1) * w ≤ h * w := Int.mul_le_mul_of_nonneg_right (by omega) (by omega)
          have e3 : (y + 1 + 1) * w = y * w + w + w := by rw [Int.add_mul, Int.one_mul, e1]
          omega
      · split <;> omega
end Go.Proofs.YtpoanbpgpgflcaaDoor

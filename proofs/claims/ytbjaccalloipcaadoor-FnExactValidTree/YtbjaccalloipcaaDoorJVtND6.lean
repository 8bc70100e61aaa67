/-
  The walks of szByteS, szIntS, szByteSS, szNode, szNodeS.
-/
import Derived.Test.YtbjaccalloipcaaDoorJVtND4
import Derived.Test.YtbjaccalloipcaaDoorJVtVG1
import Derived.Test.YtbjaccalloipcaaDoorJVtVG1
namespace Go.Proofs.YtbjaccalloipcaaDoor
open Go.RowKit

/-- What is left of a measure behind n. -/
def szf : List ByteArray → Int → Int
  | [], l => l
  | s :: r, l => if szl s.size l < 0 then -1 else szf r (szl s.size l)
def szs (L : List ByteArray) (left : Int) : Int := if szl L.length left < 0 then -1 else szf L (szl L.length left)
def szn (d : Nd) (left : Int) : Int :=
  if szl d.text.size left < 0 then -1 else if szs d.names (szl d.text.size left) < 0 then -1 else if szl d.types.length (szs d.names (szl d.text.size left)) < 0 then -1 else szl d.types.length (szs d.names (szl d.text.size left))
def szg : List Nd → Int → Int
  | [], l => l
  | d :: r, l => if szn d l < 0 then -1 else szg r (szn d l)
def szt (L : List Nd) (left : Int) : Int := if szl L.length left < 0 then -1 else szg L (szl L.length left)

theorem szf_le : ∀ (L : List ByteArray) (left : Int), 0 ≤ left → -1 ≤ szf L left ∧ szf L left ≤ left ∧ (0 ≤ szf L left → ∀ j, j < L.length → ((L.getD j .empty).size : Int) ≤ left)
  | [], left, h => ⟨by simp only [szf]; omega, by simp only [szf]; omega, fun _ j hj => absurd hj (Nat.not_lt_zero _)⟩
  | s :: r, left, h => by
    obtain ⟨h1, h2, h3⟩ := szl_le s.size left h
    rw [szf]
    by_cases c : szl s.size left < 0
    · rw [if_pos c]; exact ⟨by omega, by omega, fun g => absurd g (by omega)⟩
    · rw [if_neg c]
      obtain ⟨h4, h5, h6⟩ := szf_le r (szl s.size left) (by omega)
      refine ⟨h4, by omega, fun g j hj => ?_⟩
      cases j with
      | zero => exact h3 (by omega)
      | succ j =>
        have := h6 g j (by simpa using hj)
        show ((r.getD j .empty).size : Int) ≤ left
        omega
theorem szs_le (L : List ByteArray) (left : Int) (h : 0 ≤ left) : -1 ≤ szs L left ∧ szs L left ≤ left ∧ (0 ≤ szs L left → (L.length : Int) ≤ left ∧ ∀ j, j < L.length → ((L.getD j .empty).size : Int) ≤ left) := by
  obtain ⟨h1, h2, h3⟩ := szl_le L.length left h
  unfold szs
  by_cases c : szl L.length left < 0
  · rw [if_pos c]; exact ⟨by omega, by omega, fun g => absurd g (by omega)⟩
  · rw [if_neg c]
    obtain ⟨h4, h5, h6⟩ := szf_le L (szl L.length left) (by omega)
    exact ⟨h4, by omega, fun g => ⟨h3 (by omega), fun j hj => by have := h6 g j hj; omega⟩⟩
theorem szn_le (d : Nd) (left : Int) (h : 0 ≤ left) (hl : left ≤ 1048576) : -1 ≤ szn d left ∧ szn d left ≤ left ∧ (0 ≤ szn d left → NB d) := by
  obtain ⟨h1, h2, h3⟩ := szl_le d.text.size left h
  unfold szn
  by_cases c : szl d.text.size left < 0
  · rw [if_pos c]; exact ⟨by omega, by omega, fun g => absurd g (by omega)⟩
  rw [if_neg c]
  obtain ⟨h4, h5, h6⟩ := szs_le d.names (szl d.text.size left) (by omega)
  by_cases c2 : szs d.names (szl d.text.size left) < 0
  · rw [if_pos c2]; exact ⟨by omega, by omega, fun g => absurd g (by omega)⟩
  rw [if_neg c2]
  obtain ⟨h7, h8, h9⟩ := szl_le d.types.length (szs d.names (szl d.text.size left)) (by omega)
  by_cases c3 : szl d.types.length (szs d.names (szl d.text.size left)) < 0
  · rw [if_pos c3]; exact ⟨by omega, by omega, fun g => absurd g (by omega)⟩
  rw [if_neg c3]
  refine ⟨h7, by omega, fun g => ⟨by have := h3 (by omega); omega, by have := (h6 (by omega)).1; omega, fun j hj => by have := (h6 (by omega)).2 j hj; omega, by have := h9 (by omega); omega⟩⟩
theorem szg_le : ∀ (L : List Nd) (left : Int), 0 ≤ left → left ≤ 1048576 → -1 ≤ szg L left ∧ szg L left ≤ left ∧ (0 ≤ szg L left → ∀ j, j < L.length → NB (L.getD j .zero))
  | [], left, h, _ => ⟨by simp only [szg]; omega, by simp only [szg]; omega, fun _ j hj => absurd hj (Nat.not_lt_zero _)⟩
  | d :: r, left, h, hl => by
    obtain ⟨h1, h2, h3⟩ := szn_le d left h hl
    rw [szg]
    by_cases c : szn d left < 0
    · rw [if_pos c]; exact ⟨by omega, by omega, fun g => absurd g (by omega)⟩
    · rw [if_neg c]
      obtain ⟨h4, h5, h6⟩ := szg_le r (szn d left) (by omega) (by omega)
      refine ⟨h4, by omega, fun g j hj => ?_⟩
      cases j with
      | zero => exact h3 (by omega)
      | succ j => exact h6 g j (by simpa using hj)
theorem szt_le (L : List Nd) (left : Int) (h : 0 ≤ left) (hl : left ≤ 1048576) (h0 : 0 ≤ szt L left) : L.length ≤ 1048576 ∧ ∀ j, j < L.length → NB (L.getD j .zero) := by
  obtain ⟨h1, h2, h3⟩ := szl_le L.length left h
  unfold szt at h0
  by_cases c : szl L.length left < 0
  · rw [if_pos c] at h0; exact absurd h0 (by omega)
  · rw [if_neg c] at h0
    obtain ⟨_, _, h6⟩ := szg_le L (szl L.length left) (by omega) (by omega)
    exact ⟨by have := h3 (by omega); omega, h6 h0⟩


set_option maxHeartbeats 1000000 in
set_option maxRecDepth 1000000 in
theorem szSS_any (v : Value) (L : List ByteArray) (left : Int) (w : World) (h0 : 0 ≤ left) (hl : left ≤ 1048576) (hn : (L.length : Int) ≤ 9223372036854775807) (hz : ∀ j, j < L.length → ((L.getD j .empty).size : Int) ≤ 9223372036854775807) (h : SS w v L) :
    Calls Tryd.prog 16 #[v, .int .i64 left] w fun e w' => e = .returned (.int .i64 (szs L left)) ∧ w' = w := by
  obtain ⟨a, b, o, c, rfl, ha, hc⟩ := h
  have e1 : IntKind.i64.wrap (left - (L.length : Int)) = left - L.length := by rw [IntKind.wrap_i64]; omega
  have HC := hide hc
  have HZ := hide hz
  clear hc hz
  by_cases c1 : left - (L.length : Int) < 0
  · have HS : Hid (szs L left = -1) := by show _ = _; unfold szs szl; rw [if_pos c1, if_pos (by omega)]
    have d1 : decide (left - (L.length : Int) < 0) = true := decide_eq_true c1
    go_enter Tryd.func16, Tryd.ntmps16
    go_wp2
    go_ret
    exact ⟨by rw [HS.out]; rfl, by trivial⟩
  · have HS : Hid (szs L left = szf L (left - L.length)) := by show _ = _; unfold szs szl; rw [if_neg c1, if_neg c1]
    have d1 : decide (left - (L.length : Int) < 0) = false := decide_eq_false c1
    go_enter Tryd.func16, Tryd.ntmps16
    go_wp2
    go_loopw [1, 5] (fun lf ix wr => ∃ (k : Nat) (l : Int), k ≤ L.length ∧ lf = .int .i64 l ∧ ix = .int .i64 k ∧ 0 ≤ l ∧ l ≤ 1048576 ∧ szf (L.drop k) l = szf L (left - L.length) ∧ wr = w) (fun _ ix _ => L.length - (intOf ix).toNat)
    case atStart => exact ⟨0, left - L.length, Nat.zero_le _, rfl, rfl, by omega, by omega, rfl, rfl⟩
    case round =>
      obtain ⟨k, l, hk, rfl, rfl, hl0, hl1, hsz, rfl⟩ := hrel
      by_cases hlt : k < L.length
      · obtain rfl := ha (by omega)
        obtain ⟨x, hx, hxs⟩ := HC.out k hlt
        have hzk := HZ.out k hlt
        rw [drop_at L .empty k hlt, szf] at hsz
        obtain ⟨s, hs'⟩ : ∃ s, L.getD k .empty = s := ⟨_, rfl⟩
        rw [hs'] at hxs hzk hsz
        obtain ⟨ax, bx, ox, cx, rfl, _, _⟩ := hxs
        have HT := hide (szB_any ax s.size cx l wr hl0 hl1 hzk)
        obtain ⟨k1, k2, k3⟩ := szl_le s.size l hl0
        obtain ⟨r, hr⟩ : ∃ r, szl s.size l = r := ⟨_, rfl⟩
        rw [hr] at HT hsz k1 k2 k3
        have hlti : (k : Int) < (L.length : Int) := by omega
        have HSZ := hide hsz
        clear hs' hr hsz k3
        go_wp2_with fail
        refine HT.out.mono ?_
        rintro e w2 ⟨rfl, rfl⟩
        by_cases c2 : r < 0
        · have d2 : decide (r < 0) = true := decide_eq_true c2
          have HR : Hid (szf L (left - L.length) = -1) := by show _ = _; rw [← HSZ.out, if_pos c2]
          go_wp2
          go_ret
          exact ⟨by rw [HS.out, HR.out]; rfl, by trivial⟩
        · have d2 : decide (r < 0) = false := decide_eq_false c2
          have HR : Hid (szf (L.drop (k + 1)) r = szf L (left - L.length)) := by show _ = _; rw [← HSZ.out, if_neg c2]
          go_wp2
          go_roundw
          case rel => exact ⟨k + 1, r, by omega, rfl, by go_num, by omega, by omega, HR.out, by trivial⟩
          case measure => simp [intOf]; omega
      · have e : k = L.length := by omega
        have hge : ¬ (k : Int) < (L.length : Int) := by omega
        have HR : Hid (szf L (left - L.length) = l) := by show _ = _; rw [← hsz, e, List.drop_length, szf]
        clear hsz
        go_wp2
        go_ret
        exact ⟨by rw [HS.out, HR.out]; rfl, by trivial⟩

/-- A node's lists have lengths that an int holds. -/
structure NL (d : Nd) : Prop where
  text : (d.text.size : Int) ≤ 9223372036854775807
  names : (d.names.length : Int) ≤ 9223372036854775807
  each : ∀ j, j < d.names.length → ((d.names.getD j .empty).size : Int) ≤ 9223372036854775807
  types : (d.types.length : Int) ≤ 9223372036854775807

set_option maxHeartbeats 1000000 in
set_option maxRecDepth 1000000 in
theorem szN_any (d : Nd) (vt vn vy : Value) (left : Int) (w : World) (h0 : 0 ≤ left) (hl : left ≤ 1048576) (hd : NL d) (h : NV w d vt vn vy) :
    Calls Tryd.prog 9 #[nagg d vt vn vy, .int .i64 left] w fun e w' => e = .returned (.int .i64 (szn d left)) ∧ Below w.heap.size w w' := by
  obtain ⟨K, N, T, M, Y, C⟩ := d
  obtain ⟨q1, q2, q3, q4⟩ := hd
  obtain ⟨p1, p2, p3⟩ := h
  simp only at q1 q2 q3 q4 p1 p2 p3
  have HM : Hid (SS w vn M) := p2
  have HQ := hide q3
  unfold nagg
  simp only
  obtain ⟨at_, _, _, ct, rfl, _, _⟩ := p1
  obtain ⟨ay, _, _, cy, rfl, _, _⟩ := p3
  have hZ : szn ⟨K, N, T, M, Y, C⟩ left = if szl T.size left < 0 then -1 else if szs M (szl T.size left) < 0 then -1 else if szl Y.length (szs M (szl T.size left)) < 0 then -1 else szl Y.length (szs M (szl T.size left)) := rfl
  obtain ⟨k1, k2, _⟩ := szl_le T.size left h0
  have hT := fun w => szB_any at_ T.size ct left w h0 hl q1
  obtain ⟨r1, hr1⟩ : ∃ r, szl T.size left = r := ⟨_, rfl⟩
  rw [hr1] at hZ k1 k2
  simp only [hr1] at hT
  have HT := hide hT
  have HZ := hide hZ
  clear p2 q3 hZ hT hr1
  obtain ⟨W1, hW1⟩ : ∃ W1, w.alloc (.cells #[.int .i64 K, .int .i64 N, .slice at_ T.size ct, vn, .slice ay Y.length cy, .int .i64 C] 34) = W1 := ⟨_, rfl⟩
  have HB1 : Hid (Below w.heap.size w W1) := by rw [← hW1]; exact (Below.refl _ _).alloc (Nat.le_refl _) _
  have HM1 : Hid (SS W1 vn M) := HM.out.below HB1.out
  have cA3 : W1.cell? ⟨w.heap.size, 3, none⟩ = some vn := by rw [← hW1]; exact (Blk.new _ _ _).cell 3
  have cA4 : W1.cell? ⟨w.heap.size, 4, none⟩ = some (.slice ay Y.length cy) := by rw [← hW1]; exact (Blk.new _ _ _).cell 4
  have HW := hide hW1
  clear hW1
  go_enter Tryd.func9, Tryd.ntmps9
  go_wp2_with fail
  rw [HW.out]
  refine (HT.out _).mono ?_
  rintro e w2 ⟨rfl, hw2⟩
  rw [hw2]
  clear hw2
  by_cases c1 : r1 < 0
  · have d1 : decide (r1 < 0) = true := decide_eq_true c1
    have HR := hide (show szn ⟨K, N, T, M, Y, C⟩ left = -1 by rw [HZ.out, if_pos c1])
    go_wp2
    go_ret
    exact ⟨by rw [HR.out]; rfl, HB1.out⟩
  have d1 : decide (r1 < 0) = false := decide_eq_false c1
  obtain ⟨k3, k4, _⟩ := szs_le M r1 (by omega)
  have HS := hide (szSS_any vn M r1 W1 (by omega) (by omega) q2 HQ.out HM1.out)
  have HZ2 := hide (show szn ⟨K, N, T, M, Y, C⟩ left = _ by rw [HZ.out, if_neg c1])
  obtain ⟨r2, hr2⟩ : ∃ r, szs M r1 = r := ⟨_, rfl⟩
  rw [hr2] at k3 k4 HS HZ2
  clear hr2
  go_wp2_with fail
  refine HS.out.mono ?_
  rintro e w3 ⟨rfl, hw3⟩
  rw [hw3]
  clear hw3
  by_cases c2 : r2 < 0
  · have d2 : decide (r2 < 0) = true := decide_eq_true c2
    have HR := hide (show szn ⟨K, N, T, M, Y, C⟩ left = -1 by rw [HZ2.out, if_pos c2])
    go_wp2
    go_ret
    exact ⟨by rw [HR.out]; rfl, HB1.out⟩
  have d2 : decide (r2 < 0) = false := decide_eq_false c2
  have HY := hide (fun w => szI_any ay Y.length cy r2 w (by omega) (by omega) q4)
  have HZ3 := hide (show szn ⟨K, N, T, M, Y, C⟩ left = _ by rw [HZ2.out, if_neg c2])
  obtain ⟨k5, k6, _⟩ := szl_le Y.length r2 (by omega)
  obtain ⟨r3, hr3⟩ : ∃ r, szl Y.length r2 = r := ⟨_, rfl⟩
  simp only [hr3] at HY HZ3 k5 k6
  clear hr3
  go_wp2_with fail
  refine (HY.out _).mono ?_
  rintro e w4 ⟨rfl, hw4⟩
  rw [hw4]
  clear hw4
  by_cases c3 : r3 < 0
  · have d3 : decide (r3 < 0) = true := decide_eq_true c3
    have HR := hide (show szn ⟨K, N, T, M, Y, C⟩ left = -1 by rw [HZ3.out, if_pos c3])
    go_wp2
    go_ret
    exact ⟨by rw [HR.out]; rfl, HB1.out⟩
  · have d3 : decide (r3 < 0) = false := decide_eq_false c3
    have HR := hide (show szn ⟨K, N, T, M, Y, C⟩ left = r3 by rw [HZ3.out, if_neg c3])
    go_wp2
    go_ret
    exact ⟨by rw [HR.out]; rfl, HB1.out⟩
end Go.Proofs.YtbjaccalloipcaaDoor

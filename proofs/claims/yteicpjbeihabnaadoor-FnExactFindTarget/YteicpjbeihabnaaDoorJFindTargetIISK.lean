/-
  Lists of lists: what is walked of them.
  The walk of szByteS.
  Bytes: toByteS, szByteS in the words of all kinds.
-/
import Derived.Test.YteicpjbeihabnaaDoorJFindTargetIIS1
import Derived.Test.YteicpjbeihabnaaDoorJFindTargetIIS2
import Derived.Test.YteicpjbeihabnaaDoorJFindTargetIN0
import Derived.Test.YteicpjbeihabnaaDoorJFindTargetIB


namespace Go.Proofs.YteicpjbeihabnaaDoor
open Go.RowKit

set_option maxHeartbeats 400000 in
set_option maxRecDepth 1000000 in
theorem szB_any (a : Option Addr) (n c : Nat) (left : Int) (w : World) (h0 : 0 ≤ left) (hl : left ≤ 1048576) (hn : (n : Int) ≤ 9223372036854775807) :
    Calls Tryd.prog 81 #[.slice a n c, .int .i64 left] w fun e w' => e = .returned (.int .i64 (szl n left)) ∧ w' = w := by
  have e1 : IntKind.i64.wrap (left - (n : Int)) = left - n := by rw [IntKind.wrap_i64]; omega
  by_cases c1 : left - (n : Int) < 0
  · have HZ : Hid (szl n left = -1) := by show _ = _; unfold szl; rw [if_pos c1]
    have d1 : decide (left - (n : Int) < 0) = true := decide_eq_true c1
    go_enter Tryd.func81, Tryd.ntmps81
    go_wp2
    go_ret
    exact ⟨by rw [HZ.out]; rfl, by trivial⟩
  · have HZ : Hid (szl n left = left - n) := by show _ = _; unfold szl; rw [if_neg c1]
    have d1 : decide (left - (n : Int) < 0) = false := decide_eq_false c1
    go_enter Tryd.func81, Tryd.ntmps81
    go_wp2
    go_ret
    exact ⟨by rw [HZ.out]; first | rfl | exact ret_int (by omega), by trivial⟩

end Go.Proofs.YteicpjbeihabnaaDoor

namespace Go.Proofs.YteicpjbeihabnaaDoor
open Go.RowKit

theorem toB_cp {w : World} {v : Value} {s : ByteArray} (hs : s.size ≤ 1048576) (h : BS w v s) :
    Calls Tryd.prog 12 #[v] w fun e w' => ∃ v', e = .returned v' ∧ (∀ G, G < w.heap.size → BO w' G v' s) ∧ Below w.heap.size w w' :=
  (toB_bs hs h).mono fun e w' ⟨h1, h2, h3⟩ => ⟨_, h1, fun G hG => ⟨w.heap.size, hG, h2.lt, rfl, h2.frozen, fun j hj => by rw [Nat.zero_add]; exact h2.cell j hj⟩, h3⟩
theorem szB_r {w : World} {v : Value} {s : ByteArray} {left : Int} (h0 : 0 ≤ left) (hl : left ≤ 1048576) (hn : (s.size : Int) ≤ 9223372036854775807) (h : BS w v s) :
    Calls Tryd.prog 81 #[v, .int .i64 left] w fun e w' => ∃ r, e = .returned (.int .i64 r) ∧ -1 ≤ r ∧ r ≤ left ∧ (0 ≤ r → s.size ≤ 1048576) ∧ Below w.heap.size w w' := by
  obtain ⟨a, _, _, c, rfl, _, _⟩ := h
  obtain ⟨k1, k2, k3⟩ := szl_le s.size left h0
  exact (szB_any a s.size c left w h0 hl hn).mono fun e w' ⟨h1, h2⟩ => ⟨_, h1, k1, k2, fun h => by have := k3 h; omega, by rw [h2]; exact Below.refl _ _⟩
end Go.Proofs.YteicpjbeihabnaaDoor

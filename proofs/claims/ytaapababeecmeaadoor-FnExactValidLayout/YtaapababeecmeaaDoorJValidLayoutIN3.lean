/-
  The walk of szIntS.
  Numbers: toIntS, szIntS in the words of all kinds.
-/
import Derived.Test.YtaapababeecmeaaDoorJValidLayoutIN0
import Derived.Test.YtaapababeecmeaaDoorJValidLayoutIN1
import Derived.Test.YtaapababeecmeaaDoorJValidLayoutIN2
namespace Go.Proofs.YtaapababeecmeaaDoor
open Go.RowKit


set_option maxHeartbeats 400000 in
set_option maxRecDepth 1000000 in
theorem szI_any (a : Option Addr) (n c : Nat) (left : Int) (w : World) (h0 : 0 ≤ left) (hl : left ≤ 1048576) (hn : (n : Int) ≤ 9223372036854775807) :
    Calls Tryd.prog 22 #[.slice a n c, .int .i64 left] w fun e w' => e = .returned (.int .i64 (szl n left)) ∧ w' = w := by
  have e1 : IntKind.i64.wrap (left - (n : Int)) = left - n := by rw [IntKind.wrap_i64]; omega
  by_cases c1 : left - (n : Int) < 0
  · have HZ : Hid (szl n left = -1) := by show _ = _; unfold szl; rw [if_pos c1]
    have d1 : decide (left - (n : Int) < 0) = true := decide_eq_true c1
    go_enter Tryd.func22, Tryd.ntmps22
    go_wp2
    go_ret
    exact ⟨by rw [HZ.out]; rfl, by trivial⟩
  · have HZ : Hid (szl n left = left - n) := by show _ = _; unfold szl; rw [if_neg c1]
    have d1 : decide (left - (n : Int) < 0) = false := decide_eq_false c1
    go_enter Tryd.func22, Tryd.ntmps22
    go_wp2
    go_ret
    exact ⟨by rw [HZ.out]; first | rfl | exact ret_int (by omega), by trivial⟩

end Go.Proofs.YtaapababeecmeaaDoor

namespace Go.Proofs.YtaapababeecmeaaDoor
open Go.RowKit

theorem toI_cp {w : World} {v : Value} {l : List Int} (hs : l.length ≤ 1048576) (h : IS w v l) :
    Calls Tryd.prog 27 #[v] w fun e w' => ∃ v', e = .returned v' ∧ (∀ G, G < w.heap.size → ICp w' G v' l) ∧ Below w.heap.size w w' := toI_any v l w hs h
theorem szI_r {w : World} {v : Value} {l : List Int} {left : Int} (h0 : 0 ≤ left) (hl : left ≤ 1048576) (hn : (l.length : Int) ≤ 9223372036854775807) (h : IS w v l) :
    Calls Tryd.prog 22 #[v, .int .i64 left] w fun e w' => ∃ r, e = .returned (.int .i64 r) ∧ -1 ≤ r ∧ r ≤ left ∧ (0 ≤ r → l.length ≤ 1048576) ∧ Below w.heap.size w w' := by
  obtain ⟨a, _, _, c, rfl, _, _⟩ := h
  obtain ⟨k1, k2, k3⟩ := szl_le l.length left h0
  exact (szI_any a l.length c left w h0 hl hn).mono fun e w' ⟨h1, h2⟩ => ⟨_, h1, k1, k2, fun h => by have := k3 h; omega, by rw [h2]; exact Below.refl _ _⟩
theorem szI_l {w : World} {v : Value} {l : List Int} {left : Int} (h0 : 0 ≤ left) (hl : left ≤ 1048576) (hn : IL l) (h : IS w v l) :
    Calls Tryd.prog 22 #[v, .int .i64 left] w fun e w' => ∃ r, e = .returned (.int .i64 r) ∧ -1 ≤ r ∧ r ≤ left ∧ (0 ≤ r → l.length ≤ 1048576) ∧ Below w.heap.size w w' := szI_r h0 hl hn.len h
end Go.Proofs.YtaapababeecmeaaDoor

/-
  The walks of eqRobot, eqRobotS, where both read as the same.
  The walk of szRobotS.
-/
import Derived.Test.YteicpjbeihabnaaDoorJValidFleetRO0
import Derived.BigQuiet
import Derived.Deep.QuietTactic
import Derived.Deep.RegionWith
namespace Go.Proofs.YteicpjbeihabnaaDoor
open Go.RowKit

set_option maxHeartbeats 2000000 in
set_option maxRecDepth 1000000 in
theorem eqRo_one (d : Ro) (w : World) : Calls Tryd.prog 58 #[roagg d, roagg d] w fun e w' => e = .returned (.bool true) ∧ Below w.heap.size w w' := by
  obtain ⟨x0, x1, x2, x3, x4⟩ := d
  have e0 : (x0 != x0) = false := by simp
  have e1 : (x1 != x1) = false := by simp
  have e2 : (x2 != x2) = false := by simp
  have e3 : (x3 != x3) = false := by simp
  have e4 : (x4 != x4) = false := by simp
  unfold roagg
  simp only
  go_enter Tryd.func58, Tryd.ntmps58
  go_wp2
  go_ret
  exact ⟨rfl, ((Below.refl _ _).alloc (Nat.le_refl _) _).alloc (by simp) _⟩

set_option maxHeartbeats 2000000 in
set_option maxRecDepth 1000000 in
theorem eqRo_same {w : World} {v1 v2 : Value} {L : List Ro} (hs : L.length ≤ 1048576) (h1 : RoS w v1 L) (h2 : RoS w v2 L) :
    Calls Tryd.prog 28 #[v1, v2] w fun e w' => e = .returned (.bool true) ∧ Below w.heap.size w w' := by
  obtain ⟨a1, b1, o1, c1, rfl, ha1, hc1⟩ := h1
  obtain ⟨a2, b2, o2, c2, rfl, ha2, hc2⟩ := h2
  have HC1 := hide hc1
  have HC2 := hide hc2
  clear hc1 hc2
  have hne : ((L.length : Int) != (L.length : Int)) = false := by simp
  have hmx : Tryd.prog.follows .mixedOrders = true := by kernel_rfl
  go_enter Tryd.func28, Tryd.ntmps28
  go_wp2
  go_loopw [5] (fun i wr => ∃ k : Nat, k ≤ L.length ∧ i = .int .i64 k ∧ Below w.heap.size w wr) (fun i _ => L.length - (intOf i).toNat)
  case atStart => exact ⟨0, Nat.zero_le _, rfl, Below.refl _ _⟩
  case round =>
    obtain ⟨k, hk, rfl, hb⟩ := hrel
    have HB := hide hb
    by_cases hlt : k < L.length
    · obtain rfl := ha1 (by omega)
      obtain rfl := ha2 (by omega)
      have q1_ := HC1.out k hlt
      have q2_ := HC2.out k hlt
      obtain ⟨d, hd⟩ : ∃ d, L.getD k .zero = d := ⟨_, rfl⟩
      rw [hd] at q1_ q2_
      have HE := hide (eqRo_one d wr.drew)
      obtain ⟨g0, g1, g2, g3, g4⟩ := q1_.below hb
      obtain ⟨f0, f1, f2, f3, f4⟩ := q2_.below hb
      unfold roagg at HE
      obtain ⟨x0, x1, x2, x3, x4⟩ := d
      simp only at HE g0 f0 g1 f1 g2 f2 g3 f3 g4 f4
      have hbs := hb.size
      have hlti : (k : Int) < (L.length : Int) := by omega
      clear hb q1_ q2_ hd
      go_wp2_with fail
      go_region_with (go_at_call 58; refine HE.out.mono ?_; rintro e w1 ⟨rfl, hb1⟩)
      all_goals have HB1 : Hid (Below w.heap.size w w1) := HB.out.drew.trans (hb1.mono hbs)
      all_goals clear hb1
      all_goals go_wp2
      all_goals
        go_roundw
        case rel => exact ⟨k + 1, by omega, by go_num, HB1.out⟩
        case measure => simp [intOf]; omega
    · have hge : ¬ (k : Int) < (L.length : Int) := by omega
      clear hb
      go_wp2
      go_ret
      exact ⟨rfl, HB.out⟩
end Go.Proofs.YteicpjbeihabnaaDoor

namespace Go.Proofs.YteicpjbeihabnaaDoor
open Go.RowKit

set_option maxRecDepth 1000000 in
theorem szRo_r {w : World} {v : Value} {L : List Ro} {left : Int} (h0 : 0 ≤ left) (hl : left ≤ 1048576) (hn : (L.length : Int) ≤ 9223372036854775807) (h : RoS w v L) :
    Calls Tryd.prog 24 #[v, .int .i64 left] w fun e w' => ∃ r, e = .returned (.int .i64 r) ∧ -1 ≤ r ∧ r ≤ left ∧ (0 ≤ r → L.length ≤ 1048576) ∧ Below w.heap.size w w' := by
  obtain ⟨a, b, o, c, rfl, _, _⟩ := h
  have e1 : IntKind.i64.wrap (left - (L.length : Int)) = left - L.length := by rw [IntKind.wrap_i64]; omega
  by_cases c1 : left - (L.length : Int) < 0
  · have d1 : decide (left - (L.length : Int) < 0) = true := decide_eq_true c1
    go_enter Tryd.func24, Tryd.ntmps24
    go_wp2
    go_ret
    exact ⟨-1, rfl, by omega, by omega, fun h => by omega, Below.refl _ _⟩
  · have d1 : decide (left - (L.length : Int) < 0) = false := decide_eq_false c1
    go_enter Tryd.func24, Tryd.ntmps24
    go_wp2
    go_ret
    exact ⟨left - L.length, rfl, by omega, by omega, fun _ => by omega, Below.refl _ _⟩
end Go.Proofs.YteicpjbeihabnaaDoor

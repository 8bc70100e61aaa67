/-
  The walk of eqIntSS, where both read as the same.
-/
import Derived.Test.YteicpjbeihabnaaDoorJNextIIS0
import Derived.Test.YteicpjbeihabnaaDoorJNextIN2
import Derived.BigQuiet
import Derived.Deep.QuietTactic
import Derived.Deep.RegionWith
namespace Go.Proofs.YteicpjbeihabnaaDoor
open Go.RowKit

set_option maxHeartbeats 2000000 in
set_option maxRecDepth 1000000 in
theorem eqIIS_same {w : World} {v1 v2 : Value} {L : List (List Int)} (hs : IISB L) (h1 : IIS w v1 L) (h2 : IIS w v2 L) :
    Calls Tryd.prog 48 #[v1, v2] w fun e w' => e = .returned (.bool true) ∧ Below w.heap.size w w' := by
  obtain ⟨a1, b1, o1, c1, rfl, ha1, hc1⟩ := h1
  obtain ⟨a2, b2, o2, c2, rfl, ha2, hc2⟩ := h2
  obtain ⟨hs, hz⟩ := hs
  have HC1 := hide hc1
  have HC2 := hide hc2
  have HZ := hide hz
  clear hc1 hc2 hz
  have hne : ((L.length : Int) != (L.length : Int)) = false := by simp
  have hmx : Tryd.prog.follows .mixedOrders = true := by kernel_rfl
  go_enter Tryd.func48, Tryd.ntmps48
  go_wp2
  go_loopw [5] (fun i wr => ∃ k : Nat, k ≤ L.length ∧ i = .int .i64 k ∧ Below w.heap.size w wr) (fun i _ => L.length - (intOf i).toNat)
  case atStart => exact ⟨0, Nat.zero_le _, rfl, Below.refl _ _⟩
  case round =>
    obtain ⟨k, hk, rfl, hb⟩ := hrel
    have HB := hide hb
    by_cases hlt : k < L.length
    · obtain rfl := ha1 (by omega)
      obtain rfl := ha2 (by omega)
      obtain ⟨x1, q1, p1⟩ := HC1.out k hlt
      obtain ⟨x2, q2, p2⟩ := HC2.out k hlt
      have g1 := cell_kept q1 hb
      have g2 := cell_kept q2 hb
      have hzk := HZ.out k hlt
      obtain ⟨s, hs'⟩ : ∃ s, L.getD k [] = s := ⟨_, rfl⟩
      rw [hs'] at p1 p2 hzk
      have b1' : IS wr.drew x1 s := p1.below hb.drew
      have b2' : IS wr.drew x2 s := p2.below hb.drew
      have HE := hide (eqI_same (w := wr.drew) hzk b1' b2')
      have hbs := hb.size
      have hlti : (k : Int) < (L.length : Int) := by omega
      clear hb q1 q2 p1 p2 hs' b1' b2'
      go_wp2_with fail
      go_region_with (go_at_call 20; refine HE.out.mono ?_; rintro e w1 ⟨rfl, hb1⟩)
      all_goals have HB1 : Hid (Below w.heap.size w w1) := HB.out.drew.trans (hb1.mono hbs)
      all_goals clear hb1
      all_goals go_wp2
      all_goals
        go_roundw
        case rel => exact ⟨k + 1, by omega, by go_num, HB1.out⟩
        case measure => simp [intOf]; omega
    · have hge : ¬ (k : Int) < (L.length : Int) := by omega
      clear hb
      go_wp2
      go_ret
      exact ⟨rfl, HB.out⟩
end Go.Proofs.YteicpjbeihabnaaDoor

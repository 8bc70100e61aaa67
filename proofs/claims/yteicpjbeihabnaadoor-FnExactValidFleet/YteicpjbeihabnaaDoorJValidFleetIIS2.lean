/-
  The walk of eqIntSS, where both read as the same.
  The walk of szIntSS.
  Lists of lists: what is walked of them.
-/
import Derived.Test.YteicpjbeihabnaaDoorJValidFleetIIS0
import Derived.Test.YteicpjbeihabnaaDoorJValidFleetIN2
import Derived.BigQuiet
import Derived.Deep.QuietTactic
import Derived.Deep.RegionWith
namespace Go.Proofs.YteicpjbeihabnaaDoor
open Go.RowKit

set_option maxHeartbeats 2000000 in
set_option maxRecDepth 1000000 in
theorem eqIIS_same {w : World} {v1 v2 : Value} {L : List (List Int)} (hs : IISB L) (h1 : IIS w v1 L) (h2 : IIS w v2 L) :
    Calls Tryd.prog 48 #[v1, v2] w fun e w' => e = .returned (.bool true) ∧ Below w.heap.size w w' := by
  obtain ⟨a1, b1, o1, c1, rfl, ha1, hc1⟩ := h1
  obtain ⟨a2, b2, o2, c2, rfl, ha2, hc2⟩ := h2
  obtain ⟨hs, hz⟩ := hs
  have HC1 := hide hc1
  have HC2 := hide hc2
  have HZ := hide hz
  clear hc1 hc2 hz
  have hne : ((L.length : Int) != (L.length : Int)) = false := by simp
  have hmx : Tryd.prog.follows .mixedOrders = true := by kernel_rfl
  go_enter Tryd.func48, Tryd.ntmps48
  go_wp2
  go_loopw [5] (fun i wr => ∃ k : Nat, k ≤ L.length ∧ i = .int .i64 k ∧ Below w.heap.size w wr) (fun i _ => L.length - (intOf i).toNat)
  case atStart => exact ⟨0, Nat.zero_le _, rfl, Below.refl _ _⟩
  case round =>
    obtain ⟨k, hk, rfl, hb⟩ := hrel
    have HB := hide hb
    by_cases hlt : k < L.length
    · obtain rfl := ha1 (by omega)
      obtain rfl := ha2 (by omega)
      obtain ⟨x1, q1, p1⟩ := HC1.out k hlt
      obtain ⟨x2, q2, p2⟩ := HC2.out k hlt
      have g1 := cell_kept q1 hb
      have g2 := cell_kept q2 hb
      have hzk := HZ.out k hlt
      obtain ⟨s, hs'⟩ : ∃ s, L.getD k [] = s := ⟨_, rfl⟩
      rw [hs'] at p1 p2 hzk
      have b1' : IS wr.drew x1 s := p1.below hb.drew
      have b2' : IS wr.drew x2 s := p2.below hb.drew
      have HE := hide (eqI_same (w := wr.drew) hzk b1' b2')
      have hbs := hb.size
      have hlti : (k : Int) < (L.length : Int) := by omega
      clear hb q1 q2 p1 p2 hs' b1' b2'
      go_wp2_with fail
      go_region_with (go_at_call 20; refine HE.out.mono ?_; rintro e w1 ⟨rfl, hb1⟩)
      all_goals have HB1 : Hid (Below w.heap.size w w1) := HB.out.drew.trans (hb1.mono hbs)
      all_goals clear hb1
      all_goals go_wp2
      all_goals
        go_roundw
        case rel => exact ⟨k + 1, by omega, by go_num, HB1.out⟩
        case measure => simp [intOf]; omega
    · have hge : ¬ (k : Int) < (L.length : Int) := by omega
      clear hb
      go_wp2
      go_ret
      exact ⟨rfl, HB.out⟩
end Go.Proofs.YteicpjbeihabnaaDoor

namespace Go.Proofs.YteicpjbeihabnaaDoor
open Go.RowKit

set_option maxHeartbeats 2000000 in
set_option maxRecDepth 1000000 in
theorem szIIS_r {w : World} {v : Value} {L : List (List Int)} {left : Int} (h0 : 0 ≤ left) (hl : left ≤ 1048576) (hn : IISL L) (h : IIS w v L) :
    Calls Tryd.prog 39 #[v, .int .i64 left] w fun e w' => ∃ r, e = .returned (.int .i64 r) ∧ -1 ≤ r ∧ r ≤ left ∧ (0 ≤ r → IISB L) ∧ Below w.heap.size w w' := by
  obtain ⟨a, b, o, c, rfl, ha, hc⟩ := h
  obtain ⟨hn, hz⟩ := hn
  have e1 : IntKind.i64.wrap (left - (L.length : Int)) = left - L.length := by rw [IntKind.wrap_i64]; omega
  have HC := hide hc
  have HZ := hide hz
  clear hc hz
  by_cases c1 : left - (L.length : Int) < 0
  · have d1 : decide (left - (L.length : Int) < 0) = true := decide_eq_true c1
    go_enter Tryd.func39, Tryd.ntmps39
    go_wp2
    go_ret
    exact ⟨-1, rfl, by omega, by omega, fun h => by omega, Below.refl _ _⟩
  · have d1 : decide (left - (L.length : Int) < 0) = false := decide_eq_false c1
    go_enter Tryd.func39, Tryd.ntmps39
    go_wp2
    go_loopw [1, 5] (fun lf ix wr => ∃ (k : Nat) (l : Int), k ≤ L.length ∧ lf = .int .i64 l ∧ ix = .int .i64 k ∧ 0 ≤ l ∧ l ≤ left ∧ (∀ j, j < k → (L.getD j []).length ≤ 1048576) ∧ Below w.heap.size w wr) (fun _ ix _ => L.length - (intOf ix).toNat)
    case atStart => exact ⟨0, left - L.length, Nat.zero_le _, rfl, rfl, by omega, by omega, fun j hj => absurd hj (Nat.not_lt_zero _), Below.refl _ _⟩
    case round =>
      obtain ⟨k, l, hk, rfl, rfl, hl0, hl1, hsz, hbl⟩ := hrel
      have HBL := hide hbl
      have HSZ := hide hsz
      by_cases hlt : k < L.length
      · obtain rfl := ha (by omega)
        obtain ⟨x, hx, hxs⟩ := HC.out k hlt
        have hzk := HZ.out k hlt
        have g0 := cell_kept hx hbl
        obtain ⟨s, hs'⟩ : ∃ s, L.getD k [] = s := ⟨_, rfl⟩
        rw [hs'] at hxs hzk
        have HD := hide hs'
        have HT := hide (szI_l (w := wr) hl0 (by omega) hzk (hxs.below hbl))
        have hlti : (k : Int) < (L.length : Int) := by omega
        clear hsz hbl hs' hx hxs hzk
        go_wp2_with fail
        refine HT.out.mono ?_
        rintro e w2 ⟨r, rfl, hm, hr, ho, hb2⟩
        have HB2 : Hid (Below w.heap.size w w2) := HBL.out.trans (hb2.mono HBL.out.size)
        have HO := hide ho
        clear hb2 ho
        by_cases c2 : r < 0
        · have d2 : decide (r < 0) = true := decide_eq_true c2
          go_wp2
          go_ret
          exact ⟨-1, rfl, by omega, by omega, fun h => by omega, HB2.out⟩
        · have d2 : decide (r < 0) = false := decide_eq_false c2
          go_wp2
          go_roundw
          case rel => exact ⟨k + 1, r, by omega, rfl, by go_num, by omega, by omega, fun j hj => by
            by_cases e : j = k
            · rw [e, HD.out]; exact HO.out (by omega)
            · exact HSZ.out j (by omega), HB2.out⟩
          case measure => simp [intOf]; omega
      · have hge : ¬ (k : Int) < (L.length : Int) := by omega
        clear hsz hbl
        go_wp2
        go_ret
        exact ⟨l, rfl, by omega, by omega, fun _ => ⟨by omega, fun j hj => HSZ.out j (by omega)⟩, HBL.out⟩
end Go.Proofs.YteicpjbeihabnaaDoor



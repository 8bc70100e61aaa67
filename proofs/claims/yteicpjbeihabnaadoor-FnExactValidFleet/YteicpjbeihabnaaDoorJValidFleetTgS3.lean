/-
  The walk of szTargetS.
  Lists of Target: what is walked of them.
-/
import Derived.Test.YteicpjbeihabnaaDoorJValidFleetIIS0
import Derived.Test.YteicpjbeihabnaaDoorJValidFleetTg2
import Derived.Test.YteicpjbeihabnaaDoorJValidFleetTgS1
namespace Go.Proofs.YteicpjbeihabnaaDoor
open Go.RowKit

set_option maxHeartbeats 2000000 in
set_option maxRecDepth 1000000 in
theorem szTgS_r {w : World} {v : Value} {L : List Tg} {left : Int} (h0 : 0 ≤ left) (hl : left ≤ 1048576) (hn : TgSL L) (h : TgS w v L) :
    Calls Tryd.prog 38 #[v, .int .i64 left] w fun e w' => ∃ r, e = .returned (.int .i64 r) ∧ -1 ≤ r ∧ r ≤ left ∧ (0 ≤ r → TgSB L) ∧ Below w.heap.size w w' := by
  obtain ⟨a, b, o, c, rfl, ha, hc⟩ := h
  obtain ⟨hn, hz⟩ := hn
  have e1 : IntKind.i64.wrap (left - (L.length : Int)) = left - L.length := by rw [IntKind.wrap_i64]; omega
  have HC := hide hc
  have HZ := hide hz
  clear hc hz
  by_cases c1 : left - (L.length : Int) < 0
  · have d1 : decide (left - (L.length : Int) < 0) = true := decide_eq_true c1
    go_enter Tryd.func38, Tryd.ntmps38
    go_wp2
    go_ret
    exact ⟨-1, rfl, by omega, by omega, fun h => by omega, Below.refl _ _⟩
  · have d1 : decide (left - (L.length : Int) < 0) = false := decide_eq_false c1
    go_enter Tryd.func38, Tryd.ntmps38
    go_wp2
    go_loopw [1, 5] (fun lf ix wr => ∃ (k : Nat) (l : Int), k ≤ L.length ∧ lf = .int .i64 l ∧ ix = .int .i64 k ∧ 0 ≤ l ∧ l ≤ left ∧ (∀ j, j < k → TgB (L.getD j .zero)) ∧ Below w.heap.size w wr) (fun _ ix _ => L.length - (intOf ix).toNat)
    case atStart => exact ⟨0, left - L.length, Nat.zero_le _, rfl, rfl, by omega, by omega, fun j hj => absurd hj (Nat.not_lt_zero _), Below.refl _ _⟩
    case round =>
      obtain ⟨k, l, hk, rfl, rfl, hl0, hl1, hsz, hbl⟩ := hrel
      have HBL := hide hbl
      have HSZ := hide hsz
      by_cases hlt : k < L.length
      · obtain rfl := ha (by omega)
        obtain ⟨v0, hnc, hnv⟩ := HC.out k hlt
        have hzk := HZ.out k hlt
        obtain ⟨d, hd⟩ : ∃ d, L.getD k .zero = d := ⟨_, rfl⟩
        rw [hd] at hnc hnv hzk
        have HD := hide hd
        obtain ⟨g0, g1, g2⟩ := hnc.below hbl
        have HT := hide (szTg_r (w := wr) hl0 (by omega) hzk (hnv.below hbl))
        unfold tgagg at HT
        clear hd hzk hnc hnv
        obtain ⟨x0, x1, x2⟩ := d
        simp only at HT g1 g2
        have hlti : (k : Int) < (L.length : Int) := by omega
        clear hsz hbl
        go_wp2_with fail
        refine HT.out.mono ?_
        rintro e w2 ⟨r, rfl, hm, hr, ho, hb2⟩
        have HB2 : Hid (Below w.heap.size w w2) := HBL.out.trans (hb2.mono HBL.out.size)
        have HO := hide ho
        clear hb2 ho
        by_cases c2 : r < 0
        · have d2 : decide (r < 0) = true := decide_eq_true c2
          go_wp2
          go_ret
          exact ⟨-1, rfl, by omega, by omega, fun h => by omega, HB2.out⟩
        · have d2 : decide (r < 0) = false := decide_eq_false c2
          go_wp2
          go_roundw
          case rel => exact ⟨k + 1, r, by omega, rfl, by go_num, by omega, by omega, fun j hj => by
            by_cases e : j = k
            · rw [e, HD.out]; exact HO.out (by omega)
            · exact HSZ.out j (by omega), HB2.out⟩
          case measure => simp [intOf]; omega
      · have hge : ¬ (k : Int) < (L.length : Int) := by omega
        clear hsz hbl
        go_wp2
        go_ret
        exact ⟨l, rfl, by omega, by omega, fun _ => ⟨by omega, fun j hj => HSZ.out j (by omega)⟩, HBL.out⟩
end Go.Proofs.YteicpjbeihabnaaDoor



/-
  The walk of eqTargetS, where both read as the same.
-/
import Derived.Test.YtaapababeecmeaaDoorJValidLayoutTgS0
import Derived.Test.YtaapababeecmeaaDoorJValidLayoutTg2
import Derived.BigQuiet
import Derived.Deep.QuietTactic
import Derived.Deep.RegionWith
namespace Go.Proofs.YtaapababeecmeaaDoor
open Go.RowKit

set_option maxHeartbeats 2000000 in
set_option maxRecDepth 1000000 in
theorem eqTgS_same {w : World} {v1 v2 : Value} {L : List Tg} (hs : TgSB L) (h1 : TgS w v1 L) (h2 : TgS w v2 L) :
    Calls Tryd.prog 35 #[v1, v2] w fun e w' => e = .returned (.bool true) ∧ Below w.heap.size w w' := by
  obtain ⟨a1, b1, o1, c1, rfl, ha1, hc1⟩ := h1
  obtain ⟨a2, b2, o2, c2, rfl, ha2, hc2⟩ := h2
  obtain ⟨hs, hz⟩ := hs
  have HC1 := hide hc1
  have HC2 := hide hc2
  have HZ := hide hz
  clear hc1 hc2 hz
  have hne : ((L.length : Int) != (L.length : Int)) = false := by simp
  have hmx : Tryd.prog.follows .mixedOrders = true := by kernel_rfl
  go_enter Tryd.func35, Tryd.ntmps35
  go_wp2
  go_loopw [5] (fun i wr => ∃ k : Nat, k ≤ L.length ∧ i = .int .i64 k ∧ Below w.heap.size w wr) (fun i _ => L.length - (intOf i).toNat)
  case atStart => exact ⟨0, Nat.zero_le _, rfl, Below.refl _ _⟩
  case round =>
    obtain ⟨k, hk, rfl, hb⟩ := hrel
    have HB := hide hb
    by_cases hlt : k < L.length
    · obtain rfl := ha1 (by omega)
      obtain rfl := ha2 (by omega)
      obtain ⟨p0, q1_, p1_⟩ := HC1.out k hlt
      obtain ⟨q0, q2_, p2_⟩ := HC2.out k hlt
      have hzk := HZ.out k hlt
      obtain ⟨d, hd⟩ : ∃ d, L.getD k .zero = d := ⟨_, rfl⟩
      rw [hd] at p1_ p2_ hzk q1_ q2_
      have HE := hide (eqTg_same (w := wr.drew) hzk (p1_.below hb.drew) (p2_.below hb.drew))
      obtain ⟨g0, g1, g2⟩ := q1_.below hb
      obtain ⟨f0, f1, f2⟩ := q2_.below hb
      unfold tgagg at HE
      obtain ⟨x0, x1, x2⟩ := d
      simp only at HE g1 f1 g2 f2
      have hbs := hb.size
      have hlti : (k : Int) < (L.length : Int) := by omega
      clear hb q1_ q2_ p1_ p2_ hd hzk
      go_wp2_with fail
      go_region_with (go_at_call 56; refine HE.out.mono ?_; rintro e w1 ⟨rfl, hb1⟩)
      all_goals have HB1 : Hid (Below w.heap.size w w1) := HB.out.drew.trans (hb1.mono hbs)
      all_goals clear hb1
      all_goals go_wp2
      all_goals
        go_roundw
        case rel => exact ⟨k + 1, by omega, by go_num, HB1.out⟩
        case measure => simp [intOf]; omega
    · have hge : ¬ (k : Int) < (L.length : Int) := by omega
      clear hb
      go_wp2
      go_ret
      exact ⟨rfl, HB.out⟩
end Go.Proofs.YtaapababeecmeaaDoor

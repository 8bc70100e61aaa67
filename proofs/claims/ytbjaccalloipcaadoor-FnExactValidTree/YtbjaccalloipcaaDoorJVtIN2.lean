/-
  The walk of eqIntS, where both read as the same.
  The walks of eqIntS, eqByteSS, eqNode, eqNodeS, where both read as the same.
-/
import Derived.Test.YtbjaccalloipcaaDoorJVtIN0
import Derived.BigQuiet
import Derived.Deep.QuietTactic
import Derived.Deep.RegionWith
import Derived.Test.YtbjaccalloipcaaDoorJVtND4
namespace Go.Proofs.YtbjaccalloipcaaDoor
open Go.RowKit

set_option maxHeartbeats 400000 in
set_option maxRecDepth 1000000 in
theorem eqI_w {w : World} {v1 v2 : Value} {l : List Int} (hs : l.length ≤ 100000000) (h1 : IS w v1 l) (h2 : IS w v2 l) :
    Calls Tryd.prog 30 #[v1, v2] w fun e w' => e = .returned (.bool true) ∧ Below w.heap.size w w' := by
  obtain ⟨a1, b1, o1, c1, rfl, ha1, hc1⟩ := h1
  obtain ⟨a2, b2, o2, c2, rfl, ha2, hc2⟩ := h2
  have HC1 := hide hc1
  have HC2 := hide hc2
  clear hc1 hc2
  have hne : ((l.length : Int) != (l.length : Int)) = false := by simp
  go_enter Tryd.func30, Tryd.ntmps30
  go_wp2
  go_loopw [5] (fun i wr => ∃ k n : Nat, k ≤ l.length ∧ i = .int .i64 k ∧ wr = w.drewN n) (fun i _ => l.length - (intOf i).toNat)
  case atStart => exact ⟨0, 0, Nat.zero_le _, rfl, rfl⟩
  case round =>
    obtain ⟨k, n, hk, rfl, rfl⟩ := hrel
    by_cases hlt : k < l.length
    · obtain rfl := ha1 (by omega)
      obtain rfl := ha2 (by omega)
      have g1 := HC1.out k hlt
      have g2 := HC2.out k hlt
      obtain ⟨y, hy⟩ : ∃ y, l.getD k 0 = y := ⟨_, rfl⟩
      rw [hy] at g1 g2
      have hyy : (y != y) = false := by simp
      have hlti : (k : Int) < (l.length : Int) := by omega
      clear hy
      go_wp2
      go_region
      all_goals go_wp2
      all_goals
        go_roundw
        case rel => exact ⟨k + 1, _, by omega, by go_num, rfl⟩
        case measure => simp [intOf]; omega
    · have hge : ¬ (k : Int) < (l.length : Int) := by omega
      go_wp2
      go_ret
      exact ⟨rfl, below_drewN (Below.refl _ _) n⟩
theorem eqI_same {w : World} {v1 v2 : Value} {l : List Int} (hs : l.length ≤ 1048576) (h1 : IS w v1 l) (h2 : IS w v2 l) :
    Calls Tryd.prog 30 #[v1, v2] w fun e w' => e = .returned (.bool true) ∧ Below w.heap.size w w' := eqI_w (by omega) h1 h2

end Go.Proofs.YtbjaccalloipcaaDoor

namespace Go.Proofs.YtbjaccalloipcaaDoor
open Go.RowKit

set_option maxHeartbeats 1000000 in
set_option maxRecDepth 1000000 in
theorem eqB_same {w : World} {v1 v2 : Value} {s : ByteArray} (hs : s.size ≤ 1048576) (h1 : BS w v1 s) (h2 : BS w v2 s) :
    Calls Tryd.prog 28 #[v1, v2] w fun e w' => e = .returned (.bool true) ∧ Below w.heap.size w w' := by
  obtain ⟨a1, b1, o1, c1, rfl, ha1, hc1⟩ := h1
  obtain ⟨a2, b2, o2, c2, rfl, ha2, hc2⟩ := h2
  have H := eqB_any a1 a2 b1 o1 c1 b2 o2 c2 s s w hs hs ha1 ha2 hc1 hc2
  rw [decide_eq_true (rfl : s = s)] at H
  exact H.mono fun _ _ ⟨h1, n, h2⟩ => ⟨h1, by rw [h2]; exact below_drewN (Below.refl _ _) n⟩

set_option maxHeartbeats 1000000 in
set_option maxRecDepth 1000000 in
theorem eqSS_same {w : World} {v1 v2 : Value} {L : List ByteArray} (hs : L.length ≤ 1048576) (hz : ∀ j, j < L.length → (L.getD j .empty).size ≤ 1048576) (h1 : SS w v1 L) (h2 : SS w v2 L) :
    Calls Tryd.prog 29 #[v1, v2] w fun e w' => e = .returned (.bool true) ∧ Below w.heap.size w w' := by
  obtain ⟨a1, b1, o1, c1, rfl, ha1, hc1⟩ := h1
  obtain ⟨a2, b2, o2, c2, rfl, ha2, hc2⟩ := h2
  have HC1 := hide hc1
  have HC2 := hide hc2
  have HZ := hide hz
  clear hc1 hc2 hz
  have hne : ((L.length : Int) != (L.length : Int)) = false := by simp
  have hmx : Tryd.prog.follows .mixedOrders = true := by kernel_rfl
  go_enter Tryd.func29, Tryd.ntmps29
  go_wp2
  go_loopw [5] (fun i wr => ∃ k : Nat, k ≤ L.length ∧ i = .int .i64 k ∧ Below w.heap.size w wr) (fun i _ => L.length - (intOf i).toNat)
  case atStart => exact ⟨0, Nat.zero_le _, rfl, Below.refl _ _⟩
  case round =>
    obtain ⟨k, hk, rfl, hb⟩ := hrel
    have HB := hide hb
    by_cases hlt : k < L.length
    · obtain rfl := ha1 (by omega)
      obtain rfl := ha2 (by omega)
      obtain ⟨x1, q1, p1⟩ := HC1.out k hlt
      obtain ⟨x2, q2, p2⟩ := HC2.out k hlt
      have g1 := cell_kept q1 hb
      have g2 := cell_kept q2 hb
      have hzk := HZ.out k hlt
      obtain ⟨s, hs'⟩ : ∃ s, L.getD k .empty = s := ⟨_, rfl⟩
      rw [hs'] at p1 p2 hzk
      have b1' : BS wr.drew x1 s := p1.below hb.drew
      have b2' : BS wr.drew x2 s := p2.below hb.drew
      have HE := hide (eqB_same (w := wr.drew) hzk b1' b2')
      have hbs := hb.size
      have hlti : (k : Int) < (L.length : Int) := by omega
      clear hb q1 q2 p1 p2 hs' b1' b2'
      go_wp2_with fail
      go_region_with (go_at_call 28; refine HE.out.mono ?_; rintro e w1 ⟨rfl, hb1⟩)
      all_goals have HB1 : Hid (Below w.heap.size w w1) := HB.out.drew.trans (hb1.mono hbs)
      all_goals clear hb1
      all_goals go_wp2
      all_goals
        go_roundw
        case rel => exact ⟨k + 1, by omega, by go_num, HB1.out⟩
        case measure => simp [intOf]; omega
    · have hge : ¬ (k : Int) < (L.length : Int) := by omega
      clear hb
      go_wp2
      go_ret
      exact ⟨rfl, HB.out⟩

set_option maxHeartbeats 1000000 in
set_option maxRecDepth 1000000 in
theorem eqNd_same {w : World} {d : Nd} {t1 n1 y1 t2 n2 y2 : Value} (hb : NB d) (h1 : NV w d t1 n1 y1) (h2 : NV w d t2 n2 y2) :
    Calls Tryd.prog 14 #[nagg d t1 n1 y1, nagg d t2 n2 y2] w fun e w' => e = .returned (.bool true) ∧ Below w.heap.size w w' := by
  obtain ⟨K, N, T, M, Y, C⟩ := d
  have e1 : (K != K) = false := by simp
  have e2 : (N != N) = false := by simp
  have e3 : (C != C) = false := by simp
  have HB := hide hb
  have H1 := hide h1
  have H2 := hide h2
  clear hb h1 h2
  unfold nagg
  simp only
  obtain ⟨W1, hW1⟩ : ∃ W1, (w.alloc (.cells #[.int .i64 K, .int .i64 N, t1, n1, y1, .int .i64 C] 35)).alloc (.cells #[.int .i64 K, .int .i64 N, t2, n2, y2, .int .i64 C] 35) = W1 := ⟨_, rfl⟩
  have hb0 : Below w.heap.size w W1 := by rw [← hW1]; exact ((Below.refl _ _).alloc (Nat.le_refl _) _).alloc (by simp) _
  have hA : Blk W1 w.heap.size 35 #[.int .i64 K, .int .i64 N, t1, n1, y1, .int .i64 C] := by rw [← hW1]; exact (Blk.new _ _ _).alloc _
  have hB : Blk W1 (w.heap.size + 1) 35 #[.int .i64 K, .int .i64 N, t2, n2, y2, .int .i64 C] := by
    rw [← hW1]
    have := Blk.new (w.alloc (.cells #[.int .i64 K, .int .i64 N, t1, n1, y1, .int .i64 C] 35)) 35 #[.int .i64 K, .int .i64 N, t2, n2, y2, .int .i64 C]
    simpa using this
  have HA := hide hA
  have HBB := hide hB
  have HB0 := hide hb0
  have HW := hide hW1
  clear hA hB hb0 hW1
  go_enter Tryd.func14, Tryd.ntmps14
  go_wp2_with fail
  rw [HW.out]
  refine (eqB_same HB.out.text (H1.out.text.below HB0.out) (H2.out.text.below HB0.out)).mono ?_
  rintro e w2 ⟨rfl, hb2⟩
  have HA2 := hide (HA.out.below hb2)
  have HBB2 := hide (HBB.out.below hb2)
  have HB2 : Hid (Below w.heap.size w w2) := HB0.out.trans (hb2.mono HB0.out.size)
  have c1 := HA2.out.cell 3
  have c2 := HBB2.out.cell 3
  simp only [List.getElem?_toArray, List.getElem?_cons_succ, List.getElem?_cons_zero] at c1 c2
  clear hb2 HA HBB HB0 HW
  go_wp2_with fail
  refine (eqSS_same HB.out.names HB.out.each (H1.out.names.below HB2.out) (H2.out.names.below HB2.out)).mono ?_
  rintro e w3 ⟨rfl, hb3⟩
  have HA3 := hide (HA2.out.below hb3)
  have HBB3 := hide (HBB2.out.below hb3)
  have HB3 : Hid (Below w.heap.size w w3) := HB2.out.trans (hb3.mono HB2.out.size)
  have c3 := HA3.out.cell 4
  have c4 := HBB3.out.cell 4
  simp only [List.getElem?_toArray, List.getElem?_cons_succ, List.getElem?_cons_zero] at c3 c4
  clear hb3 HA2 HBB2 HB2 c1 c2
  go_wp2_with fail
  refine (eqI_same HB.out.types (H1.out.types.below HB3.out) (H2.out.types.below HB3.out)).mono ?_
  rintro e w4 ⟨rfl, hb4⟩
  have HA4 := hide (HA3.out.below hb4)
  have HBB4 := hide (HBB3.out.below hb4)
  have HB4 : Hid (Below w.heap.size w w4) := HB3.out.trans (hb4.mono HB3.out.size)
  have c5 := HA4.out.cell 5
  have c6 := HBB4.out.cell 5
  simp only [List.getElem?_toArray, List.getElem?_cons_succ, List.getElem?_cons_zero] at c5 c6
  clear hb4 HA3 HBB3 HB3 c3 c4
  go_wp2
  go_ret
  exact ⟨rfl, HB4.out⟩

set_option maxHeartbeats 1000000 in
set_option maxRecDepth 1000000 in
theorem eqNS_same {w : World} {v1 v2 : Value} {L : List Nd} (hs : L.length ≤ 1048576) (hz : ∀ j, j < L.length → NB (L.getD j .zero)) (h1 : NS w v1 L) (h2 : NS w v2 L) :
    Calls Tryd.prog 8 #[v1, v2] w fun e w' => e = .returned (.bool true) ∧ Below w.heap.size w w' := by
  obtain ⟨a1, b1, o1, c1, rfl, ha1, hc1⟩ := h1
  obtain ⟨a2, b2, o2, c2, rfl, ha2, hc2⟩ := h2
  have HC1 := hide hc1
  have HC2 := hide hc2
  have HZ := hide hz
  clear hc1 hc2 hz
  have hne : ((L.length : Int) != (L.length : Int)) = false := by simp
  have hmx : Tryd.prog.follows .mixedOrders = true := by kernel_rfl
  go_enter Tryd.func8, Tryd.ntmps8
  go_wp2
  go_loopw [5] (fun i wr => ∃ k : Nat, k ≤ L.length ∧ i = .int .i64 k ∧ Below w.heap.size w wr) (fun i _ => L.length - (intOf i).toNat)
  case atStart => exact ⟨0, Nat.zero_le _, rfl, Below.refl _ _⟩
  case round =>
    obtain ⟨k, hk, rfl, hb⟩ := hrel
    have HB := hide hb
    by_cases hlt : k < L.length
    · obtain rfl := ha1 (by omega)
      obtain rfl := ha2 (by omega)
      obtain ⟨t1, n1, y1, q1, p1⟩ := HC1.out k hlt
      obtain ⟨t2, n2, y2, q2, p2⟩ := HC2.out k hlt
      have hzk := HZ.out k hlt
      obtain ⟨d, hd⟩ : ∃ d, L.getD k .zero = d := ⟨_, rfl⟩
      rw [hd] at p1 p2 hzk q1 q2
      have HE := hide (eqNd_same (w := wr.drew) hzk (p1.below hb.drew) (p2.below hb.drew))
      obtain ⟨g0, g1, g2, g3, g4, g5⟩ := q1.below hb
      obtain ⟨f0, f1, f2, f3, f4, f5⟩ := q2.below hb
      unfold nagg at HE
      obtain ⟨K, N, T, M, Y, C⟩ := d
      simp only at HE g0 g1 g5 f0 f1 f5
      have hbs := hb.size
      have hlti : (k : Int) < (L.length : Int) := by omega
      clear hb q1 q2 p1 p2 hd hzk
      go_wp2_with fail
      go_region_with (go_at_call 14; refine HE.out.mono ?_; rintro e w1 ⟨rfl, hb1⟩)
      all_goals have HB1 : Hid (Below w.heap.size w w1) := HB.out.drew.trans (hb1.mono hbs)
      all_goals clear hb1
      all_goals go_wp2
      all_goals
        go_roundw
        case rel => exact ⟨k + 1, by omega, by go_num, HB1.out⟩
        case measure => simp [intOf]; omega
    · have hge : ¬ (k : Int) < (L.length : Int) := by omega
      clear hb
      go_wp2
      go_ret
      exact ⟨rfl, HB.out⟩
end Go.Proofs.YtbjaccalloipcaaDoor

/-
  The walk of eqIntS, where both read as the same.
  The walks of eqIntS, eqByteSS, eqNode, eqNodeS, where both read as the same.
  The walk of szNodeS.
  The walks of spec.ValidTree and of laws.FnExactValidTree.
-/
import Derived.Test.YtdlahabeegmjiaaDoorJCkIN0
import Derived.BigQuiet
import Derived.Deep.QuietTactic
import Derived.Deep.RegionWith
import Derived.Test.YtdlahabeegmjiaaDoorJCkND4
import Derived.Test.YtdlahabeegmjiaaDoorJCkAP
import Derived.Test.YtdlahabeegmjiaaDoorJCkVH
namespace Go.Proofs.YtdlahabeegmjiaaDoor
open Go.RowKit

set_option maxHeartbeats 400000 in
set_option maxRecDepth 1000000 in
theorem eqI_w {w : World} {v1 v2 : Value} {l : List Int} (hs : l.length ≤ 100000000) (h1 : IS w v1 l) (h2 : IS w v2 l) :
    Calls Tryd.prog 43 #[v1, v2] w fun e w' => e = .returned (.bool true) ∧ Below w.heap.size w w' := by
  obtain ⟨a1, b1, o1, c1, rfl, ha1, hc1⟩ := h1
  obtain ⟨a2, b2, o2, c2, rfl, ha2, hc2⟩ := h2
  have HC1 := hide hc1
  have HC2 := hide hc2
  clear hc1 hc2
  have hne : ((l.length : Int) != (l.length : Int)) = false := by simp
  go_enter Tryd.func43, Tryd.ntmps43
  go_wp2
  go_loopw [5] (fun i wr => ∃ k n : Nat, k ≤ l.length ∧ i = .int .i64 k ∧ wr = w.drewN n) (fun i _ => l.length - (intOf i).toNat)
  case atStart => exact ⟨0, 0, Nat.zero_le _, rfl, rfl⟩
  case round =>
    obtain ⟨k, n, hk, rfl, rfl⟩ := hrel
    by_cases hlt : k < l.length
    · obtain rfl := ha1 (by omega)
      obtain rfl := ha2 (by omega)
      have g1 := HC1.out k hlt
      have g2 := HC2.out k hlt
      obtain ⟨y, hy⟩ : ∃ y, l.getD k 0 = y := ⟨_, rfl⟩
      rw [hy] at g1 g2
      have hyy : (y != y) = false := by simp
      have hlti : (k : Int) < (l.length : Int) := by omega
      clear hy
      go_wp2
      go_region
      all_goals go_wp2
      all_goals
        go_roundw
        case rel => exact ⟨k + 1, _, by omega, by go_num, rfl⟩
        case measure => simp [intOf]; omega
    · have hge : ¬ (k : Int) < (l.length : Int) := by omega
      go_wp2
      go_ret
      exact ⟨rfl, below_drewN (Below.refl _ _) n⟩
theorem eqI_same {w : World} {v1 v2 : Value} {l : List Int} (hs : l.length ≤ 1048576) (h1 : IS w v1 l) (h2 : IS w v2 l) :
    Calls Tryd.prog 43 #[v1, v2] w fun e w' => e = .returned (.bool true) ∧ Below w.heap.size w w' := eqI_w (by omega) h1 h2

end Go.Proofs.YtdlahabeegmjiaaDoor

namespace Go.Proofs.YtdlahabeegmjiaaDoor
open Go.RowKit

set_option maxHeartbeats 1000000 in
set_option maxRecDepth 1000000 in
theorem eqB_same {w : World} {v1 v2 : Value} {s : ByteArray} (hs : s.size ≤ 1048576) (h1 : BS w v1 s) (h2 : BS w v2 s) :
    Calls Tryd.prog 41 #[v1, v2] w fun e w' => e = .returned (.bool true) ∧ Below w.heap.size w w' := by
  obtain ⟨a1, b1, o1, c1, rfl, ha1, hc1⟩ := h1
  obtain ⟨a2, b2, o2, c2, rfl, ha2, hc2⟩ := h2
  have H := eqB_any a1 a2 b1 o1 c1 b2 o2 c2 s s w hs hs ha1 ha2 hc1 hc2
  rw [decide_eq_true (rfl : s = s)] at H
  exact H.mono fun _ _ ⟨h1, n, h2⟩ => ⟨h1, by rw [h2]; exact below_drewN (Below.refl _ _) n⟩

set_option maxHeartbeats 1000000 in
set_option maxRecDepth 1000000 in
theorem eqSS_same {w : World} {v1 v2 : Value} {L : List ByteArray} (hs : L.length ≤ 1048576) (hz : ∀ j, j < L.length → (L.getD j .empty).size ≤ 1048576) (h1 : SS w v1 L) (h2 : SS w v2 L) :
    Calls Tryd.prog 42 #[v1, v2] w fun e w' => e = .returned (.bool true) ∧ Below w.heap.size w w' := by
  obtain ⟨a1, b1, o1, c1, rfl, ha1, hc1⟩ := h1
  obtain ⟨a2, b2, o2, c2, rfl, ha2, hc2⟩ := h2
  have HC1 := hide hc1
  have HC2 := hide hc2
  have HZ := hide hz
  clear hc1 hc2 hz
  have hne : ((L.length : Int) != (L.length : Int)) = false := by simp
  have hmx : Tryd.prog.follows .mixedOrders = true := by kernel_rfl
  go_enter Tryd.func42, Tryd.ntmps42
  go_wp2
  go_loopw [5] (fun i wr => ∃ k : Nat, k ≤ L.length ∧ i = .int .i64 k ∧ Below w.heap.size w wr) (fun i _ => L.length - (intOf i).toNat)
  case atStart => exact ⟨0, Nat.zero_le _, rfl, Below.refl _ _⟩
  case round =>
    obtain ⟨k, hk, rfl, hb⟩ := hrel
    have HB := hide hb
    by_cases hlt : k < L.length
    · obtain rfl := ha1 (by omega)
      obtain rfl := ha2 (by omega)
      obtain ⟨x1, q1, p1⟩ := HC1.out k hlt
      obtain ⟨x2, q2, p2⟩ := HC2.out k hlt
      have g1 := cell_kept q1 hb
      have g2 := cell_kept q2 hb
      have hzk := HZ.out k hlt
      obtain ⟨s, hs'⟩ : ∃ s, L.getD k .empty = s := ⟨_, rfl⟩
      rw [hs'] at p1 p2 hzk
      have b1' : BS wr.drew x1 s := p1.below hb.drew
      have b2' : BS wr.drew x2 s := p2.below hb.drew
      have HE := hide (eqB_same (w := wr.drew) hzk b1' b2')
      have hbs := hb.size
      have hlti : (k : Int) < (L.length : Int) := by omega
      clear hb q1 q2 p1 p2 hs' b1' b2'
      go_wp2_with fail
      go_region_with (go_at_call 41; refine HE.out.mono ?_; rintro e w1 ⟨rfl, hb1⟩)
      all_goals have HB1 : Hid (Below w.heap.size w w1) := HB.out.drew.trans (hb1.mono hbs)
      all_goals clear hb1
      all_goals go_wp2
      all_goals
        go_roundw
        case rel => exact ⟨k + 1, by omega, by go_num, HB1.out⟩
        case measure => simp [intOf]; omega
    · have hge : ¬ (k : Int) < (L.length : Int) := by omega
      clear hb
      go_wp2
      go_ret
      exact ⟨rfl, HB.out⟩

set_option maxHeartbeats 1000000 in
set_option maxRecDepth 1000000 in
theorem eqNd_same {w : World} {d : Nd} {t1 n1 y1 t2 n2 y2 : Value} (hb : NB d) (h1 : NV w d t1 n1 y1) (h2 : NV w d t2 n2 y2) :
    Calls Tryd.prog 19 #[nagg d t1 n1 y1, nagg d t2 n2 y2] w fun e w' => e = .returned (.bool true) ∧ Below w.heap.size w w' := by
  obtain ⟨K, N, T, M, Y, C⟩ := d
  have e1 : (K != K) = false := by simp
  have e2 : (N != N) = false := by simp
  have e3 : (C != C) = false := by simp
  have HB := hide hb
  have H1 := hide h1
  have H2 := hide h2
  clear hb h1 h2
  unfold nagg
  simp only
  obtain ⟨W1, hW1⟩ : ∃ W1, (w.alloc (.cells #[.int .i64 K, .int .i64 N, t1, n1, y1, .int .i64 C] 42)).alloc (.cells #[.int .i64 K, .int .i64 N, t2, n2, y2, .int .i64 C] 42) = W1 := ⟨_, rfl⟩
  have hb0 : Below w.heap.size w W1 := by rw [← hW1]; exact ((Below.refl _ _).alloc (Nat.le_refl _) _).alloc (by simp) _
  have hA : Blk W1 w.heap.size 42 #[.int .i64 K, .int .i64 N, t1, n1, y1, .int .i64 C] := by rw [← hW1]; exact (Blk.new _ _ _).alloc _
  have hB : Blk W1 (w.heap.size + 1) 42 #[.int .i64 K, .int .i64 N, t2, n2, y2, .int .i64 C] := by
    rw [← hW1]
    have := Blk.new (w.alloc (.cells #[.int .i64 K, .int .i64 N, t1, n1, y1, .int .i64 C] 42)) 42 #[.int .i64 K, .int .i64 N, t2, n2, y2, .int .i64 C]
    simpa using this
  have HA := hide hA
  have HBB := hide hB
  have HB0 := hide hb0
  have HW := hide hW1
  clear hA hB hb0 hW1
  go_enter Tryd.func19, Tryd.ntmps19
  go_wp2_with fail
  rw [HW.out]
  refine (eqB_same HB.out.text (H1.out.text.below HB0.out) (H2.out.text.below HB0.out)).mono ?_
  rintro e w2 ⟨rfl, hb2⟩
  have HA2 := hide (HA.out.below hb2)
  have HBB2 := hide (HBB.out.below hb2)
  have HB2 : Hid (Below w.heap.size w w2) := HB0.out.trans (hb2.mono HB0.out.size)
  have c1 := HA2.out.cell 3
  have c2 := HBB2.out.cell 3
  simp only [List.getElem?_toArray, List.getElem?_cons_succ, List.getElem?_cons_zero] at c1 c2
  clear hb2 HA HBB HB0 HW
  go_wp2_with fail
  refine (eqSS_same HB.out.names HB.out.each (H1.out.names.below HB2.out) (H2.out.names.below HB2.out)).mono ?_
  rintro e w3 ⟨rfl, hb3⟩
  have HA3 := hide (HA2.out.below hb3)
  have HBB3 := hide (HBB2.out.below hb3)
  have HB3 : Hid (Below w.heap.size w w3) := HB2.out.trans (hb3.mono HB2.out.size)
  have c3 := HA3.out.cell 4
  have c4 := HBB3.out.cell 4
  simp only [List.getElem?_toArray, List.getElem?_cons_succ, List.getElem?_cons_zero] at c3 c4
  clear hb3 HA2 HBB2 HB2 c1 c2
  go_wp2_with fail
  refine (eqI_same HB.out.types (H1.out.types.below HB3.out) (H2.out.types.below HB3.out)).mono ?_
  rintro e w4 ⟨rfl, hb4⟩
  have HA4 := hide (HA3.out.below hb4)
  have HBB4 := hide (HBB3.out.below hb4)
  have HB4 : Hid (Below w.heap.size w w4) := HB3.out.trans (hb4.mono HB3.out.size)
  have c5 := HA4.out.cell 5
  have c6 := HBB4.out.cell 5
  simp only [List.getElem?_toArray, List.getElem?_cons_succ, List.getElem?_cons_zero] at c5 c6
  clear hb4 HA3 HBB3 HB3 c3 c4
  go_wp2
  go_ret
  exact ⟨rfl, HB4.out⟩

set_option maxHeartbeats 1000000 in
set_option maxRecDepth 1000000 in
theorem eqNS_same {w : World} {v1 v2 : Value} {L : List Nd} (hs : L.length ≤ 1048576) (hz : ∀ j, j < L.length → NB (L.getD j .zero)) (h1 : NS w v1 L) (h2 : NS w v2 L) :
    Calls Tryd.prog 8 #[v1, v2] w fun e w' => e = .returned (.bool true) ∧ Below w.heap.size w w' := by
  obtain ⟨a1, b1, o1, c1, rfl, ha1, hc1⟩ := h1
  obtain ⟨a2, b2, o2, c2, rfl, ha2, hc2⟩ := h2
  have HC1 := hide hc1
  have HC2 := hide hc2
  have HZ := hide hz
  clear hc1 hc2 hz
  have hne : ((L.length : Int) != (L.length : Int)) = false := by simp
  have hmx : Tryd.prog.follows .mixedOrders = true := by kernel_rfl
  go_enter Tryd.func8, Tryd.ntmps8
  go_wp2
  go_loopw [5] (fun i wr => ∃ k : Nat, k ≤ L.length ∧ i = .int .i64 k ∧ Below w.heap.size w wr) (fun i _ => L.length - (intOf i).toNat)
  case atStart => exact ⟨0, Nat.zero_le _, rfl, Below.refl _ _⟩
  case round =>
    obtain ⟨k, hk, rfl, hb⟩ := hrel
    have HB := hide hb
    by_cases hlt : k < L.length
    · obtain rfl := ha1 (by omega)
      obtain rfl := ha2 (by omega)
      obtain ⟨t1, n1, y1, q1, p1⟩ := HC1.out k hlt
      obtain ⟨t2, n2, y2, q2, p2⟩ := HC2.out k hlt
      have hzk := HZ.out k hlt
      obtain ⟨d, hd⟩ : ∃ d, L.getD k .zero = d := ⟨_, rfl⟩
      rw [hd] at p1 p2 hzk q1 q2
      have HE := hide (eqNd_same (w := wr.drew) hzk (p1.below hb.drew) (p2.below hb.drew))
      obtain ⟨g0, g1, g2, g3, g4, g5⟩ := q1.below hb
      obtain ⟨f0, f1, f2, f3, f4, f5⟩ := q2.below hb
      unfold nagg at HE
      obtain ⟨K, N, T, M, Y, C⟩ := d
      simp only at HE g0 g1 g5 f0 f1 f5
      have hbs := hb.size
      have hlti : (k : Int) < (L.length : Int) := by omega
      clear hb q1 q2 p1 p2 hd hzk
      go_wp2_with fail
      go_region_with (go_at_call 19; refine HE.out.mono ?_; rintro e w1 ⟨rfl, hb1⟩)
      all_goals have HB1 : Hid (Below w.heap.size w w1) := HB.out.drew.trans (hb1.mono hbs)
      all_goals clear hb1
      all_goals go_wp2
      all_goals
        go_roundw
        case rel => exact ⟨k + 1, by omega, by go_num, HB1.out⟩
        case measure => simp [intOf]; omega
    · have hge : ¬ (k : Int) < (L.length : Int) := by omega
      clear hb
      go_wp2
      go_ret
      exact ⟨rfl, HB.out⟩
end Go.Proofs.YtdlahabeegmjiaaDoor

namespace Go.Proofs.YtdlahabeegmjiaaDoor
open Go.RowKit

set_option maxHeartbeats 1000000 in
set_option maxRecDepth 1000000 in
theorem szNS_any (v : Value) (L : List Nd) (left : Int) (w : World) (h0 : 0 ≤ left) (hl : left ≤ 1048576) (hn : (L.length : Int) ≤ 9223372036854775807) (hz : ∀ j, j < L.length → NL (L.getD j .zero)) (h : NS w v L) :
    Calls Tryd.prog 4 #[v, .int .i64 left] w fun e w' => e = .returned (.int .i64 (szt L left)) ∧ Below w.heap.size w w' := by
  obtain ⟨a, b, o, c, rfl, ha, hc⟩ := h
  have e1 : IntKind.i64.wrap (left - (L.length : Int)) = left - L.length := by rw [IntKind.wrap_i64]; omega
  have HC := hide hc
  have HZ := hide hz
  clear hc hz
  by_cases c1 : left - (L.length : Int) < 0
  · have HS : Hid (szt L left = -1) := by show _ = _; unfold szt szl; rw [if_pos c1, if_pos (by omega)]
    have d1 : decide (left - (L.length : Int) < 0) = true := decide_eq_true c1
    go_enter Tryd.func4, Tryd.ntmps4
    go_wp2
    go_ret
    exact ⟨by rw [HS.out]; rfl, Below.refl _ _⟩
  · have HS : Hid (szt L left = szg L (left - L.length)) := by show _ = _; unfold szt szl; rw [if_neg c1, if_neg c1]
    have d1 : decide (left - (L.length : Int) < 0) = false := decide_eq_false c1
    go_enter Tryd.func4, Tryd.ntmps4
    go_wp2
    go_loopw [1, 5] (fun lf ix wr => ∃ (k : Nat) (l : Int), k ≤ L.length ∧ lf = .int .i64 l ∧ ix = .int .i64 k ∧ 0 ≤ l ∧ l ≤ 1048576 ∧ szg (L.drop k) l = szg L (left - L.length) ∧ Below w.heap.size w wr) (fun _ ix _ => L.length - (intOf ix).toNat)
    case atStart => exact ⟨0, left - L.length, Nat.zero_le _, rfl, rfl, by omega, by omega, rfl, Below.refl _ _⟩
    case round =>
      obtain ⟨k, l, hk, rfl, rfl, hl0, hl1, hsz, hbl⟩ := hrel
      have HBL := hide hbl
      by_cases hlt : k < L.length
      · obtain rfl := ha (by omega)
        obtain ⟨vt, vn, vy, hnc, hnv⟩ := HC.out k hlt
        have hzk := HZ.out k hlt
        rw [drop_at L .zero k hlt, szg] at hsz
        obtain ⟨d, hd⟩ : ∃ d, L.getD k .zero = d := ⟨_, rfl⟩
        rw [hd] at hnc hnv hzk hsz
        obtain ⟨g0, g1, g2, g3, g4, g5⟩ := hnc.below hbl
        have HT := hide (szN_any d vt vn vy l wr hl0 hl1 hzk (hnv.below hbl))
        obtain ⟨k1, k2, _⟩ := szn_le d l hl0 hl1
        obtain ⟨r, hr⟩ : ∃ r, szn d l = r := ⟨_, rfl⟩
        rw [hr] at HT hsz k1 k2
        unfold nagg at HT
        clear hr hd hzk hnc hnv
        obtain ⟨K, N, T, M, Y, C⟩ := d
        simp only at HT g0 g1 g5
        have hlti : (k : Int) < (L.length : Int) := by omega
        have HSZ := hide hsz
        clear hsz hbl
        go_wp2_with fail
        refine HT.out.mono ?_
        rintro e w2 ⟨rfl, hb2⟩
        have HB2 : Hid (Below w.heap.size w w2) := HBL.out.trans (hb2.mono HBL.out.size)
        clear hb2
        by_cases c2 : r < 0
        · have d2 : decide (r < 0) = true := decide_eq_true c2
          have HR : Hid (szg L (left - L.length) = -1) := by show _ = _; rw [← HSZ.out, if_pos c2]
          go_wp2
          go_ret
          exact ⟨by rw [HS.out, HR.out]; rfl, HB2.out⟩
        · have d2 : decide (r < 0) = false := decide_eq_false c2
          have HR : Hid (szg (L.drop (k + 1)) r = szg L (left - L.length)) := by show _ = _; rw [← HSZ.out, if_neg c2]
          go_wp2
          go_roundw
          case rel => exact ⟨k + 1, r, by omega, rfl, by go_num, by omega, by omega, HR.out, HB2.out⟩
          case measure => simp [intOf]; omega
      · have e : k = L.length := by omega
        have hge : ¬ (k : Int) < (L.length : Int) := by omega
        have HR : Hid (szg L (left - L.length) = l) := by show _ = _; rw [← hsz, e, List.drop_length, szg]
        clear hsz hbl
        go_wp2
        go_ret
        exact ⟨by rw [HS.out, HR.out]; rfl, HBL.out⟩
end Go.Proofs.YtdlahabeegmjiaaDoor

namespace Go.Proofs.YtdlahabeegmjiaaDoor
open Go.RowKit

theorem okN_nn {L : List Nd} : ∀ i, okN L i = true → 0 ≤ cn L i := fun i h => by
  unfold okN at h
  rw [Bool.and_eq_true] at h
  exact vCnt_nn h.2
theorem end_other {L : List Nd} (h0 : 0 < L.length) (h : sE L.length (cn L) 60 0 ≠ some L.length) : (bE L.length (cn L) (okN L) (stN L) 60 0 == L.length) = false := by
  rw [beq_eq_false_iff_ne]
  intro g
  exact h ((bE_sE okN_nn 60 (Nat.le_refl _) 0 L.length h0 (by omega)).1 g).1
theorem end_good {L : List Nd} (h0 : 0 < L.length) (h : sE L.length (cn L) 60 0 = some L.length) : (bE L.length (cn L) (okN L) (stN L) 60 0 == L.length) = sG L.length (cn L) (okN L) (stN L) 60 0 := by
  have g := bE_sE (okN_nn (L := L)) (st := stN L) 60 (Nat.le_refl _) 0 L.length h0 (by omega)
  rw [Bool.eq_iff_iff, beq_iff_eq, g]
  exact ⟨fun x => x.2, fun x => ⟨h, x⟩⟩

set_option maxHeartbeats 1000000 in
set_option maxRecDepth 1000000 in
theorem specValid_any (v : Value) (L : List Nd) (w : World) (hl : L.length ≤ 1048576) (hz : ∀ j, j < L.length → NB (L.getD j .zero)) (h : NS w v L) :
    Calls Tryd.prog 10 #[v] w fun e w' => e = .returned (.bool (vT L)) ∧ Below w.heap.size w w' := by
  by_cases h0 : L.length = 0
  · obtain ⟨a, b, o, c, rfl, ha, hc⟩ := h
    have HV := hide (vT_none h0)
    rw [h0]
    clear ha hc h0 hl hz
    go_enter Tryd.func10, Tryd.ntmps10
    go_wp2
    go_ret
    exact ⟨by rw [HV.out]; rfl, Below.refl _ _⟩
  have d0 : decide ((L.length : Int) < 1) = false := decide_eq_false (by omega)
  by_cases h1 : ¬ L.length ≤ 4000
  · obtain ⟨a, b, o, c, rfl, ha, hc⟩ := h
    have HV := hide (vT_long h1)
    have d1 : decide ((4000 : Int) < (L.length : Int)) = true := decide_eq_true (by omega)
    clear ha hc h0 hz h1
    go_enter Tryd.func10, Tryd.ntmps10
    go_wp2
    go_ret
    exact ⟨by rw [HV.out]; rfl, Below.refl _ _⟩
  have h1' : L.length ≤ 4000 := by omega
  have d1 : decide ((4000 : Int) < (L.length : Int)) = false := decide_eq_false (by omega)
  have HC := hide (l2end_any v L hl 60 (Nat.le_refl _) 0 w (by omega) h)
  have HG := hide (fun e => l2good_any v L hl hz 60 (Nat.le_refl _) 0 e w)
  have HNS := hide h
  obtain ⟨a, b, o, c, rfl, ha, hc⟩ := h
  obtain rfl := ha (by omega)
  obtain ⟨vt, vn, vy, hN, _⟩ := hc 0 (by omega)
  have g0 := hN.kind
  rw [Nat.zero_mul, Nat.add_zero] at g0
  have hlI : (0 : Int) < (L.length : Int) := by omega
  by_cases h2 : (L.getD 0 .zero).kind = 0
  · have hVE := vT_end (by omega) h1' h2
    rw [h2] at g0
    by_cases hs : sE L.length (cn L) 60 0 = some L.length
    · rw [end_good (by omega) hs] at hVE
      have HH := hide (HG.out L.length hs HNS.out)
      rw [← hVE] at HH
      rw [hs] at HC
      have e2 : (((L.length : Nat) : Int) == ((L.length : Nat) : Int)) = true := by rw [beq_iff_eq]
      obtain ⟨V, hV⟩ : ∃ V, vT L = V := ⟨_, rfl⟩
      rw [hV] at HH ⊢
      unfold oi at HC
      clear ha hc hN hz h1 h1' h2 hVE hs HG h0 hV
      go_enter Tryd.func10, Tryd.ntmps10
      go_wp2_with fail
      refine HC.out.mono ?_
      rintro e w1 ⟨rfl, rfl⟩
      go_wp2_with fail
      refine HH.out.mono ?_
      rintro e w1 ⟨rfl, hb1⟩
      have HB := hide hb1
      clear hb1
      go_wp2
      go_ret
      exact ⟨rfl, HB.out⟩
    · rw [end_other (by omega) hs] at hVE
      have HV := hide hVE
      have e2 : (oi (sE L.length (cn L) 60 0) == (L.length : Int)) = false := by
        rw [beq_eq_false_iff_ne]
        intro g
        cases hx : sE L.length (cn L) 60 0 with
        | none => rw [hx] at g; have g' : (-1 : Int) = (L.length : Int) := g; omega
        | some q => rw [hx] at g; have g' : (q : Int) = (L.length : Int) := g; exact hs (by rw [hx, show q = L.length by omega])
      obtain ⟨E, hE⟩ : ∃ E, oi (sE L.length (cn L) 60 0) = E := ⟨_, rfl⟩
      rw [hE] at HC e2
      clear ha hc hN hz h1 h1' h2 hVE hs HG h0 hE
      go_enter Tryd.func10, Tryd.ntmps10
      go_wp2_with fail
      refine HC.out.mono ?_
      rintro e w1 ⟨rfl, rfl⟩
      go_wp2
      go_ret
      exact ⟨by rw [HV.out]; rfl, Below.refl _ _⟩
  · have HV := hide (vT_kind h2)
    have d2 : ((L.getD 0 .zero).kind != 0) = true := by rw [bne_iff_ne]; exact h2
    obtain ⟨kk, hkk⟩ : ∃ kk, (L.getD 0 .zero).kind = kk := ⟨_, rfl⟩
    rw [hkk] at g0 d2
    clear ha hc hN hz h1 h1' h2 hkk h0 HG HC
    go_enter Tryd.func10, Tryd.ntmps10
    go_wp2
    go_ret
    exact ⟨by rw [HV.out]; rfl, Below.refl _ _⟩

theorem bool_bne (b : Bool) : (b != b) = false := by cases b <;> rfl

end Go.Proofs.YtdlahabeegmjiaaDoor

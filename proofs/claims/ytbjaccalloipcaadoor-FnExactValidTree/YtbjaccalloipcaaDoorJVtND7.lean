/-
  The walk of szNodeS.
-/
import Derived.Test.YtbjaccalloipcaaDoorJVtND6
namespace Go.Proofs.YtbjaccalloipcaaDoor
open Go.RowKit

set_option maxHeartbeats 1000000 in
set_option maxRecDepth 1000000 in
theorem szNS_any (v : Value) (L : List Nd) (left : Int) (w : World) (h0 : 0 ≤ left) (hl : left ≤ 1048576) (hn : (L.length : Int) ≤ 9223372036854775807) (hz : ∀ j, j < L.length → NL (L.getD j .zero)) (h : NS w v L) :
    Calls Tryd.prog 4 #[v, .int .i64 left] w fun e w' => e = .returned (.int .i64 (szt L left)) ∧ Below w.heap.size w w' := by
  obtain ⟨a, b, o, c, rfl, ha, hc⟩ := h
  have e1 : IntKind.i64.wrap (left - (L.length : Int)) = left - L.length := by rw [IntKind.wrap_i64]; omega
  have HC := hide hc
  have HZ := hide hz
  clear hc hz
  by_cases c1 : left - (L.length : Int) < 0
  · have HS : Hid (szt L left = -1) := by show _ = _; unfold szt szl; rw [if_pos c1, if_pos (by omega)]
    have d1 : decide (left - (L.length : Int) < 0) = true := decide_eq_true c1
    go_enter Tryd.func4, Tryd.ntmps4
    go_wp2
    go_ret
    exact ⟨by rw [HS.out]; rfl, Below.refl _ _⟩
  · have HS : Hid (szt L left = szg L (left - L.length)) := by show _ = _; unfold szt szl; rw [if_neg c1, if_neg c1]
    have d1 : decide (left - (L.length : Int) < 0) = false := decide_eq_false c1
    go_enter Tryd.func4, Tryd.ntmps4
    go_wp2
    go_loopw [1, 5] (fun lf ix wr => ∃ (k : Nat) (l : Int), k ≤ L.length ∧ lf = .int .i64 l ∧ ix = .int .i64 k ∧ 0 ≤ l ∧ l ≤ 1048576 ∧ szg (L.drop k) l = szg L (left - L.length) ∧ Below w.heap.size w wr) (fun _ ix _ => L.length - (intOf ix).toNat)
    case atStart => exact ⟨0, left - L.length, Nat.zero_le _, rfl, rfl, by omega, by omega, rfl, Below.refl _ _⟩
    case round =>
      obtain ⟨k, l, hk, rfl, rfl, hl0, hl1, hsz, hbl⟩ := hrel
      have HBL := hide hbl
      by_cases hlt : k < L.length
      · obtain rfl := ha (by omega)
        obtain ⟨vt, vn, vy, hnc, hnv⟩ := HC.out k hlt
        have hzk := HZ.out k hlt
        rw [drop_at L .zero k hlt, szg] at hsz
        obtain ⟨d, hd⟩ : ∃ d, L.getD k .zero = d := ⟨_, rfl⟩
        rw [hd] at hnc hnv hzk hsz
        obtain ⟨g0, g1, g2, g3, g4, g5⟩ := hnc.below hbl
        have HT := hide (szN_any d vt vn vy l wr hl0 hl1 hzk (hnv.below hbl))
        obtain ⟨k1, k2, _⟩ := szn_le d l hl0 hl1
        obtain ⟨r, hr⟩ : ∃ r, szn d l = r := ⟨_, rfl⟩
        rw [hr] at HT hsz k1 k2
        unfold nagg at HT
        clear hr hd hzk hnc hnv
        obtain ⟨K, N, T, M, Y, C⟩ := d
        simp only at HT g0 g1 g5
        have hlti : (k : Int) < (L.length : Int) := by omega
        have HSZ := hide hsz
        clear hsz hbl
        go_wp2_with fail
        refine HT.out.mono ?_
        rintro e w2 ⟨rfl, hb2⟩
        have HB2 : Hid (Below w.heap.size w w2) := HBL.out.trans (hb2.mono HBL.out.size)
        clear hb2
        by_cases c2 : r < 0
        · have d2 : decide (r < 0) = true := decide_eq_true c2
          have HR : Hid (szg L (left - L.length) = -1) := by show _ = _; rw [← HSZ.out, if_pos c2]
          go_wp2
          go_ret
          exact ⟨by rw [HS.out, HR.out]; rfl, HB2.out⟩
        · have d2 : decide (r < 0) = false := decide_eq_false c2
          have HR : Hid (szg (L.drop (k + 1)) r = szg L (left - L.length)) := by show _ = _; rw [← HSZ.out, if_neg c2]
          go_wp2
          go_roundw
          case rel => exact ⟨k + 1, r, by omega, rfl, by go_num, by omega, by omega, HR.out, HB2.out⟩
          case measure => simp [intOf]; omega
      · have e : k = L.length := by omega
        have hge : ¬ (k : Int) < (L.length : Int) := by omega
        have HR : Hid (szg L (left - L.length) = l) := by show _ = _; rw [← hsz, e, List.drop_length, szg]
        clear hsz hbl
        go_wp2
        go_ret
        exact ⟨by rw [HS.out, HR.out]; rfl, HBL.out⟩
end Go.Proofs.YtbjaccalloipcaaDoor

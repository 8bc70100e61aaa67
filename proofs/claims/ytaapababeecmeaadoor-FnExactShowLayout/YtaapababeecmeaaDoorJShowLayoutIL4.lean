/-
  The walks of slices.ContainsFunc and slices.IndexFunc over targets, at the function that looks for a wall.
  A side that may stand.
-/
import Derived.Test.YtaapababeecmeaaDoorJShowLayoutIL2
import Derived.Test.YtaapababeecmeaaDoorJShowLayoutSLY
import Derived.Test.YtaapababeecmeaaDoorJShowLayoutIL3
import Derived.Test.YtaapababeecmeaaDoorJShowLayoutKP
namespace Go.Proofs.YtaapababeecmeaaDoor
open Go.RowKit

set_option maxHeartbeats 1000000 in
set_option maxRecDepth 1000000 in
theorem onWall_any (d : Ly) (v2 v3 v4 : Value) (a : Option Addr) (n c : Nat) (kd : Int) (m B : Nat) (w : World) (hB : Blk w B 30 #[.int .i64 d.w, .int .i64 d.h, v2, v3, v4]) (hv : IS w v2 d.cost) (hm : m < d.cost.length) :
    Calls Tryd.prog 33 #[.agg #[.slice a n c, .int .i64 kd, .int .i64 (m : Nat)], .pointer (some ⟨B, 0, none⟩)] w fun e w' => e = .returned (.bool (d.cost.getD m 0 == 0)) ∧ Below w.heap.size w w' := by
  obtain ⟨a2, b2, o2, c2, rfl, ha2, hc2⟩ := hv
  obtain rfl := ha2 (by omega)
  obtain ⟨W1, hW1⟩ : ∃ W, w.alloc (.cells #[.slice a n c, .int .i64 kd, .int .i64 (m : Nat)] 50) = W := ⟨_, rfl⟩
  have hb1 : Below w.heap.size w W1 := by rw [← hW1]; exact (Below.refl _ _).alloc (Nat.le_refl _) _
  have hT1 : Blk W1 w.heap.size 50 #[.slice a n c, .int .i64 kd, .int .i64 (m : Nat)] := by rw [← hW1]; exact Blk.new _ _ _
  have z2 := (hB.below hb1).cell 2
  have x2 := hT1.cell 2
  simp only [List.getElem?_toArray, List.getElem?_cons_succ, List.getElem?_cons_zero] at z2 x2
  have hcm := cell_kept (hc2 m hm) hb1
  have hml : (m : Int) < (d.cost.length : Int) := by omega
  obtain ⟨g, hg⟩ : ∃ g, d.cost.getD m 0 = g := ⟨_, rfl⟩
  rw [hg] at hcm ⊢
  have HB1 := hide hb1
  clear hg hb1 hT1 hB hc2
  go_enter Tryd.func33, Tryd.ntmps33
  go_wp2
  go_ret
  exact ⟨rfl, HB1.out⟩

set_option maxHeartbeats 2000000 in
set_option maxRecDepth 1000000 in
theorem indexWall_any (d : Ly) (v2 v3 v4 v : Value) (L : List Tg) (B : Nat) (w : World) (hB : Blk w B 30 #[.int .i64 d.w, .int .i64 d.h, v2, v3, v4]) (hv : IS w v2 d.cost) (hl : L.length ≤ 30) (hcs : ∀ i, i < L.length → 0 ≤ (L.getD i .zero).cell ∧ (L.getD i .zero).cell < d.cost.length) (h : TgS w v L) :
    Calls Tryd.prog 55 #[v, .func (.func 33) #[] #[.pointer (some ⟨B, 0, none⟩)]] w fun e w' => (∃ r : Int, e = .returned (.int .i64 r) ∧ (0 ≤ r ↔ ∃ i, i < L.length ∧ d.cost.getD (L.getD i .zero).cell.toNat 0 = 0)) ∧ Below w.heap.size w w' := by
  obtain ⟨a, b, o, c, rfl, ha, hc⟩ := h
  have HC := hide hc
  have HCS := hide hcs
  have HBK := hide hB
  have HV := hide hv
  clear hc hcs hB hv
  go_enter Tryd.func55, Tryd.ntmps55
  go_wp2
  go_loopw [8] (fun ix wr => ∃ k : Nat, k ≤ L.length ∧ ix = .int .i64 k ∧ (∀ i, i < k → d.cost.getD (L.getD i .zero).cell.toNat 0 ≠ 0) ∧ Below w.heap.size w wr) (fun ix _ => L.length - (intOf ix).toNat)
  case atStart => exact ⟨0, Nat.zero_le _, rfl, fun _ h => absurd h (Nat.not_lt_zero _), Below.refl _ _⟩
  case round =>
    obtain ⟨k, hk, rfl, hne, hbl⟩ := hrel
    have HNE := hide hne
    have HB := hide hbl
    clear hne
    by_cases hlt : k < L.length
    · have hlti : (k : Int) < (L.length : Int) := by omega
      obtain rfl := ha (by omega)
      obtain ⟨v0, hnc, hnv⟩ := HC.out k hlt
      obtain ⟨hz0, hz1⟩ := HCS.out k hlt
      obtain ⟨t, ht⟩ : ∃ t, L.getD k .zero = t := ⟨_, rfl⟩
      rw [ht] at hnc hnv hz0 hz1
      have HTD := hide ht
      obtain ⟨m, hm⟩ : ∃ m : Nat, t.cell = m := ⟨t.cell.toNat, by omega⟩
      have HMD := hide hm
      obtain ⟨g0, g1, g2⟩ := hnc.below hbl
      obtain ⟨av, cv, hv⟩ := hnv.name.slice
      subst hv
      rw [hm] at g2
      have HW := hide (onWall_any d v2 v3 v4 av t.name.size cv t.kind m B wr (HBK.out.below hbl) (HV.out.below hbl) (by omega))
      obtain ⟨g, hg⟩ : ∃ g, (d.cost.getD m 0 == 0) = g := ⟨_, rfl⟩
      rw [hg] at HW
      have HG := hide hg
      clear hnc hnv hm ht hbl hg hz0 hz1
      cases g with
      | true =>
        have HR : Hid (d.cost.getD (L.getD k .zero).cell.toNat 0 = 0) := by
          show _ = _
          rw [HTD.out, HMD.out, Int.toNat_natCast]; exact beq_iff_eq.1 HG.out
        go_wp2_with fail
        refine HW.out.mono ?_
        rintro e w5 ⟨rfl, hb5⟩
        have HB5 : Hid (Below w.heap.size w w5) := HB.out.trans (hb5.mono HB.out.size)
        clear hb5
        go_wp2
        go_ret
        exact ⟨⟨k, rfl, ⟨fun _ => ⟨k, hlt, HR.out⟩, fun _ => by omega⟩⟩, HB5.out⟩
      | false =>
        have HNE1 : Hid (∀ i, i < k + 1 → d.cost.getD (L.getD i .zero).cell.toNat 0 ≠ 0) := fun i hi => by
          by_cases e : i = k
          · subst e
            rw [HTD.out, HMD.out, Int.toNat_natCast]; exact beq_eq_false_iff_ne.1 HG.out
          · exact HNE.out i (by omega)
        go_wp2_with fail
        refine HW.out.mono ?_
        rintro e w5 ⟨rfl, hb5⟩
        have HB5 : Hid (Below w.heap.size w w5) := HB.out.trans (hb5.mono HB.out.size)
        clear hb5
        go_wp2
        go_roundw
        case rel => exact ⟨k + 1, by omega, by go_num, HNE1.out, HB5.out⟩
        case measure => simp [intOf]; omega
    · have hge : ¬ (k : Int) < (L.length : Int) := by omega
      clear hbl
      go_wp2
      go_ret
      exact ⟨⟨-1, rfl, ⟨fun h => by omega, fun ⟨i, hi, he⟩ => absurd he (HNE.out i (by omega))⟩⟩, HB.out⟩

set_option maxHeartbeats 1000000 in
set_option maxRecDepth 1000000 in
theorem anyWall_any (d : Ly) (v2 v3 v4 v : Value) (L : List Tg) (B : Nat) (w : World) (hB : Blk w B 30 #[.int .i64 d.w, .int .i64 d.h, v2, v3, v4]) (hv : IS w v2 d.cost) (hl : L.length ≤ 30) (hcs : ∀ i, i < L.length → 0 ≤ (L.getD i .zero).cell ∧ (L.getD i .zero).cell < d.cost.length) (h : TgS w v L) :
    Calls Tryd.prog 32 #[v, .func (.func 33) #[] #[.pointer (some ⟨B, 0, none⟩)]] w fun e w' => Ans (∃ i, i < L.length ∧ d.cost.getD (L.getD i .zero).cell.toNat 0 = 0) e ∧ Below w.heap.size w w' := by
  have HI := hide (indexWall_any d v2 v3 v4 v L B w hB hv hl hcs h)
  clear hB hv hcs h
  go_enter Tryd.func32, Tryd.ntmps32
  go_wp2_with fail
  refine HI.out.mono ?_
  rintro e w5 ⟨⟨r, rfl, hr⟩, hb5⟩
  have HB5 := hide hb5
  have HR := hide hr
  clear hb5 hr
  by_cases q : 0 ≤ r
  · have t : decide (0 ≤ r) = true := decide_eq_true q
    go_wp2
    go_ret
    exact ⟨Ans.yes (HR.out.1 q), HB5.out⟩
  · have t : decide (0 ≤ r) = false := decide_eq_false q
    go_wp2
    go_ret
    exact ⟨Ans.no (fun h => absurd (HR.out.2 h) (by omega)), HB5.out⟩
end Go.Proofs.YtaapababeecmeaaDoor

namespace Go.Proofs.YtaapababeecmeaaDoor
open Go.RowKit

/-- A side that may stand. -/
def sdB (n : Int) : Bool := decide (1 ≤ n) && decide (n ≤ 40)
theorem sdB_t {n : Int} (h : sdB n = true) : 1 ≤ n ∧ n ≤ 40 := by
  unfold sdB at h
  rw [Bool.and_eq_true] at h
  exact ⟨of_decide_eq_true h.1, of_decide_eq_true h.2⟩
theorem sdB_f {n : Int} (h : sdB n = false) : ¬ (1 ≤ n ∧ n ≤ 40) := fun ⟨h1, h2⟩ => by
  unfold sdB at h
  rw [decide_eq_true h1, decide_eq_true h2] at h
  cases h
theorem isSide_sd (n : Int) (w : World) : Calls Tryd.prog 29 #[.int .i64 n] w fun e w' => e = .returned (.bool (sdB n)) ∧ w' = w := isSide_any n w
end Go.Proofs.YtaapababeecmeaaDoor

/-
  heldIntS at any slice.
  The walk of heldGraph.
-/
import Derived.Test.YtplbbfloebhjjaaJRvMK
import Derived.Test.YtplbbfloebhjjaaJRvGrF
namespace Go.Proofs.Ytplbbfloebhjjaa
open Go.RowKit

set_option maxHeartbeats 400000 in
set_option maxRecDepth 1000000 in
theorem heldI_w (a0 : Option Addr) (b o n cap k0 : Nat) (w : World) (hn : n ≤ 100000000) (hk0 : k0 ≤ 1000000000000000000) (ha : 0 < n → a0 = some ⟨b, o, none⟩) (hc : ∀ j, j < n → w.cell? ⟨b, o + j, none⟩ = some (mkI (k0 + j))) :
    Calls Try.prog 16 #[.slice a0 n cap, .int .i64 k0] w fun e w' => e = .returned (.int .i64 (k0 + n : Nat)) ∧ w' = w := by
  have HC := hide hc
  clear hc
  go_enter Try.func16, Try.ntmps16
  go_wp2
  go_loop [1, 5] (fun kk i => ∃ m : Nat, m ≤ n ∧ i = .int .i64 m ∧ kk = .int .i64 (k0 + m : Nat)) (fun _ i => n - (intOf i).toNat)
  case atStart => exact ⟨0, Nat.zero_le _, rfl, rfl⟩
  case round =>
    obtain ⟨m, hm, rfl, rfl⟩ := hrel
    by_cases hlt : m < n
    · obtain rfl := ha (by omega)
      have g1 : w.cell? ⟨b, o + m, none⟩ = some (.int .i64 ((k0 : Int) + (m : Int))) := by
        rw [HC.out m hlt]; unfold mkI; congr 2
      have hne : (((k0 : Int) + (m : Int)) != ((k0 : Int) + (m : Int))) = false := by simp
      go_wp2
      go_round
      case rel => exact ⟨m + 1, by omega, by go_num, by go_num⟩
      case measure => simp [intOf]; omega
    · have e : m = n := by omega
      subst e
      go_wp2
      go_ret
      exact ⟨rfl, rfl⟩

theorem heldI_f {w : World} {v : Value} {n k : Nat} {bl : List Nat} (hs : n ≤ 100000000) (hk : k ≤ 1000000000000000000) (h : IM w v n k bl) :
    Calls Try.prog 16 #[v, .int .i64 (k : Nat)] w fun e w' => e = .returned (.int .i64 (k + n : Nat)) ∧ w' = w := by
  obtain ⟨a, b, o, c, rfl, h2, rfl, h3⟩ := h
  exact heldI_w a b o n c k w hs hk h2 h3
end Go.Proofs.Ytplbbfloebhjjaa

namespace Go.Proofs.Ytplbbfloebhjjaa
open Go.RowKit

set_option maxHeartbeats 4000000 in
set_option maxRecDepth 1000000 in
theorem heldGr_f {w : World} {d : Gr} {v1 v2 v3 v4 : Value} {bl : List Nat} {k : Nat} (hb : GrB d) (hk : k ≤ 100000000000000) (h : GrM w d v1 v2 v3 v4 k bl) :
    Calls Try.prog 11 #[gragg d v1 v2 v3 v4, .int .i64 (k : Nat)] w fun e w' => e = .returned (.int .i64 (k + GrNv d : Nat)) ∧ Below w.heap.size w w' := by
  obtain ⟨x0, x1, x2, x3, x4⟩ := d
  have hb1 := hb.start
  have hb2 := hb.to
  have hb3 := hb.dir
  have hb4 := hb.cost
  simp only at hb1 hb2 hb3 hb4
  have HNV : Hid (GrNv ⟨x0, x1, x2, x3, x4⟩ = x1.length + x2.length + x3.length + x4.length) := rfl
  have hc1 : x1.length ≤ 2000000000000 := by omega
  have hc2 : x2.length ≤ 2000000000000 := by omega
  have hc3 : x3.length ≤ 2000000000000 := by omega
  have hc4 : x4.length ≤ 2000000000000 := by omega
  obtain ⟨bl1, bl2, bl3, bl4, hbl, h1, h2, h3, h4⟩ := h
  simp only at h1 h2 h3 h4
  obtain ⟨a1, c1, e1⟩ := h1.slice
  obtain ⟨a2, c2, e2⟩ := h2.slice
  obtain ⟨a3, c3, e3⟩ := h3.slice
  obtain ⟨a4, c4, e4⟩ := h4.slice
  subst e1 e2 e3 e4
  have HBL := hide hbl
  clear hbl hb
  unfold gragg
  simp only
  obtain ⟨W0, hW0⟩ : ∃ W, w.alloc (.cells #[.int .i64 x0, .slice a1 (x1.length) c1, .slice a2 (x2.length) c2, .slice a3 (x3.length) c3, .slice a4 (x4.length) c4] 26) = W := ⟨_, rfl⟩
  have HB0 : Hid (Below w.heap.size w W0) := by rw [← hW0]; exact (Below.refl _ _).alloc (Nat.le_refl _) _
  have HA0 : Hid (Blk W0 w.heap.size 26 #[.int .i64 x0, .slice a1 (x1.length) c1, .slice a2 (x2.length) c2, .slice a3 (x3.length) c3, .slice a4 (x4.length) c4]) := by rw [← hW0]; exact Blk.new _ _ _
  have HZ : Hid ((∀ g ∈ bl1, g < w.heap.size) ∧ (∀ g ∈ bl2, g < w.heap.size) ∧ (∀ g ∈ bl3, g < w.heap.size) ∧ (∀ g ∈ bl4, g < w.heap.size)) := ⟨h1.lt, h2.lt, h3.lt, h4.lt⟩
  have H1_0 := hide (h1.below HB0.out)
  have H2_0 := hide (h2.below HB0.out)
  have H3_0 := hide (h3.below HB0.out)
  have H4_0 := hide (h4.below HB0.out)
  have HW := hide hW0
  clear hW0 h1 h2 h3 h4
  go_enter Try.func11, Try.ntmps11
  go_wp2_with fail
  rw [HW.out]
  clear HW
  refine (heldI_f (k := k) (by omega) (by omega) H1_0.out).mono ?_
  rintro e w2 ⟨rfl, hw2⟩
  subst hw2
  obtain ⟨k2, hk2⟩ : ∃ k2, k + x1.length = k2 := ⟨_, rfl⟩
  rw [hk2]
  have HK2 := hide hk2
  have hkb2 : k2 ≤ 103000000000000 := by omega
  clear hk2
  have hk02 : decide ((k2 : Int) < 0) = false := decide_eq_false (by omega)
  have z2 := HA0.out.cell 2
  simp only [List.getElem?_toArray, List.getElem?_cons_succ, List.getElem?_cons_zero] at z2
  go_wp2_with fail
  clear z2
  refine (heldI_f (n := x2.length) (k := k2) (by omega) (by omega) (by rw [← HK2.out]; exact H2_0.out)).mono ?_
  rintro e w3 ⟨rfl, hw3⟩
  subst hw3
  obtain ⟨k3, hk3⟩ : ∃ k3, k2 + x2.length = k3 := ⟨_, rfl⟩
  rw [hk3]
  have HK3 := hide hk3
  have hkb3 : k3 ≤ 106000000000000 := by omega
  clear hk3
  have hk03 : decide ((k3 : Int) < 0) = false := decide_eq_false (by omega)
  have z3 := HA0.out.cell 3
  simp only [List.getElem?_toArray, List.getElem?_cons_succ, List.getElem?_cons_zero] at z3
  go_wp2_with fail
  clear z3
  refine (heldI_f (n := x3.length) (k := k3) (by omega) (by omega) (by rw [← HK3.out, ← HK2.out]; exact H3_0.out)).mono ?_
  rintro e w4 ⟨rfl, hw4⟩
  subst hw4
  obtain ⟨k4, hk4⟩ : ∃ k4, k3 + x3.length = k4 := ⟨_, rfl⟩
  rw [hk4]
  have HK4 := hide hk4
  have hkb4 : k4 ≤ 109000000000000 := by omega
  clear hk4
  have hk04 : decide ((k4 : Int) < 0) = false := decide_eq_false (by omega)
  have z4 := HA0.out.cell 4
  simp only [List.getElem?_toArray, List.getElem?_cons_succ, List.getElem?_cons_zero] at z4
  go_wp2_with fail
  clear z4
  refine (heldI_f (n := x4.length) (k := k4) (by omega) (by omega) (by rw [← HK4.out, ← HK3.out, ← HK2.out]; exact H4_0.out)).mono ?_
  rintro e w5 ⟨rfl, hw5⟩
  subst hw5
  obtain ⟨k5, hk5⟩ : ∃ k5, k4 + x4.length = k5 := ⟨_, rfl⟩
  rw [hk5]
  have HK5 := hide hk5
  have hkb5 : k5 ≤ 112000000000000 := by omega
  clear hk5
  have hk05 : decide ((k5 : Int) < 0) = false := decide_eq_false (by omega)
  go_wp2
  go_ret
  refine ⟨?_, HB0.out⟩
  have e2 := HK2.out; have e3 := HK3.out; have e4 := HK4.out; have e5 := HK5.out
  have ek : k + GrNv ⟨x0, x1, x2, x3, x4⟩ = k5 := by rw [HNV.out]; omega
  rw [ek]
  rfl
end Go.Proofs.Ytplbbfloebhjjaa

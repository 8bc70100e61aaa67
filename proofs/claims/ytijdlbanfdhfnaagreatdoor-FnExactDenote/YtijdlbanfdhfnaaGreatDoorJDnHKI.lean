/-
  heldIntS at any slice.
  heldByteS at any slice.
  The walk of heldTargetS.
  The walk of heldLayout.
-/
import Derived.Test.YtijdlbanfdhfnaaGreatDoorJDnDc2
import Derived.Test.YtijdlbanfdhfnaaGreatDoorJDnTgS2
namespace Go.Proofs.YtijdlbanfdhfnaaGreatDoor
open Go.RowKit

set_option maxHeartbeats 400000 in
set_option maxRecDepth 1000000 in
theorem heldI_w (a0 : Option Addr) (b o n cap k0 : Nat) (w : World) (hn : n ≤ 100000000) (hk0 : k0 ≤ 1000000000000000000) (ha : 0 < n → a0 = some ⟨b, o, none⟩) (hc : ∀ j, j < n → w.cell? ⟨b, o + j, none⟩ = some (mkI (k0 + j))) :
    Calls Tryz.prog 36 #[.slice a0 n cap, .int .i64 k0] w fun e w' => e = .returned (.int .i64 (k0 + n : Nat)) ∧ w' = w := by
  have HC := hide hc
  clear hc
  go_enter Tryz.func36, Tryz.ntmps36
  go_wp2
  go_loop [1, 5] (fun kk i => ∃ m : Nat, m ≤ n ∧ i = .int .i64 m ∧ kk = .int .i64 (k0 + m : Nat)) (fun _ i => n - (intOf i).toNat)
  case atStart => exact ⟨0, Nat.zero_le _, rfl, rfl⟩
  case round =>
    obtain ⟨m, hm, rfl, rfl⟩ := hrel
    by_cases hlt : m < n
    · obtain rfl := ha (by omega)
      have g1 : w.cell? ⟨b, o + m, none⟩ = some (.int .i64 ((k0 : Int) + (m : Int))) := by
        rw [HC.out m hlt]; unfold mkI; congr 2
      have hne : (((k0 : Int) + (m : Int)) != ((k0 : Int) + (m : Int))) = false := by simp
      go_wp2
      go_round
      case rel => exact ⟨m + 1, by omega, by go_num, by go_num⟩
      case measure => simp [intOf]; omega
    · have e : m = n := by omega
      subst e
      go_wp2
      go_ret
      exact ⟨rfl, rfl⟩

theorem heldI_f {w : World} {v : Value} {n k : Nat} {bl : List Nat} (hs : n ≤ 100000000) (hk : k ≤ 1000000000000000000) (h : IM w v n k bl) :
    Calls Tryz.prog 36 #[v, .int .i64 (k : Nat)] w fun e w' => e = .returned (.int .i64 (k + n : Nat)) ∧ w' = w := by
  obtain ⟨a, b, o, c, rfl, h2, rfl, h3⟩ := h
  exact heldI_w a b o n c k w hs hk h2 h3
end Go.Proofs.YtijdlbanfdhfnaaGreatDoor

namespace Go.Proofs.YtijdlbanfdhfnaaGreatDoor
open Go.RowKit

set_option maxHeartbeats 400000 in
set_option maxRecDepth 1000000 in
theorem heldB_w (a0 : Option Addr) (b o n cap k0 : Nat) (w : World) (hn : n ≤ 100000000) (hk0 : k0 ≤ 1000000000000000000) (ha : 0 < n → a0 = some ⟨b, o, none⟩) (hc : ∀ j, j < n → w.cell? ⟨b, o + j, none⟩ = some (mkB (k0 + j))) :
    Calls Tryz.prog 64 #[.slice a0 n cap, .int .i64 k0] w fun e w' => e = .returned (.int .i64 (k0 + n : Nat)) ∧ w' = w := by
  have HC := hide hc
  clear hc
  go_enter Tryz.func64, Tryz.ntmps64
  go_wp2
  go_loop [1, 5] (fun kk i => ∃ m : Nat, m ≤ n ∧ i = .int .i64 m ∧ kk = .int .i64 (k0 + m : Nat)) (fun _ i => n - (intOf i).toNat)
  case atStart => exact ⟨0, Nat.zero_le _, rfl, rfl⟩
  case round =>
    obtain ⟨m, hm, rfl, rfl⟩ := hrel
    by_cases hlt : m < n
    · obtain rfl := ha (by omega)
      have g1 : w.cell? ⟨b, o + m, none⟩ = some (.int .u8 (((k0 : Int) + (m : Int)) % 256)) := by
        rw [HC.out m hlt]; unfold mkB; congr 2
      have hne : ((((k0 : Int) + (m : Int)) % 256) != (((k0 : Int) + (m : Int)) % 256)) = false := by simp
      go_wp2
      go_round
      case rel => exact ⟨m + 1, by omega, by go_num, by go_num⟩
      case measure => simp [intOf]; omega
    · have e : m = n := by omega
      subst e
      go_wp2
      go_ret
      exact ⟨rfl, rfl⟩

theorem heldB_f {w : World} {v : Value} {n k : Nat} {bl : List Nat} (hs : n ≤ 100000000) (hk : k ≤ 1000000000000000000) (h : BM w v n k bl) :
    Calls Tryz.prog 64 #[v, .int .i64 (k : Nat)] w fun e w' => e = .returned (.int .i64 (k + n : Nat)) ∧ w' = w := by
  obtain ⟨a, b, o, c, rfl, h2, rfl, h3⟩ := h
  exact heldB_w a b o n c k w hs hk h2 h3
end Go.Proofs.YtijdlbanfdhfnaaGreatDoor

namespace Go.Proofs.YtijdlbanfdhfnaaGreatDoor
open Go.RowKit

set_option maxHeartbeats 4000000 in
set_option maxRecDepth 1000000 in
theorem heldTgS_f {w : World} {v : Value} {L : List Tg} {bl : List Nat} {k : Nat} (hs : TgSB L) (hk : k ≤ 1000000000000000) (h : TgSM w v L k bl) :
    Calls Tryz.prog 37 #[v, .int .i64 (k : Nat)] w fun e w' => e = .returned (.int .i64 (k + TgSn L L.length : Nat)) ∧ w' = w := by
  obtain ⟨a, b, o, c, V, NB, rfl, ha, _, hc⟩ := h
  have hsl := hs.len
  have HLE := hide (fun i hi => TgSn_le hs i hi)
  have HSZ : Hid (∀ j, j < L.length → (L.getD j .zero).name.size ≤ 1048576) := fun j hj => (hs.each j hj).name
  have HC := hide hc
  clear hc hs
  go_enter Tryz.func37, Tryz.ntmps37
  go_wp2
  go_loop [1, 5] (fun kk i => ∃ m : Nat, m ≤ L.length ∧ i = .int .i64 m ∧ kk = .int .i64 (k + TgSn L m : Nat)) (fun _ i => L.length - (intOf i).toNat)
  case atStart => exact ⟨0, Nat.zero_le _, rfl, rfl⟩
  case round =>
    obtain ⟨m, hm, rfl, rfl⟩ := hrel
    by_cases hlt : m < L.length
    · obtain rfl := ha (by omega)
      have hlti : (m : Int) < (L.length : Int) := by omega
      have hle := HLE.out m (by omega)
      have hsz := HSZ.out m hlt
      obtain ⟨⟨q1, q2⟩, g0, hmm⟩ := HC.out m hlt
      obtain ⟨d, hd⟩ : ∃ d, L.getD m .zero = d := ⟨_, rfl⟩
      rw [hd] at q1 q2 hmm hsz
      have HD := hide hd
      obtain ⟨y, hy⟩ : ∃ y, k + TgSn L m = y := ⟨_, rfl⟩
      have HY := hide hy
      have hyb : y ≤ 2000000000000000 := by omega
      rw [hy] at q1 q2 hmm ⊢
      obtain ⟨n, hn⟩ : ∃ n, d.name.size = n := ⟨_, rfl⟩
      have hnb : n ≤ 1048576 := by omega
      have HSN : Hid (k + TgSn L (m + 1) = y + 2 + n) := by
        show k + (TgSn L m + TgN (L.getD m .zero)) = _
        rw [HD.out]
        unfold TgN
        omega
      rw [hn] at q1 q2 hmm
      obtain ⟨k2, hk2⟩ : ∃ k2, y + 0 + n = k2 := ⟨_, rfl⟩
      have HK2 := hide hk2
      have hk2b : k2 ≤ 3000000000000000 := by omega
      have hk20 : decide ((k2 : Int) < 0) = false := decide_eq_false (by omega)
      have g1 : w.cell? ⟨b, o + m * 3 + 1, none⟩ = some (.int .i64 ((k2 : Int))) := by
        rw [q1]
        unfold mkI
        congr 2
        omega
      have n1 : (((k2 : Int)) != ((k2 : Int))) = false := by simp
      have g2 : w.cell? ⟨b, o + m * 3 + 2, none⟩ = some (.int .i64 ((k2 : Int) + 1)) := by
        rw [q2]
        unfold mkI
        congr 2
        omega
      have n2 : (((k2 : Int) + 1) != ((k2 : Int) + 1)) = false := by simp
      obtain ⟨av, cv, hv⟩ := hmm.slice
      rw [hv] at g0 hmm
      have HH := hide (heldB_f (w := w) (k := y + 0) (by omega) (by omega) hmm)
      rw [hk2] at HH
      clear hmm hn hy hd hk2 q1 q2 hv
      go_wp2_with fail
      change Calls Tryz.prog 64 #[.slice av n cv, .int .i64 ((y + 0 : Nat) : Int)] w _
      refine HH.out.mono ?_
      rintro e w2 ⟨rfl, hw2⟩
      subst hw2
      go_wp2
      go_round
      case rel =>
        refine ⟨m + 1, by omega, by go_num, ?_⟩
        have h1 := HSN.out
        have h2 := HK2.out
        rw [h1]
        congr 1
        omega
      case measure => simp [intOf]; omega
    · have hge : ¬ (m : Int) < (L.length : Int) := by omega
      have e : m = L.length := by omega
      subst e
      go_wp2
      go_ret
      exact ⟨rfl, rfl⟩
end Go.Proofs.YtijdlbanfdhfnaaGreatDoor

namespace Go.Proofs.YtijdlbanfdhfnaaGreatDoor
open Go.RowKit

set_option maxHeartbeats 4000000 in
set_option maxRecDepth 1000000 in
theorem heldLy_f {w : World} {d : Ly} {v2 v3 v4 : Value} {bl : List Nat} {k : Nat} (hb : LyB d) (hk : k ≤ 100000000000000) (h : LyM w d v2 v3 v4 k bl) :
    Calls Tryz.prog 12 #[lyagg d v2 v3 v4, .int .i64 (k : Nat)] w fun e w' => e = .returned (.int .i64 (k + LyNv d : Nat)) ∧ Below w.heap.size w w' := by
  obtain ⟨x0, x1, x2, x3, x4⟩ := d
  have hb2 := hb.cost
  have hb3 := hb.exits
  have hb4 := hb.targets
  simp only at hb2 hb3 hb4
  have HNV : Hid (LyNv ⟨x0, x1, x2, x3, x4⟩ = x2.length + x3.length + (TgSn x4 x4.length)) := rfl
  have hc2 : x2.length ≤ 2000000000000 := by omega
  have hc3 : x3.length ≤ 2000000000000 := by omega
  have hc4 : (TgSn x4 x4.length) ≤ 2000000000000 := by have := TgSn_le hb4 _ (Nat.le_refl _); have := hb4.len; omega
  obtain ⟨bl2, bl3, bl4, hbl, h2, h3, h4⟩ := h
  simp only at h2 h3 h4
  obtain ⟨a2, c2, e2⟩ := h2.slice
  obtain ⟨a3, c3, e3⟩ := h3.slice
  obtain ⟨a4, c4, e4⟩ := h4.slice
  subst e2 e3 e4
  have HBL := hide hbl
  clear hbl hb
  unfold lyagg
  simp only
  obtain ⟨W0, hW0⟩ : ∃ W, w.alloc (.cells #[.int .i64 x0, .int .i64 x1, .slice a2 (x2.length) c2, .slice a3 (x3.length) c3, .slice a4 (x4.length) c4] 27) = W := ⟨_, rfl⟩
  have HB0 : Hid (Below w.heap.size w W0) := by rw [← hW0]; exact (Below.refl _ _).alloc (Nat.le_refl _) _
  have HA0 : Hid (Blk W0 w.heap.size 27 #[.int .i64 x0, .int .i64 x1, .slice a2 (x2.length) c2, .slice a3 (x3.length) c3, .slice a4 (x4.length) c4]) := by rw [← hW0]; exact Blk.new _ _ _
  have HZ : Hid ((∀ g ∈ bl2, g < w.heap.size) ∧ (∀ g ∈ bl3, g < w.heap.size) ∧ (∀ g ∈ bl4, g < w.heap.size)) := ⟨h2.lt, h3.lt, h4.lt⟩
  have H2_0 := hide (h2.below HB0.out)
  have H3_0 := hide (h3.below HB0.out)
  have H4_0 := hide (h4.below HB0.out)
  have HW := hide hW0
  clear hW0 h2 h3 h4
  go_enter Tryz.func12, Tryz.ntmps12
  go_wp2_with fail
  rw [HW.out]
  clear HW
  refine (heldI_f (k := k) (by omega) (by omega) H2_0.out).mono ?_
  rintro e w2 ⟨rfl, hw2⟩
  subst hw2
  obtain ⟨k2, hk2⟩ : ∃ k2, k + x2.length = k2 := ⟨_, rfl⟩
  rw [hk2]
  have HK2 := hide hk2
  have hkb2 : k2 ≤ 103000000000000 := by omega
  clear hk2
  have hk02 : decide ((k2 : Int) < 0) = false := decide_eq_false (by omega)
  have z3 := HA0.out.cell 3
  simp only [List.getElem?_toArray, List.getElem?_cons_succ, List.getElem?_cons_zero] at z3
  go_wp2_with fail
  clear z3
  refine (heldI_f (n := x3.length) (k := k2) (by omega) (by omega) (by rw [← HK2.out]; exact H3_0.out)).mono ?_
  rintro e w3 ⟨rfl, hw3⟩
  subst hw3
  obtain ⟨k3, hk3⟩ : ∃ k3, k2 + x3.length = k3 := ⟨_, rfl⟩
  rw [hk3]
  have HK3 := hide hk3
  have hkb3 : k3 ≤ 106000000000000 := by omega
  clear hk3
  have hk03 : decide ((k3 : Int) < 0) = false := decide_eq_false (by omega)
  have z4 := HA0.out.cell 4
  simp only [List.getElem?_toArray, List.getElem?_cons_succ, List.getElem?_cons_zero] at z4
  go_wp2_with fail
  clear z4
  refine (heldTgS_f (k := k3) hb4 (by omega) (by rw [← HK3.out, ← HK2.out]; exact H4_0.out)).mono ?_
  rintro e w4 ⟨rfl, hw4⟩
  subst hw4
  obtain ⟨k4, hk4⟩ : ∃ k4, k3 + (TgSn x4 x4.length) = k4 := ⟨_, rfl⟩
  rw [hk4]
  have HK4 := hide hk4
  have hkb4 : k4 ≤ 109000000000000 := by omega
  clear hk4
  have hk04 : decide ((k4 : Int) < 0) = false := decide_eq_false (by omega)
  go_wp2
  go_ret
  refine ⟨?_, HB0.out⟩
  have e2 := HK2.out; have e3 := HK3.out; have e4 := HK4.out
  have ek : k + LyNv ⟨x0, x1, x2, x3, x4⟩ = k4 := by rw [HNV.out]; omega
  rw [ek]
  rfl
end Go.Proofs.YtijdlbanfdhfnaaGreatDoor

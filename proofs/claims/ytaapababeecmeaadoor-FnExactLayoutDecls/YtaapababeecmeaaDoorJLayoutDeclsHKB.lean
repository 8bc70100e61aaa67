/-
  heldByteS at any slice.
  The walk of heldDeclS.
-/
import Derived.Test.YtaapababeecmeaaDoorJLayoutDeclsMK
import Derived.Test.YtaapababeecmeaaDoorJLayoutDeclsDcSF
namespace Go.Proofs.YtaapababeecmeaaDoor
open Go.RowKit

set_option maxHeartbeats 400000 in
set_option maxRecDepth 1000000 in
theorem heldB_w (a0 : Option Addr) (b o n cap k0 : Nat) (w : World) (hn : n ≤ 100000000) (hk0 : k0 ≤ 1000000000000000000) (ha : 0 < n → a0 = some ⟨b, o, none⟩) (hc : ∀ j, j < n → w.cell? ⟨b, o + j, none⟩ = some (mkB (k0 + j))) :
    Calls Tryd.prog 21 #[.slice a0 n cap, .int .i64 k0] w fun e w' => e = .returned (.int .i64 (k0 + n : Nat)) ∧ w' = w := by
  have HC := hide hc
  clear hc
  go_enter Tryd.func21, Tryd.ntmps21
  go_wp2
  go_loop [1, 5] (fun kk i => ∃ m : Nat, m ≤ n ∧ i = .int .i64 m ∧ kk = .int .i64 (k0 + m : Nat)) (fun _ i => n - (intOf i).toNat)
  case atStart => exact ⟨0, Nat.zero_le _, rfl, rfl⟩
  case round =>
    obtain ⟨m, hm, rfl, rfl⟩ := hrel
    by_cases hlt : m < n
    · obtain rfl := ha (by omega)
      have g1 : w.cell? ⟨b, o + m, none⟩ = some (.int .u8 (((k0 : Int) + (m : Int)) % 256)) := by
        rw [HC.out m hlt]; unfold mkB; congr 2
      have hne : ((((k0 : Int) + (m : Int)) % 256) != (((k0 : Int) + (m : Int)) % 256)) = false := by simp
      go_wp2
      go_round
      case rel => exact ⟨m + 1, by omega, by go_num, by go_num⟩
      case measure => simp [intOf]; omega
    · have e : m = n := by omega
      subst e
      go_wp2
      go_ret
      exact ⟨rfl, rfl⟩

theorem heldB_f {w : World} {v : Value} {n k : Nat} {bl : List Nat} (hs : n ≤ 100000000) (hk : k ≤ 1000000000000000000) (h : BM w v n k bl) :
    Calls Tryd.prog 21 #[v, .int .i64 (k : Nat)] w fun e w' => e = .returned (.int .i64 (k + n : Nat)) ∧ w' = w := by
  obtain ⟨a, b, o, c, rfl, h2, rfl, h3⟩ := h
  exact heldB_w a b o n c k w hs hk h2 h3
end Go.Proofs.YtaapababeecmeaaDoor

namespace Go.Proofs.YtaapababeecmeaaDoor
open Go.RowKit

set_option maxHeartbeats 4000000 in
set_option maxRecDepth 1000000 in
theorem heldDcS_f {w : World} {v : Value} {L : List Dc} {bl : List Nat} {k : Nat} (hs : DcSB L) (hk : k ≤ 1000000000000000) (h : DcSM w v L k bl) :
    Calls Tryd.prog 16 #[v, .int .i64 (k : Nat)] w fun e w' => e = .returned (.int .i64 (k + DcSn L L.length : Nat)) ∧ w' = w := by
  obtain ⟨a, b, o, c, V, NB, rfl, ha, _, hc⟩ := h
  have hsl := hs.len
  have HLE := hide (fun i hi => DcSn_le hs i hi)
  have HSZ : Hid (∀ j, j < L.length → (L.getD j .zero).name.size ≤ 1048576) := fun j hj => (hs.each j hj).name
  have HC := hide hc
  clear hc hs
  go_enter Tryd.func16, Tryd.ntmps16
  go_wp2
  go_loop [1, 5] (fun kk i => ∃ m : Nat, m ≤ L.length ∧ i = .int .i64 m ∧ kk = .int .i64 (k + DcSn L m : Nat)) (fun _ i => L.length - (intOf i).toNat)
  case atStart => exact ⟨0, Nat.zero_le _, rfl, rfl⟩
  case round =>
    obtain ⟨m, hm, rfl, rfl⟩ := hrel
    by_cases hlt : m < L.length
    · obtain rfl := ha (by omega)
      have hlti : (m : Int) < (L.length : Int) := by omega
      have hle := HLE.out m (by omega)
      have hsz := HSZ.out m hlt
      obtain ⟨⟨q0, q1, q2, q3, q4, q5, q6, q8⟩, g7, hmm⟩ := HC.out m hlt
      obtain ⟨d, hd⟩ : ∃ d, L.getD m .zero = d := ⟨_, rfl⟩
      rw [hd] at q8 hmm hsz
      have HD := hide hd
      obtain ⟨y, hy⟩ : ∃ y, k + DcSn L m = y := ⟨_, rfl⟩
      have HY := hide hy
      have hyb : y ≤ 2000000000000000 := by omega
      rw [hy] at q0 q1 q2 q3 q4 q5 q6 q8 hmm ⊢
      obtain ⟨n, hn⟩ : ∃ n, d.name.size = n := ⟨_, rfl⟩
      have hnb : n ≤ 1048576 := by omega
      have HSN : Hid (k + DcSn L (m + 1) = y + 8 + n) := by
        show k + (DcSn L m + DcN (L.getD m .zero)) = _
        rw [HD.out]
        unfold DcN
        omega
      rw [hn] at q8 hmm
      obtain ⟨k2, hk2⟩ : ∃ k2, y + 7 + n = k2 := ⟨_, rfl⟩
      have HK2 := hide hk2
      have hk2b : k2 ≤ 3000000000000000 := by omega
      have hk20 : decide ((k2 : Int) < 0) = false := decide_eq_false (by omega)
      have g0 : w.cell? ⟨b, o + m * 9, none⟩ = some (.int .i64 ((y : Int))) := q0
      have n0 : (((y : Int)) != ((y : Int))) = false := by simp
      have g1 : w.cell? ⟨b, o + m * 9 + 1, none⟩ = some (.int .i64 ((y : Int) + 1)) := q1
      have n1 : (((y : Int) + 1) != ((y : Int) + 1)) = false := by simp
      have g2 : w.cell? ⟨b, o + m * 9 + 2, none⟩ = some (.int .i64 ((y : Int) + 2)) := q2
      have n2 : (((y : Int) + 2) != ((y : Int) + 2)) = false := by simp
      have g3 : w.cell? ⟨b, o + m * 9 + 3, none⟩ = some (.int .i64 ((y : Int) + 3)) := q3
      have n3 : (((y : Int) + 3) != ((y : Int) + 3)) = false := by simp
      have g4 : w.cell? ⟨b, o + m * 9 + 4, none⟩ = some (.int .i64 ((y : Int) + 4)) := q4
      have n4 : (((y : Int) + 4) != ((y : Int) + 4)) = false := by simp
      have g5 : w.cell? ⟨b, o + m * 9 + 5, none⟩ = some (.int .i64 ((y : Int) + 5)) := q5
      have n5 : (((y : Int) + 5) != ((y : Int) + 5)) = false := by simp
      have g6 : w.cell? ⟨b, o + m * 9 + 6, none⟩ = some (.int .i64 ((y : Int) + 6)) := q6
      have n6 : (((y : Int) + 6) != ((y : Int) + 6)) = false := by simp
      have g8 : w.cell? ⟨b, o + m * 9 + 8, none⟩ = some (.int .i64 ((k2 : Int))) := by
        rw [q8]
        unfold mkI
        congr 2
        omega
      have n8 : (((k2 : Int)) != ((k2 : Int))) = false := by simp
      obtain ⟨av, cv, hv⟩ := hmm.slice
      rw [hv] at g7 hmm
      have HH := hide (heldB_f (w := w) (k := y + 7) (by omega) (by omega) hmm)
      rw [hk2] at HH
      clear hmm hn hy hd hk2 q0 q1 q2 q3 q4 q5 q6 q8 hv
      go_wp2_with fail
      change Calls Tryd.prog 21 #[.slice av n cv, .int .i64 ((y + 7 : Nat) : Int)] w _
      refine HH.out.mono ?_
      rintro e w2 ⟨rfl, hw2⟩
      subst hw2
      go_wp2
      go_round
      case rel =>
        refine ⟨m + 1, by omega, by go_num, ?_⟩
        have h1 := HSN.out
        have h2 := HK2.out
        rw [h1]
        congr 1
        omega
      case measure => simp [intOf]; omega
    · have hge : ¬ (m : Int) < (L.length : Int) := by omega
      have e : m = L.length := by omega
      subst e
      go_wp2
      go_ret
      exact ⟨rfl, rfl⟩
end Go.Proofs.YtaapababeecmeaaDoor

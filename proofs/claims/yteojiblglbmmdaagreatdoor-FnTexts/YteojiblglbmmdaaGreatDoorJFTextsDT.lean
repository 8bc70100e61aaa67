/-
  The walks of spec.l9texts.
-/
import Derived.Test.YteojiblglbmmdaaGreatDoorJFTextsDR
namespace Go.Proofs.YteojiblglbmmdaaGreatDoor
open Go.RowKit

/-- The first k words that are drawn from i on. -/
def dts (cs : ByteArray) (n i : Nat) : Nat → List Nat
  | 0 => []
  | k + 1 => dts cs n i k ++ dwN (nx cs n (i + k) % 12)
theorem dts_le (cs : ByteArray) (n i : Nat) : ∀ k, (dts cs n i k).length ≤ 8 * k
  | 0 => Nat.le_refl _
  | k + 1 => by
    have := dts_le cs n i k
    have := dwN_le (nx cs n (i + k) % 12)
    rw [dts, List.length_append]; omega

theorem own_ne {w : World} {B R n : Nat} {v : Value} {xs : List Value} (h : w.ownsRow B 5 1 v n xs) (hR : R < B) : v.ownBlock = none ∨ v.ownBlock ≠ some R := by
  cases e : v.ownBlock with
  | none => exact .inl rfl
  | some k => exact .inr (fun g => by cases g; have := (h.lt R e).1; omega)

set_option maxHeartbeats 1000000 in
set_option maxRecDepth 1000000 in
theorem texts_any (w : World) (R : Nat) (a0 : Option Addr) (b off n cap : Nat) (cs : ByteArray) (i : Nat) (hn : n ≤ 600) (h : RdAt w R a0 b off n cap cs i) :
    Calls Tryz.prog 24 #[.pointer (some ⟨R, 0, none⟩)] w fun e w' => ∃ v', e = .returned v' ∧ w'.ownsRow w.heap.size 5 1 v' (dts cs n (i + 1) (nx cs n i % 6)).length (cv (dts cs n (i + 1) (nx cs n i % 6))) ∧ w.grownBy w' (some R) ∧ RdAt w' R a0 b off n cap cs (i + 1 + nx cs n i % 6) := by
  have HN := hide (next_any w R a0 b off n cap cs i hn h)
  have HD := hide h
  have hR := h.lt
  have hv := nx_lt cs n i
  obtain ⟨v, hv'⟩ : ∃ v, nx cs n i = v := ⟨_, rfl⟩
  rw [hv'] at HN hv ⊢
  obtain ⟨N, hN⟩ : ∃ N, v % 6 = N := ⟨_, rfl⟩
  have hN6 : N < 6 := by omega
  have hmod : (v : Int).tmod 6 = (N : Int) := by rw [← hN]; exact Int.ofNat_tmod v 6 |>.symm
  rw [hN]
  clear hv' h hN
  have hmx : Tryz.prog.follows .mixedOrders = true := by kernel_rfl
  go_enter Tryz.func24, Tryz.ntmps24
  go_wp2_with fail
  refine HN.out.mono ?_
  rintro e w1 ⟨rfl, hg1, hr1⟩
  have HG1 := hide hg1
  have HR1 := hide hr1
  clear hg1 hr1
  go_wp2
  go_loopw [3, 5] (fun out ix wr => ∃ m : Nat, m ≤ N ∧ ix = .int .i64 m ∧ wr.ownsRow w.heap.size 5 1 out (dts cs n (i + 1) m).length (cv (dts cs n (i + 1) m)) ∧ w.grownBy wr (some R) ∧ RdAt wr R a0 b off n cap cs (i + 1 + m)) (fun _ ix _ => N - (intOf ix).toNat)
  case atStart => exact ⟨0, Nat.zero_le _, rfl, World.ownsRow_nil _ _ _ _, HG1.out, HR1.out⟩
  case round =>
    obtain ⟨m, hm, rfl, hown, hg, hrd⟩ := hrel
    have HO := hide hown
    have HG := hide hg
    have HRD := hide hrd
    by_cases hlt : m < N
    · have d1 : decide ((m : Int) < (N : Int)) = true := decide_eq_true (by omega)
      have HT := hide (drawText_any wr R a0 b off n cap cs (i + 1 + m) hn hrd)
      clear hown hg hrd
      obtain ⟨W, hW⟩ : ∃ W, dwN (nx cs n (i + 1 + m) % 12) = W := ⟨_, rfl⟩
      have hWl : W.length ≤ 8 := by rw [← hW]; exact dwN_le _
      have hlen := dts_le cs n (i + 1) m
      rw [hW] at HT
      have HW : Hid (dts cs n (i + 1) (m + 1) = dts cs n (i + 1) m ++ W) := by show _ = _; rw [dts, hW]
      clear hW
      obtain ⟨acc, hacc⟩ : ∃ acc, dts cs n (i + 1) m = acc := ⟨_, rfl⟩
      rw [hacc] at HO HW hlen
      clear hacc
      go_wp2_with fail
      refine HT.out.mono ?_
      rintro e w2 ⟨g, c, rfl, hgw, hcells, hg2, hr2⟩
      have HO2 := hide (HO.out.kept hg2 (own_ne HO.out hR))
      have HC2 := hide hcells
      have HG2 : Hid (w.grownBy w2 (some R)) := grown_own HG.out hg2 (fun r e => .inr (by cases e; rfl))
      have HR2 := hide hr2
      have hw2 : w.heap.size ≤ w2.heap.size := HG2.out.size
      clear hcells hg2 hr2 HT
      go_wp2_with (at_builtin; refine wp_app rfl (.tmp 14) (.tmp 16) rfl w.heap.size _ acc rfl HO2.out g c W rfl ?n1 ?l1 ?b1 ?_)
      case n1 => exact HC2.out
      case l1 => omega
      case b1 => exact hw2
      intro v' w3 l hl ho hg
      have HO3 := hide ho
      have hrow : ∀ r, u3.ownBlock = some r → w.heap.size ≤ r := fun r e => (HO2.out.lt r e).1
      have HG3 : Hid (w.grownBy w3 (some R)) := grown_own HG2.out hg (fun r e => .inl (hrow r e))
      have HR3 : Hid (RdAt w3 R a0 b off n cap cs (i + 1 + m + 1)) := HR2.out.kept hg (fun e => by have := hrow R e.symm; omega) (fun hp e => by have := hrow b e.symm; have := HD.out.b_lt hp; omega)
      clear ho hg
      go_wp2
      go_roundw
      case rel => exact ⟨m + 1, by omega, by go_num, by rw [HW.out, ← hl.out]; exact HO3.out, HG3.out, by rw [show i + 1 + (m + 1) = i + 1 + m + 1 by omega]; exact HR3.out⟩
      case measure => simp [intOf]; omega
    · have e : m = N := by omega
      subst e
      clear hown hg hrd
      go_wp2
      go_ret
      exact ⟨_, rfl, HO.out, HG.out, HRD.out⟩
end Go.Proofs.YteojiblglbmmdaaGreatDoor

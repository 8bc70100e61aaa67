/-
  The walk of l2end.
-/
import Derived.Test.YtbjaccalloipcaaDoorJVtND4
import Derived.Test.YtbjaccalloipcaaDoorJVtVP
namespace Go.Proofs.YtbjaccalloipcaaDoor
open Go.RowKit

/-- The count of a node. -/
def cn (L : List Nd) (i : Nat) : Int := (L.getD i .zero).count
/-- An end as l2end answers it. -/
def oi : Option Nat → Int
  | none => -1
  | some e => e

set_option maxHeartbeats 1000000 in
set_option maxRecDepth 1000000 in
theorem l2end_any (v : Value) (L : List Nd) (hl : L.length ≤ 1048576) : ∀ f : Nat, f ≤ 60 → ∀ (i : Nat) (w : World), i ≤ L.length → NS w v L →
    Calls Tryd.prog 10 #[v, .int .i64 i, .int .i64 f] w fun e w' => e = .returned (.int .i64 (oi (sE L.length (cn L) f i))) ∧ w' = w := by
  intro f
  induction f with
  | zero =>
    intro _ i w hi h
    obtain ⟨a, b, o, c, rfl, _, _⟩ := h
    have HR : Hid (oi (sE L.length (cn L) 0 i) = -1) := rfl
    by_cases h1 : i < L.length
    · have t0 : decide ((L.length : Int) ≤ (i : Int)) = false := decide_eq_false (by omega)
      go_enter Tryd.func10, Tryd.ntmps10
      go_wp2
      go_ret
      exact ⟨by rw [HR.out]; rfl, by trivial⟩
    · have t0 : decide ((L.length : Int) ≤ (i : Int)) = true := decide_eq_true (by omega)
      go_enter Tryd.func10, Tryd.ntmps10
      go_wp2
      go_ret
      exact ⟨by rw [HR.out]; rfl, by trivial⟩
  | succ f ih =>
    intro hf i w hi h
    have HIH := hide (ih (by omega))
    have HNS := hide h
    obtain ⟨a, b, o, c, rfl, ha, hc⟩ := h
    have hf1 : ((f : Int) + 1 == 0) = false := by rw [beq_eq_false_iff_ne]; omega
    by_cases h1 : i < L.length
    · have t0 : decide ((L.length : Int) ≤ (i : Int)) = false := decide_eq_false (by omega)
      obtain rfl := ha (by omega)
      obtain ⟨vt, vn, vy, hN, _⟩ := hc i h1
      have g := hN.count
      obtain ⟨C, hC⟩ : ∃ C, (L.getD i .zero).count = C := ⟨_, rfl⟩
      have hcC : cn L i = C := hC
      rw [hC] at g
      clear hc ha hN hC ih
      by_cases h2 : C < 0
      · have t1 : decide (C < 0) = true := decide_eq_true h2
        have HR : Hid (oi (sE L.length (cn L) (f + 1) i) = -1) := by show _ = _; rw [sE, if_pos (by omega)]; rfl
        go_enter Tryd.func10, Tryd.ntmps10
        go_wp2
        go_ret
        exact ⟨by rw [HR.out]; rfl, by trivial⟩
      by_cases h3 : (L.length : Int) < C
      · have t1 : decide (C < 0) = false := decide_eq_false h2
        have t2 : decide ((L.length : Int) < C) = true := decide_eq_true h3
        have HR : Hid (oi (sE L.length (cn L) (f + 1) i) = -1) := by show _ = _; rw [sE, if_pos (by omega)]; rfl
        go_enter Tryd.func10, Tryd.ntmps10
        go_wp2
        go_ret
        exact ⟨by rw [HR.out]; rfl, by trivial⟩
      have t1 : decide (C < 0) = false := decide_eq_false h2
      have t2 : decide ((L.length : Int) < C) = false := decide_eq_false h3
      have HR : Hid (sE L.length (cn L) (f + 1) i = sLoop (sE L.length (cn L) f) C.toNat (i + 1)) := by show _ = _; rw [sE, if_neg (by omega), hcC]
      clear hcC
      go_enter Tryd.func10, Tryd.ntmps10
      go_wp2
      go_loopw [7, 8] (fun x ix wr => ∃ k p : Nat, k ≤ C.toNat ∧ ix = .int .i64 k ∧ x = .int .i64 p ∧ p ≤ L.length ∧ sLoop (sE L.length (cn L) f) (C.toNat - k) p = sE L.length (cn L) (f + 1) i ∧ wr = w) (fun _ ix _ => C.toNat - (intOf ix).toNat)
      case atStart => exact ⟨0, i + 1, Nat.zero_le _, rfl, by go_num, by omega, HR.out.symm, rfl⟩
      case round =>
        obtain ⟨k, p, hk, rfl, rfl, hp, hs, rfl⟩ := hrel
        have HS := hide hs
        by_cases hlt : k < C.toNat
        · have hlti : decide ((k : Int) < C) = true := decide_eq_true (by omega)
          have HI := HIH.out p wr hp HNS.out
          have hsp : C.toNat - k = (C.toNat - (k + 1)) + 1 := by omega
          rw [hsp, sLoop] at hs
          cases hx : sE L.length (cn L) f p with
          | none =>
            rw [hx] at HI hs
            have HH := hide HI
            have HR2 : Hid (oi (sE L.length (cn L) (f + 1) i) = -1) := by show _ = _; rw [← hs]; rfl
            clear HI hs hx
            go_wp2_with fail
            refine HH.out.mono ?_
            rintro e w1 ⟨rfl, rfl⟩
            go_wp2
            go_ret
            exact ⟨by rw [HR2.out]; rfl, by trivial⟩
          | some q =>
            rw [hx] at HI hs
            have hq := (sE_br _ _ _ _ _ hx).le
            have HH := hide HI
            have HS2 := hide hs
            have hqn : decide ((q : Int) < 0) = false := decide_eq_false (by omega)
            clear HI hs hx
            go_wp2_with fail
            refine HH.out.mono ?_
            rintro e w1 ⟨rfl, rfl⟩
            unfold oi
            go_wp2
            go_roundw
            case rel => exact ⟨k + 1, q, by omega, by go_num, rfl, hq, HS2.out, by trivial⟩
            case measure => simp [intOf]; omega
        · have hlti : decide ((k : Int) < C) = false := decide_eq_false (by omega)
          have HR2 : Hid (oi (sE L.length (cn L) (f + 1) i) = p) := by show _ = _; rw [← hs, show C.toNat - k = 0 by omega]; rfl
          clear hs
          go_wp2
          go_ret
          exact ⟨by rw [HR2.out]; rfl, by trivial⟩
    · have t0 : decide ((L.length : Int) ≤ (i : Int)) = true := decide_eq_true (by omega)
      have HR : Hid (oi (sE L.length (cn L) (f + 1) i) = -1) := by show _ = _; rw [sE, if_pos (by omega)]; rfl
      clear hc ha ih
      go_enter Tryd.func10, Tryd.ntmps10
      go_wp2
      go_ret
      exact ⟨by rw [HR.out]; rfl, by trivial⟩
end Go.Proofs.YtbjaccalloipcaaDoor

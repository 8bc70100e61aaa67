/-
  The walk of l2fields.
  The walks of l2next, l2kids.
-/
import Derived.Test.YtbjaccalloipcaaDoorJVtVG3
import Derived.Test.YtbjaccalloipcaaDoorJVtVG4
import Derived.Test.YtbjaccalloipcaaDoorJVtVG5
import Derived.Test.YtbjaccalloipcaaDoorJVtVG6
import Derived.Test.YtbjaccalloipcaaDoorJVtVG7
import Derived.Test.YtbjaccalloipcaaDoorJVtVE
import Derived.Test.YtbjaccalloipcaaDoorJVtAP
namespace Go.Proofs.YtbjaccalloipcaaDoor
open Go.RowKit

theorem l2fields_any (d : Nd) (vt vn vy : Value) (w : World) (h : NV w d vt vn vy) (hb : NB d) :
    Calls Tryd.prog 18 #[.agg #[.int .i64 d.kind, .int .i64 d.n, vt, vn, vy, .int .i64 d.count]] w fun e w' => e = .returned (.bool (vFd d)) ∧ Below w.heap.size w w' := by
  obtain ⟨K, N, T, M, Y, C⟩ := d
  by_cases h1 : K = 1
  · subst h1; exact fields_1 N C T M Y vt vn vy w h hb
  by_cases h3 : K = 3
  · subst h3; exact fields_3 N C T M Y vt vn vy w h hb
  by_cases h4 : K = 4
  · subst h4; exact fields_4 N C T M Y vt vn vy w h hb
  by_cases h5 : K = 5
  · subst h5; exact fields_5 N C T M Y vt vn vy w h hb
  by_cases h19 : K = 19
  · subst h19; exact fields_19 N C T M Y vt vn vy w h hb
  by_cases h17 : K = 17
  · subst h17; exact fields_17 N C T M Y vt vn vy w h hb
  by_cases h10 : K = 10
  · subst h10; exact fields_10 N C T M Y vt vn vy w h hb
  by_cases h11 : K = 11
  · subst h11; exact fields_11 N C T M Y vt vn vy w h hb
  by_cases h12 : K = 12
  · subst h12; exact fields_12 N C T M Y vt vn vy w h hb
  by_cases h16 : K = 16
  · subst h16; exact fields_16 N C T M Y vt vn vy w h hb
  by_cases h18 : K = 18
  · subst h18; exact fields_18 N C T M Y vt vn vy w h hb
  by_cases h20 : K = 20
  · subst h20; exact fields_20 N C T M Y vt vn vy w h hb
  exact fields_o K N C T M Y vt vn vy w (beq_eq_false_iff_ne.2 h1) (beq_eq_false_iff_ne.2 h3) (beq_eq_false_iff_ne.2 h4) (beq_eq_false_iff_ne.2 h5) (beq_eq_false_iff_ne.2 h19) (beq_eq_false_iff_ne.2 h17) (beq_eq_false_iff_ne.2 h10) (beq_eq_false_iff_ne.2 h11) (beq_eq_false_iff_ne.2 h12) (beq_eq_false_iff_ne.2 h16) (beq_eq_false_iff_ne.2 h18) (beq_eq_false_iff_ne.2 h20) h hb
end Go.Proofs.YtbjaccalloipcaaDoor

namespace Go.Proofs.YtbjaccalloipcaaDoor
open Go.RowKit

theorem sm_le {n : Nat} {cnt : Nat → Int} {i e : Nat} (h : ∀ j, i ≤ j → j < e → 0 ≤ cnt j ∧ cnt j ≤ n) (hn : n ≤ 1048576) : ∀ l, l ≤ e - i → sm cnt i l ≤ 1048576 * (l : Int) := by
  intro l
  induction l with
  | zero => intro _; simp [sm]
  | succ l ih =>
    intro hl
    have := ih (by omega)
    have := h (i + l) (by omega) (by omega)
    rw [sm_succ]; omega

set_option maxHeartbeats 1000000 in
set_option maxRecDepth 1000000 in
theorem l2next_any (v : Value) (L : List Nd) (hl : L.length ≤ 1048576) (i e : Nat) (w : World) (hB : Br L.length (cn L) i e) (h : NS w v L) :
    Calls Tryd.prog 33 #[v, .int .i64 i] w fun x w' => x = .returned (.int .i64 e) ∧ w' = w := by
  obtain ⟨a, b, o, c, rfl, ha, hc⟩ := h
  have hlt := hB.lt
  have hle := hB.le
  obtain rfl := ha (by omega)
  have HC : Hid (∀ j, j < L.length → w.cell? ⟨b, o + j * 6 + 5, none⟩ = some (.int .i64 (cn L j))) := fun j hj => by
    obtain ⟨vt, vn, vy, hN, _⟩ := hc j hj
    exact hN.count
  clear hc ha
  have g := HC.out i (by omega)
  obtain ⟨C, hC⟩ : ∃ C, cn L i = C := ⟨_, rfl⟩
  have hC0 := hB.cn i (Nat.le_refl _) hlt
  have HS0 : Hid (1 + sm (cn L) i 1 = C) := by show _ = _; rw [← hC]; simp only [sm]; omega
  rw [hC] at g hC0
  have HBR := hide hB
  clear hB
  go_enter Tryd.func33, Tryd.ntmps33
  go_wp2
  go_loopw [5, 6] (fun x y wr => ∃ m : Nat, i + 1 + m ≤ e ∧ x = .int .i64 (i + 1 + m : Nat) ∧ y = .int .i64 (1 + sm (cn L) i (m + 1)) ∧ wr = w) (fun x _ _ => e - (intOf x).toNat)
  case atStart => exact ⟨0, by omega, by go_num, by rw [HS0.out], rfl⟩
  case round =>
    obtain ⟨m, hm, rfl, rfl, rfl⟩ := hrel
    by_cases hlt2 : i + 1 + m < e
    · have hp := HBR.out.pos (m + 1) (by omega) (by omega)
      have hu := sm_le HBR.out.cn hl (m + 1) (by omega)
      have hk := HBR.out.cn (i + 1 + m) (by omega) hlt2
      have g2 := HC.out (i + 1 + m) (by omega)
      have HN : Hid (1 + sm (cn L) i (m + 1) + (cn L (i + 1 + m) - 1) = 1 + sm (cn L) i (m + 2)) := by
        show _ = _; rw [sm_succ (cn L) i (m + 1), show i + (m + 1) = i + 1 + m by omega]; omega
      obtain ⟨O, hO⟩ : ∃ O, 1 + sm (cn L) i (m + 1) = O := ⟨_, rfl⟩
      obtain ⟨Y, hY⟩ : ∃ Y, cn L (i + 1 + m) = Y := ⟨_, rfl⟩
      obtain ⟨P, hP⟩ : ∃ P : Nat, i + 1 + m = P := ⟨_, rfl⟩
      have hO1 : 0 < O := by omega
      have hO2 : O ≤ 2000000000000 := by omega
      have t0 : decide ((0 : Int) < O) = true := decide_eq_true hO1
      rw [hY] at hk g2 HN
      rw [hO] at HN
      rw [hO]
      rw [hP] at g2 hlt2
      have HP := hide hP
      rw [hP]
      clear hp hu hO hY hP hm
      go_wp2
      go_roundw
      case rel => exact ⟨m + 1, by have := HP.out; omega, by have := HP.out; go_num, by rw [← HN.out], by trivial⟩
      case measure => simp [intOf]; omega
    · have he : i + 1 + m = e := by omega
      have hz : 1 + sm (cn L) i (m + 1) = 0 := by rw [show m + 1 = e - i by omega, HBR.out.tot]; rfl
      rw [hz, he]
      clear hz
      go_wp2
      go_ret
      exact ⟨rfl, by trivial⟩
end Go.Proofs.YtbjaccalloipcaaDoor

/-
  The walks of namesOf, validTypes.
-/
import Derived.Test.YtbjaccalloipcaaDoorJVtND3
import Derived.Test.YtbjaccalloipcaaDoorJVtVK
namespace Go.Proofs.YtbjaccalloipcaaDoor
open Go.RowKit

/-- How many names a node has. -/
def nOf (d : Nd) : Int := if d.kind = 1 then 1 + d.types.length else if d.kind = 3 ∨ d.kind = 4 ∨ d.kind = 5 ∨ d.kind = 19 then 1 else 0
set_option maxHeartbeats 2000000 in
set_option maxRecDepth 1000000 in
theorem namesOf_any (d : Nd) (vt vn vy : Value) (w : World) (hy : IS w vy d.types) (hl : d.types.length ≤ 1048576) :
    Calls Tryd.prog 48 #[nagg d vt vn vy] w fun e w' => e = .returned (.int .i64 (nOf d)) ∧ Below w.heap.size w w' := by
  obtain ⟨K, N, T, M, Y, C⟩ := d
  simp only at hy hl
  obtain ⟨ay, _, _, cy, rfl, _, _⟩ := hy
  have HN : Hid (nOf ⟨K, N, T, M, Y, C⟩ = if K = 1 then 1 + (Y.length : Int) else if K = 3 ∨ K = 4 ∨ K = 5 ∨ K = 19 then 1 else 0) := rfl
  unfold nagg
  simp only
  by_cases h1 : K = 1
  · subst h1
    rw [if_pos rfl] at HN
    go_enter Tryd.func48, Tryd.ntmps48
    go_wp2
    go_ret
    exact ⟨by rw [HN.out]; first | rfl | exact ret_int (by omega), (Below.refl _ _).alloc (Nat.le_refl _) _⟩
  rw [if_neg h1] at HN
  have n1 : (K == 1) = false := by rw [beq_eq_false_iff_ne]; exact h1
  by_cases h2 : K = 3 ∨ K = 4 ∨ K = 5 ∨ K = 19
  · rw [if_pos h2] at HN
    clear h1
    rcases h2 with rfl | rfl | rfl | rfl
    all_goals
      clear n1
      go_enter Tryd.func48, Tryd.ntmps48
      go_wp2
      go_ret
      exact ⟨by rw [HN.out]; rfl, (Below.refl _ _).alloc (Nat.le_refl _) _⟩
  · rw [if_neg h2] at HN
    have n3 : (K == 3) = false := by rw [beq_eq_false_iff_ne]; omega
    have n4 : (K == 4) = false := by rw [beq_eq_false_iff_ne]; omega
    have n5 : (K == 5) = false := by rw [beq_eq_false_iff_ne]; omega
    have n6 : (K == 19) = false := by rw [beq_eq_false_iff_ne]; omega
    clear h1 h2
    go_enter Tryd.func48, Tryd.ntmps48
    go_wp2
    go_ret
    exact ⟨by rw [HN.out]; rfl, (Below.refl _ _).alloc (Nat.le_refl _) _⟩

/-- Whether a node's types may stand. -/
def tOk (l : List Int) : Bool := l.all fun t => t == 0 || t == 1
def vTy (d : Nd) : Bool := if d.kind = 1 then decide (d.types.length ≤ 10) && tOk d.types else d.types.length == 0
set_option maxHeartbeats 2000000 in
set_option maxRecDepth 1000000 in
theorem validTypes_any (d : Nd) (vt vn vy : Value) (w : World) (hy : IS w vy d.types) (hl : d.types.length ≤ 1048576) :
    Calls Tryd.prog 39 #[nagg d vt vn vy] w fun e w' => e = .returned (.bool (vTy d)) ∧ Below w.heap.size w w' := by
  obtain ⟨K, N, T, M, Y, C⟩ := d
  simp only at hy hl
  have HY := hide hy
  obtain ⟨ay, by_, oy, cy, rfl, hay, hcy⟩ := hy
  have HN : Hid (vTy ⟨K, N, T, M, Y, C⟩ = if K = 1 then decide (Y.length ≤ 10) && tOk Y else Y.length == 0) := rfl
  unfold nagg
  simp only
  by_cases h1 : K = 1
  · subst h1
    rw [if_pos rfl] at HN
    by_cases h10 : Y.length ≤ 10
    · have d1 : decide ((10 : Int) < (Y.length : Int)) = false := decide_eq_false (by omega)
      rw [decide_eq_true h10, Bool.true_and] at HN
      have HC := hide hcy
      clear hcy
      go_enter Tryd.func39, Tryd.ntmps39
      go_wp2
      go_loopw [19] (fun ix wr => ∃ k : Nat, k ≤ Y.length ∧ ix = .int .i64 k ∧ tOk (Y.drop k) = tOk Y ∧ Below w.heap.size w wr) (fun ix _ => Y.length - (intOf ix).toNat)
      case atStart => exact ⟨0, Nat.zero_le _, rfl, rfl, (Below.refl _ _).alloc (Nat.le_refl _) _⟩
      case round =>
        obtain ⟨k, hk, rfl, hok, hb⟩ := hrel
        have HB := hide hb
        by_cases hlt : k < Y.length
        · obtain rfl := hay (by omega)
          have g := cell_kept (HC.out k hlt) hb
          have hd : Y.drop k = Y.getD k 0 :: Y.drop (k + 1) := by
            rw [List.drop_eq_getElem_cons hlt, List.getD_eq_getElem?_getD, List.getElem?_eq_getElem hlt]; rfl
          have ht : tOk (Y.getD k 0 :: Y.drop (k + 1)) = ((Y.getD k 0 == 0 || Y.getD k 0 == 1) && tOk (Y.drop (k + 1))) := rfl
          rw [hd, ht] at hok
          obtain ⟨y, hy⟩ : ∃ y, Y.getD k 0 = y := ⟨_, rfl⟩
          rw [hy] at g hok
          have hlti : (k : Int) < (Y.length : Int) := by omega
          have HOK := hide hok
          clear hb hd ht hy hok
          have hyc : y = 0 ∨ y = 1 ∨ (y ≠ 0 ∧ y ≠ 1) := by omega
          rcases hyc with rfl | rfl | ⟨y0, y1⟩
          · have HR : Hid (tOk (Y.drop (k + 1)) = tOk Y) := HOK.out
            go_wp2
            go_roundw
            case rel => exact ⟨k + 1, by omega, by go_num, HR.out, HB.out⟩
            case measure => simp [intOf]; omega
          · have HR : Hid (tOk (Y.drop (k + 1)) = tOk Y) := HOK.out
            go_wp2
            go_roundw
            case rel => exact ⟨k + 1, by omega, by go_num, HR.out, HB.out⟩
            case measure => simp [intOf]; omega
          · have e0 : (y != 0) = true := by rw [bne_iff_ne]; exact y0
            have e1 : (y != 1) = true := by rw [bne_iff_ne]; exact y1
            have HR : Hid (tOk Y = false) := by
              show _ = _
              rw [← HOK.out, beq_eq_false_iff_ne.2 y0, beq_eq_false_iff_ne.2 y1]; rfl
            clear y0 y1
            go_wp2
            go_ret
            exact ⟨by rw [HN.out, HR.out]; rfl, HB.out⟩
        · have e : k = Y.length := by omega
          have hge : ¬ (k : Int) < (Y.length : Int) := by omega
          have HR : Hid (tOk Y = true) := by show _ = _; rw [← hok, e, List.drop_length]; rfl
          clear hok hb
          go_wp2
          go_ret
          exact ⟨by rw [HN.out, HR.out]; rfl, HB.out⟩
    · have d1 : decide ((10 : Int) < (Y.length : Int)) = true := decide_eq_true (by omega)
      rw [decide_eq_false h10, Bool.false_and] at HN
      clear hcy
      go_enter Tryd.func39, Tryd.ntmps39
      go_wp2
      go_ret
      exact ⟨by rw [HN.out]; rfl, (Below.refl _ _).alloc (Nat.le_refl _) _⟩
  · rw [if_neg h1] at HN
    have n1 : (K != 1) = true := by rw [bne_iff_ne]; exact h1
    have e0 : ((Y.length : Int) == 0) = (Y.length == 0) := by
      by_cases h : Y.length = 0
      · rw [h]; rfl
      · rw [beq_eq_false_iff_ne.2 h, beq_eq_false_iff_ne]; omega
    rw [← e0] at HN
    clear h1 hcy e0
    go_enter Tryd.func39, Tryd.ntmps39
    go_wp2
    go_ret
    exact ⟨by rw [HN.out]; rfl, (Below.refl _ _).alloc (Nat.le_refl _) _⟩
end Go.Proofs.YtbjaccalloipcaaDoor

/-
  The walks of l2fits, l2many.
  The walk of l2shapes.
-/
import Derived.Test.YtbjaccalloipcaaDoorJVtVS
import Derived.Test.YtbjaccalloipcaaDoorJVtB0
import Derived.Test.YtbjaccalloipcaaDoorJVtND4
namespace Go.Proofs.YtbjaccalloipcaaDoor
open Go.RowKit

set_option maxHeartbeats 1000000 in
set_option maxRecDepth 1000000 in
theorem fits_any (c : Nat) (k : Int) (w : World) : Calls Tryd.prog 21 #[.int .u8 c, .int .i64 k] w fun e w' => e = .returned (.bool (fit c k)) ∧ w' = w := by
  have HE := hide (fun w => specExpr_any k w)
  have HS := hide (fun w => specStat_any k w)
  by_cases h1 : c = 101
  · subst h1
    have HN : Hid (fit 101 k = isExpr k) := rfl
    go_enter Tryd.func21, Tryd.ntmps21
    go_wp2_with fail
    refine (HE.out _).mono ?_
    rintro e w1 ⟨rfl, rfl⟩
    go_wp2
    go_ret
    exact ⟨by rw [HN.out]; rfl, rfl⟩
  by_cases h2 : c = 98
  · subst h2
    have HN : Hid (fit 98 k = (k == 2)) := rfl
    go_enter Tryd.func21, Tryd.ntmps21
    go_wp2
    go_ret
    exact ⟨by rw [HN.out]; rfl, rfl⟩
  by_cases h3 : c = 115
  · subst h3
    have HN : Hid (fit 115 k = isStat k) := rfl
    go_enter Tryd.func21, Tryd.ntmps21
    go_wp2_with fail
    refine (HS.out _).mono ?_
    rintro e w1 ⟨rfl, rfl⟩
    go_wp2
    go_ret
    exact ⟨by rw [HN.out]; rfl, rfl⟩
  by_cases h4 : c = 109
  · subst h4
    by_cases h5 : k = 1
    · subst h5
      have HN : Hid (fit 109 1 = true) := rfl
      go_enter Tryd.func21, Tryd.ntmps21
      go_wp2
      go_ret
      exact ⟨by rw [HN.out]; rfl, rfl⟩
    · have t5 : (k == 1) = false := beq_eq_false_iff_ne.2 h5
      have HN : Hid (fit 109 k = isStat k) := by show (k == 1 || isStat k) = isStat k; rw [t5]; rfl
      clear h5
      go_enter Tryd.func21, Tryd.ntmps21
      go_wp2_with fail
      refine (HS.out _).mono ?_
      rintro e w1 ⟨rfl, rfl⟩
      go_wp2
      go_ret
      exact ⟨by rw [HN.out]; rfl, rfl⟩
  · have t1 : (((c : Nat) : Int) == 101) = false := beq_eq_false_iff_ne.2 (by omega)
    have t2 : (((c : Nat) : Int) == 98) = false := beq_eq_false_iff_ne.2 (by omega)
    have t3 : (((c : Nat) : Int) == 115) = false := beq_eq_false_iff_ne.2 (by omega)
    have t4 : (((c : Nat) : Int) == 109) = false := beq_eq_false_iff_ne.2 (by omega)
    have HN : Hid (fit c k = (k == 2 || k == 6)) := by show _ = _; unfold fit; rw [if_neg h1, if_neg h2, if_neg h3, if_neg h4]
    clear h1 h2 h3 h4
    by_cases h5 : k = 2
    · subst h5
      go_enter Tryd.func21, Tryd.ntmps21
      go_wp2
      go_ret
      exact ⟨by rw [HN.out]; rfl, rfl⟩
    · have t5 : (k == 2) = false := beq_eq_false_iff_ne.2 h5
      rw [t5, Bool.false_or] at HN
      clear h5
      go_enter Tryd.func21, Tryd.ntmps21
      go_wp2
      go_ret
      exact ⟨by rw [HN.out]; rfl, rfl⟩

theorem bx_append (a b : List UInt8) : bx a ++ bx b = bx (a ++ b) := by
  apply ByteArray.ext
  simp [bx]
theorem mny_snoc (c : UInt8) (k : Nat) : mny c k ++ bx [c] = mny c (k + 1) := by
  rw [mny, bx_append, mny, List.replicate_succ']
set_option maxHeartbeats 1000000 in
set_option maxRecDepth 1000000 in
theorem many_any (c : UInt8) (n : Nat) (hn : n ≤ 1048576) (w : World) : Calls Tryd.prog 34 #[.string (bx [c]), .int .i64 n] w fun e w' => e = .returned (.string (mny c n)) ∧ w' = w := by
  go_enter Tryd.func34, Tryd.ntmps34
  go_wp2
  go_loop [5, 6] (fun o i => ∃ k : Nat, k ≤ n ∧ i = .int .i64 k ∧ o = .string (mny c k)) (fun _ i => n - (intOf i).toNat)
  case atStart => exact ⟨0, Nat.zero_le _, rfl, rfl⟩
  case round =>
    obtain ⟨k, hk, rfl, rfl⟩ := hrel
    by_cases hlt : k < n
    · have hlti : decide ((k : Int) < (n : Int)) = true := decide_eq_true (by omega)
      have hz : ¬ 9223372036854775807 < (mny c k).size + (bx [c]).size := by rw [mny_size, bx_size]; simp; omega
      have HS : Hid (mny c k ++ bx [c] = mny c (k + 1)) := mny_snoc c k
      go_wp2
      go_round
      case rel => exact ⟨k + 1, by omega, by go_num, by rw [HS.out]⟩
      case measure => simp [intOf]; omega
    · have hlti : decide ((k : Int) < (n : Int)) = false := decide_eq_false (by omega)
      have HE : Hid (k = n) := by show k = n; omega
      go_wp2
      go_ret
      exact ⟨by rw [← HE.out]; rfl, rfl⟩
end Go.Proofs.YtbjaccalloipcaaDoor

namespace Go.Proofs.YtbjaccalloipcaaDoor
open Go.RowKit

/-- A slice of strings reads as L. -/
def TS (w : World) (v : Value) (L : List ByteArray) : Prop := ∃ a b o c, v = .slice a L.length c ∧ (0 < L.length → a = some ⟨b, o, none⟩) ∧ ∀ j, j < L.length → w.cell? ⟨b, o + j, none⟩ = some (.string (L.getD j .empty))
theorem TS.below {w w' : World} {v : Value} {L : List ByteArray} (h : TS w v L) (hb : Below w.heap.size w w') : TS w' v L := by
  obtain ⟨a, b, o, c, h1, h2, h3⟩ := h
  exact ⟨a, b, o, c, h1, h2, fun j hj => cell_kept (h3 j hj) hb⟩
theorem ts_one {w : World} {b : Nat} {t : TypeId} {x : ByteArray} (h : Blk w b t #[.string x]) : TS w (.slice (some ⟨b, 0, none⟩) 1 1) [x] := by
  refine ⟨_, b, 0, 1, rfl, fun _ => rfl, fun j hj => ?_⟩
  have : j = 0 := by simp at hj; omega
  subst this
  rw [h.cell]; rfl
theorem ts_two {w : World} {b : Nat} {t : TypeId} {x y : ByteArray} (h : Blk w b t #[.string x, .string y]) : TS w (.slice (some ⟨b, 0, none⟩) 2 2) [x, y] := by
  refine ⟨_, b, 0, 2, rfl, fun _ => rfl, fun j hj => ?_⟩
  have : j = 0 ∨ j = 1 := by simp at hj; omega
  rcases this with rfl | rfl <;> (rw [h.cell]; rfl)

theorem blk_new2 (w : World) (o : Obj) (t : TypeId) (cs : Array Value) : Blk ((w.alloc o).alloc (.cells cs t)) (w.heap.size + 1) t cs := by
  have := Blk.new (w.alloc o) t cs
  simpa using this
theorem below2 (w : World) (o o' : Obj) : Below w.heap.size w ((w.alloc o).alloc o') := ((Below.refl _ _).alloc (Nat.le_refl _) _).alloc (by simp) _

set_option maxHeartbeats 4000000 in
set_option maxRecDepth 1000000 in
theorem shapes_any (K N C : Int) (vt vn vy : Value) (w : World) (hk : 0 ≤ K) (hk2 : K ≤ 22) (hc : 0 ≤ C) (hc2 : C ≤ 1048576) :
    Calls Tryd.prog 20 #[.agg #[.int .i64 K, .int .i64 N, vt, vn, vy, .int .i64 C]] w fun e w' => ∃ u, e = .returned u ∧ TS w' u (shp K C) ∧ Below w.heap.size w w' := by
  obtain ⟨n, rfl⟩ : ∃ n : Nat, C = n := ⟨C.toNat, by omega⟩
  have HM := hide (fun c w => many_any c n (by omega) w)
  have HB := hide ((Below.refl w.heap.size w).alloc (Nat.le_refl _) (.cells #[.int .i64 K, .int .i64 N, vt, vn, vy, .int .i64 n] 35))
  rcases kinds K with g | g
  · rcases g with rfl | rfl | rfl | rfl | rfl | rfl | rfl | rfl | rfl | rfl | rfl | rfl | rfl | rfl | rfl | rfl | rfl | rfl | rfl | rfl | rfl | rfl | rfl
    case inl =>
      have HN : Hid (shp 0 n = [mny 109 n]) := rfl
      go_enter Tryd.func20, Tryd.ntmps20
      go_wp2_with fail
      refine (HM.out 109 _).mono ?_
      rintro e w1 ⟨rfl, rfl⟩
      go_wp2
      go_ret
      exact ⟨_, rfl, by rw [HN.out]; exact ts_one (blk_new2 _ _ _ _), below2 _ _ _⟩
    case inr.inr.inl =>
      have HN : Hid (shp 2 n = [mny 115 n]) := rfl
      go_enter Tryd.func20, Tryd.ntmps20
      go_wp2_with fail
      refine (HM.out 115 _).mono ?_
      rintro e w1 ⟨rfl, rfl⟩
      go_wp2
      go_ret
      exact ⟨_, rfl, by rw [HN.out]; exact ts_one (blk_new2 _ _ _ _), below2 _ _ _⟩
    case inr.inr.inr.inr.inl =>
      by_cases h10 : 10 < (n : Int)
      · have t10 : decide ((10 : Int) < (n : Int)) = true := decide_eq_true h10
        have HN : Hid (shp 4 n = []) := by show _ = _; simp [shp]; omega
        go_enter Tryd.func20, Tryd.ntmps20
        go_wp2
        go_ret
        exact ⟨_, rfl, by rw [HN.out]; exact ⟨none, 0, 0, 0, rfl, fun h => absurd h (by decide), fun j hj => absurd hj (Nat.not_lt_zero _)⟩, HB.out⟩
      · have t10 : decide ((10 : Int) < (n : Int)) = false := decide_eq_false h10
        have HN : Hid (shp 4 n = [mny 101 n]) := by show _ = _; simp [shp]; omega
        go_enter Tryd.func20, Tryd.ntmps20
        go_wp2_with fail
        refine (HM.out 101 _).mono ?_
        rintro e w1 ⟨rfl, rfl⟩
        go_wp2
        go_ret
        exact ⟨_, rfl, by rw [HN.out]; exact ts_one (blk_new2 _ _ _ _), below2 _ _ _⟩
    all_goals
      go_enter Tryd.func20, Tryd.ntmps20
      go_wp2
      go_ret
      first
        | exact ⟨_, rfl, ts_one (blk_new2 _ _ _ _), below2 _ _ _⟩
        | exact ⟨_, rfl, ts_two (blk_new2 _ _ _ _), below2 _ _ _⟩
  · omega
end Go.Proofs.YtbjaccalloipcaaDoor

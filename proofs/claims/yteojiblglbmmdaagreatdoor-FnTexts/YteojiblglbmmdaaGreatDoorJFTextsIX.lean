/-
  The walks of impl.isDigit, impl.isRunRune, impl.runSize.
-/
import Derived.Test.YteojiblglbmmdaaGreatDoorJFTextsLX
import Derived.Test.YteojiblglbmmdaaGreatDoorJFTextsQ
namespace Go.Proofs.YteojiblglbmmdaaGreatDoor
open Go.RowKit

set_option maxHeartbeats 400000 in
set_option maxRecDepth 1000000 in
theorem isDigit_any (r : Nat) (w : World) (hr : r ≤ 2147483647) :
    Calls Tryz.prog 47 #[.int .i32 r] w fun e w' => e = .returned (.bool (isD r)) ∧ w' = w := by
  go_enter Tryz.func47, Tryz.ntmps47
  go_wp2
  all_goals go_ret
  all_goals exact ⟨ret_bool (by unfold isD; symm; first | (rw [decide_eq_true_iff]; omega) | (rw [decide_eq_false_iff_not]; omega) | (rw [decide_eq_decide]; omega) | (rw [Bool.eq_iff_iff]; simp; omega)), rfl⟩

set_option maxHeartbeats 400000 in
set_option maxRecDepth 1000000 in
theorem isRunRune_any (r : Nat) (w : World) (hr : r ≤ 2147483647) :
    Calls Tryz.prog 48 #[.int .i32 r] w fun e w' => e = .returned (.bool (isR r)) ∧ w' = w := by
  have HD := hide (fun w => isDigit_any r w hr)
  have HR : Hid (isR r = (isL r || isD r)) := rfl
  have HL := hide (isL_iff r)
  cases hd : isD r with
  | true =>
    rw [hd] at HD HR
    go_enter Tryz.func48, Tryz.ntmps48
    go_wp2_with (go_at_call 47; refine (HD.out _).mono ?_; rintro e w' ⟨rfl, rfl⟩)
    go_ret
    exact ⟨ret_bool (by rw [HR.out, Bool.or_true]), rfl⟩
  | false =>
    rw [hd, Bool.or_false] at HR
    rw [hd] at HD
    clear hd
    go_enter Tryz.func48, Tryz.ntmps48
    go_wp2_with (go_at_call 47; refine (HD.out _).mono ?_; rintro e w' ⟨rfl, rfl⟩)
    all_goals go_ret
    all_goals exact ⟨ret_bool (by rw [HR.out]; unfold isL; symm; first | (rw [decide_eq_true_iff]; omega) | (rw [decide_eq_false_iff_not]; omega) | (rw [Bool.eq_iff_iff]; simp; omega)), rfl⟩

theorem decode_low {s : ByteArray} {p : Nat} (h : (s.get! p).toNat < 128) : Utf8.decode s p = ((s.get! p).toNat, 1) := by
  have h0 : bk s p 0 < 128 := h
  have e := chr_ascii s p h0
  rw [chr_dec (by rw [e]; simp), e]; rfl
theorem decode_high {s : ByteArray} {p : Nat} (h : 128 ≤ (s.get! p).toNat) : 128 ≤ (Utf8.decode s p).1 := by
  rw [Lib.decode_at]
  unfold Lib.decodeN
  repeat' split
  all_goals (try simp only)
  all_goals omega
theorem isR_decode (s : ByteArray) (p : Nat) : isR (Utf8.decode s p).1 = isR (s.get! p).toNat := by
  by_cases h : (s.get! p).toNat < 128
  · rw [decode_low h]
  · have h1 := decode_high (s := s) (p := p) (by omega)
    have a : isR (s.get! p).toNat = false := by rw [Bool.eq_false_iff]; intro g; exact h (isR_low g)
    have b : isR (Utf8.decode s p).1 = false := by rw [Bool.eq_false_iff]; intro g; have := isR_low g; omega
    rw [a, b]

set_option maxHeartbeats 1000000 in
set_option maxRecDepth 1000000 in
theorem runSize_any (s : ByteArray) (w : World) (_hs : s.size ≤ 1048576) :
    Calls Tryz.prog 51 #[.string s] w fun e w' => e = .returned (.int .i64 (run s 0)) ∧ Below w.heap.size w w' := by
  go_enter Tryz.func51, Tryz.ntmps51
  go_wp2
  go_loopw [3] (fun _ wr => ∃ p : Nat, wr.heap[w.heap.size]? = some (.stringIter s p) ∧ p ≤ s.size ∧ (∀ j, j < p → isR (s.get! (0 + j)).toNat = true) ∧ Below w.heap.size w wr) (fun _ wr => s.size - wr.iterPos w.heap.size)
  case atStart => exact ⟨0, World.iter_heap w s 0, Nat.zero_le _, fun j hj => absurd hj (Nat.not_lt_zero _), (Below.refl _ _).alloc (Nat.le_refl _) _⟩
  case round =>
    obtain ⟨p, hit, hp, hall, hbl⟩ := hrel
    have HALL := hide hall
    have HPOS := hide (iterPos_of hit)
    clear hall
    by_cases hlt : p < s.size
    · have hnx : ∀ ty, (Instr.next (.pointer (some ⟨w.heap.size, 0, none⟩)) true ty).run Tryz.prog wr = _ := fun ty => Lib.run_next_any_at wr w.heap.size s p ty hit hlt
      have hit2 := Lib.iterAt_heap wr w.heap.size s p (p + (Utf8.decode s p).2) hit
      have hb2 := below_iterAt hbl (Nat.le_refl _) s (p + (Utf8.decode s p).2)
      have hir := isR_decode s p
      have hdl := decode_le s p
      have hlo : isR (s.get! p).toNat = true → (Utf8.decode s p).2 = 1 := fun g => by rw [decode_low (isR_low g)]
      obtain ⟨r, d, hd⟩ : ∃ r d, Utf8.decode s p = (r, d) := ⟨_, _, rfl⟩
      rw [hd] at hnx hit2 hb2 hir hdl hlo
      simp only at hnx hit2 hb2 hir hdl hlo
      generalize wr.iterAt w.heap.size s (p + d) = wn at *
      have HRR := fun w => isRunRune_any r w (by omega)
      have HB2 := hide hb2
      have HIT := hide hit2
      clear hd hit hit2 hb2
      cases hr : isR (s.get! p).toNat with
      | true =>
        rw [hir, hr] at HRR
        have hd1 := hlo hr
        have HR : Hid (isR (s.get! (0 + p)).toNat = true) := by show _ = _; rw [Nat.zero_add]; exact hr
        have HRR' := hide HRR
        clear hlo hir hr HRR
        subst hd1
        go_wp2_with fail
        refine (HRR'.out _).mono ?_
        rintro e w' ⟨rfl, hw⟩
        subst hw
        go_wp2
        go_roundw
        case rel => exact ⟨p + 1, HIT.out, by omega, fun j hj => by
          by_cases e : j = p
          · rw [e]; exact HR.out
          · exact HALL.out j (by omega), HB2.out⟩
        case measure => rw [iterPos_of HIT.out, HPOS.out]; omega
      | false =>
        rw [hir, hr] at HRR
        have HR : Hid (run s 0 = p) := run_is (by omega) HALL.out (fun g => by rw [Nat.zero_add] at g; have := g.2; rw [hr] at this; cases this)
        have HRR' := hide HRR
        clear hlo hir hr HRR
        go_wp2_with fail
        refine (HRR'.out _).mono ?_
        rintro e w' ⟨rfl, hw⟩
        subst hw
        go_wp2
        go_ret
        exact ⟨by rw [HR.out]; rfl, HB2.out⟩
    · have hnx : ∀ ty, (Instr.next (.pointer (some ⟨w.heap.size, 0, none⟩)) true ty).run Tryz.prog wr = _ := fun ty => Lib.run_next_end_at wr w.heap.size s p ty hit hlt
      have HR : Hid (run s 0 = s.size) := run_is (by omega) (fun j hj => HALL.out j (by omega)) (fun g => by omega)
      clear hit
      go_wp2
      go_ret
      exact ⟨by rw [HR.out]; rfl, hbl⟩
end Go.Proofs.YteojiblglbmmdaaGreatDoor

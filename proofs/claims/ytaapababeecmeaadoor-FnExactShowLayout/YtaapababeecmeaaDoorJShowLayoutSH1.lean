/-
  The walks of spec.l2dec, impl.costSign, impl.targetSign and strconv.Itoa, at small numbers.
-/
import Derived.Test.YtaapababeecmeaaDoorJShowLayoutSH0
import Derived.BigQuiet
import Derived.Deep.QuietTactic
import Derived.Deep.RegionWith
namespace Go.Proofs.YtaapababeecmeaaDoor
open Go.RowKit

theorem u8_wrap {n : Nat} (h : n < 256) : IntKind.u8.wrap (n : Int) = (n : Int) := by
  simp only [IntKind.wrap, IntKind.bits, IntKind.signed]
  simp
  omega

set_option maxHeartbeats 1000000 in
set_option maxRecDepth 1000000 in
theorem l2d_one (v : Nat) (w : World) (hv : v < 10) :
    Calls Tryd.prog 44 #[.int .i64 v] w fun e w' => e = .returned (.string (byt [48 + v])) ∧ w' = w.alloc (.cells #[.int .u8 (48 + (v : Int))] 5) := by
  have t0 : decide ((v : Int) < 0) = false := decide_eq_false (by omega)
  have t1 : decide ((v : Int) < 10) = true := decide_eq_true (by omega)
  have hwr : IntKind.u8.wrap (48 + (v : Int)) = 48 + (v : Int) := by have := u8_wrap (n := 48 + v) (by omega); rw [Int.natCast_add] at this; exact this
  have hcv : (convert 39 9 (.slice (some ⟨w.heap.size, 0, none⟩) 1 1)).run Tryd.prog (w.alloc (.cells #[.int .u8 (48 + (v : Int))] 5)) = .ok (.string (byt [48 + v])) (w.alloc (.cells #[.int .u8 (48 + (v : Int))] 5)) :=
    toStr_bs (s := byt [48 + v]) ⟨_, w.heap.size, 0, 1, rfl, fun _ => rfl, fun j hj => by
      rw [byt_size] at hj
      obtain rfl : j = 0 := by simpa using hj
      rw [byt_bts (Lo.one (by omega)) (by simp)]
      simp⟩
  go_enter Tryd.func44, Tryd.ntmps44
  go_wp2
  go_ret
  exact ⟨rfl, rfl⟩

set_option maxHeartbeats 1000000 in
set_option maxRecDepth 1000000 in
theorem l2d_two (v q r : Nat) (w : World) (hv : 10 ≤ v) (hq : q < 10) (hr : r < 10) (hdv : IntKind.i64.wrap ((v : Int) / 10) = (q : Int)) (hrm : (v : Int).tmod 10 = (r : Int)) :
    Calls Tryd.prog 44 #[.int .i64 v] w fun e w' => e = .returned (.string (byt [48 + q, 48 + r])) ∧ Below w.heap.size w w' := by
  have t0 : decide ((v : Int) < 0) = false := decide_eq_false (by omega)
  have t1 : decide ((v : Int) < 10) = false := decide_eq_false (by omega)
  have hwr : IntKind.u8.wrap (48 + (r : Int)) = 48 + (r : Int) := by have := u8_wrap (n := 48 + r) (by omega); rw [Int.natCast_add] at this; exact this
  have hw0 : IntKind.i64.wrap (48 + (r : Int)) = 48 + (r : Int) := by rw [IntKind.wrap_i64]; omega
  have hs : ∀ (W : World) (b : Nat), W.cell? ⟨b, 0, none⟩ = some (.int .u8 (48 + (r : Int))) → (convert 39 9 (.slice (some ⟨b, 0, none⟩) 1 1)).run Tryd.prog W = .ok (.string (byt [48 + r])) W := fun W b hc =>
    toStr_bs (s := byt [48 + r]) ⟨_, b, 0, 1, rfl, fun _ => rfl, fun j hj => by
      rw [byt_size] at hj
      obtain rfl : j = 0 := by simpa using hj
      rw [byt_bts (Lo.one (by omega)) (by simp), hc]
      simp⟩
  have c1 := hs (w.alloc (.cells #[.int .u8 (48 + (r : Int))] 5)).drew w.heap.size (by simp)
  have c2 := hs ((w.alloc (.cells #[.int .u8 (48 + (q : Int))] 5)).alloc (.cells #[.int .u8 (48 + (r : Int))] 5)).drew (w.heap.size + 1) (by
    have := cell_fresh (w.alloc (.cells #[.int .u8 (48 + (q : Int))] 5)) #[.int .u8 (48 + (r : Int))] 5 0
    rw [World.size_alloc] at this
    exact this)
  have c3 := hs ((w.alloc (.cells #[.int .u8 (48 + (r : Int))] 5)).alloc (.cells #[.int .u8 (48 + (q : Int))] 5)).drew w.heap.size (by
    have h1 := cell_fresh w #[.int .u8 (48 + (r : Int))] 5 0
    exact cell_kept h1 (((Below.refl _ _).alloc (Nat.le_refl _) _).drew))
  clear hs
  have HQ := hide (fun w => l2d_one q w hq)
  have HE : Hid (byt [48 + q] ++ byt [48 + r] = byt [48 + q, 48 + r]) := (byt_append [48 + q] [48 + r]).symm
  clear hq hr hv
  go_enter Tryd.func44, Tryd.ntmps44
  go_wp2_with fail
  go_region_with (go_at_call 44; refine (HQ.out _).mono ?_; rintro e w' ⟨rfl, rfl⟩)
  all_goals
    go_wp2
    go_ret
    refine ⟨congrArg (fun x => Ending.returned (Value.string x)) HE.out, ?_⟩
    exact ((((Below.refl _ w).alloc (Nat.le_refl _) _).alloc (by simp) _).drew)

theorem l2dec_any (v : Nat) (w : World) (hv : v < 100) :
    Calls Tryd.prog 44 #[.int .i64 v] w fun e w' => e = .returned (.string (byt (decL v))) ∧ Below w.heap.size w w' := by
  unfold decL
  by_cases h : v < 10
  · rw [if_pos h]
    refine (l2d_one v w h).mono ?_
    rintro e w' ⟨rfl, rfl⟩
    exact ⟨rfl, (Below.refl _ _).alloc (Nat.le_refl _) _⟩
  · rw [if_neg h]
    exact l2d_two v (v / 10) (v % 10) w (by omega) (by omega) (by omega) (by rw [IntKind.wrap_i64]; omega) (by rfl)

theorem small_one (r : Nat) (hr : r < 10) (w : World) : (Instr.slice 9 (.string { data := #[48, 49, 50, 51, 52, 53, 54, 55, 56, 57, 97, 98, 99, 100, 101, 102, 103, 104, 105, 106, 107, 108, 109, 110, 111, 112, 113, 114, 115, 116, 117, 118, 119, 120, 121, 122] }) (some (.int .i64 (r : Int))) (some (.int .i64 ((r : Int) + 1))) none).run Tryd.prog w = .ok (.string (byt [48 + r])) w :=
  match r, hr with
  | 0, _ => by kernel_rfl
  | 1, _ => by kernel_rfl
  | 2, _ => by kernel_rfl
  | 3, _ => by kernel_rfl
  | 4, _ => by kernel_rfl
  | 5, _ => by kernel_rfl
  | 6, _ => by kernel_rfl
  | 7, _ => by kernel_rfl
  | 8, _ => by kernel_rfl
  | 9, _ => by kernel_rfl
  | n + 10, h => absurd h (by omega)

set_option maxHeartbeats 1000000 in
set_option maxRecDepth 1000000 in
theorem small_low (v : Nat) (w : World) (hv : v < 10) :
    Calls Tryd.prog 79 #[.int .i64 v] w fun e w' => e = .returned (.string (byt [48 + v])) ∧ w' = w := by
  have t1 : decide ((v : Int) < 10) = true := decide_eq_true (by omega)
  have h1 := fun w => small_one v hv w
  go_enter Tryd.func79, Tryd.ntmps79
  go_wp2
  go_ret
  exact ⟨rfl, rfl⟩

theorem small_two (r : Nat) (h0 : 10 ≤ r) (hr : r < 40) (w : World) : (Instr.slice 9 (.string { data := #[48, 48, 48, 49, 48, 50, 48, 51, 48, 52, 48, 53, 48, 54, 48, 55, 48, 56, 48, 57, 49, 48, 49, 49, 49, 50, 49, 51, 49, 52, 49, 53, 49, 54, 49, 55, 49, 56, 49, 57, 50, 48, 50, 49, 50, 50, 50, 51, 50, 52, 50, 53, 50, 54, 50, 55, 50, 56, 50, 57, 51, 48, 51, 49, 51, 50, 51, 51, 51, 52, 51, 53, 51, 54, 51, 55, 51, 56, 51, 57, 52, 48, 52, 49, 52, 50, 52, 51, 52, 52, 52, 53, 52, 54, 52, 55, 52, 56, 52, 57, 53, 48, 53, 49, 53, 50, 53, 51, 53, 52, 53, 53, 53, 54, 53, 55, 53, 56, 53, 57, 54, 48, 54, 49, 54, 50, 54, 51, 54, 52, 54, 53, 54, 54, 54, 55, 54, 56, 54, 57, 55, 48, 55, 49, 55, 50, 55, 51, 55, 52, 55, 53, 55, 54, 55, 55, 55, 56, 55, 57, 56, 48, 56, 49, 56, 50, 56, 51, 56, 52, 56, 53, 56, 54, 56, 55, 56, 56, 56, 57, 57, 48, 57, 49, 57, 50, 57, 51, 57, 52, 57, 53, 57, 54, 57, 55, 57, 56, 57, 57] }) (some (.int .i64 ((r : Int) * 2))) (some (.int .i64 ((r : Int) * 2 + 2))) none).run Tryd.prog w = .ok (.string (byt [48 + r / 10, 48 + r % 10])) w :=
  match r, h0, hr with
  | 10, _, _ => by kernel_rfl
  | 11, _, _ => by kernel_rfl
  | 12, _, _ => by kernel_rfl
  | 13, _, _ => by kernel_rfl
  | 14, _, _ => by kernel_rfl
  | 15, _, _ => by kernel_rfl
  | 16, _, _ => by kernel_rfl
  | 17, _, _ => by kernel_rfl
  | 18, _, _ => by kernel_rfl
  | 19, _, _ => by kernel_rfl
  | 20, _, _ => by kernel_rfl
  | 21, _, _ => by kernel_rfl
  | 22, _, _ => by kernel_rfl
  | 23, _, _ => by kernel_rfl
  | 24, _, _ => by kernel_rfl
  | 25, _, _ => by kernel_rfl
  | 26, _, _ => by kernel_rfl
  | 27, _, _ => by kernel_rfl
  | 28, _, _ => by kernel_rfl
  | 29, _, _ => by kernel_rfl
  | 30, _, _ => by kernel_rfl
  | 31, _, _ => by kernel_rfl
  | 32, _, _ => by kernel_rfl
  | 33, _, _ => by kernel_rfl
  | 34, _, _ => by kernel_rfl
  | 35, _, _ => by kernel_rfl
  | 36, _, _ => by kernel_rfl
  | 37, _, _ => by kernel_rfl
  | 38, _, _ => by kernel_rfl
  | 39, _, _ => by kernel_rfl
  | n + 40, _, h => absurd h (by omega)
  | 0, h, _ | 1, h, _ | 2, h, _ | 3, h, _ | 4, h, _ | 5, h, _ | 6, h, _ | 7, h, _ | 8, h, _ | 9, h, _ => absurd h (by decide)

set_option maxHeartbeats 1000000 in
set_option maxRecDepth 1000000 in
theorem small_high (v : Nat) (w : World) (h0 : 10 ≤ v) (hv : v < 40) :
    Calls Tryd.prog 79 #[.int .i64 v] w fun e w' => e = .returned (.string (byt [48 + v / 10, 48 + v % 10])) ∧ w' = w := by
  have t1 : decide ((v : Int) < 10) = false := decide_eq_false (by omega)
  have h1 := fun w => small_two v h0 hv w
  have a1 : IntKind.i64.wrap ((v : Int) * 2) = (v : Int) * 2 := by rw [IntKind.wrap_i64]; omega
  have a2 : IntKind.i64.wrap ((v : Int) * 2 + 2) = (v : Int) * 2 + 2 := by rw [IntKind.wrap_i64]; omega
  go_enter Tryd.func79, Tryd.ntmps79
  go_wp2
  go_ret
  exact ⟨rfl, rfl⟩

theorem small_any (v : Nat) (w : World) (hv : v < 40) :
    Calls Tryd.prog 79 #[.int .i64 v] w fun e w' => e = .returned (.string (byt (decL v))) ∧ w' = w := by
  unfold decL
  by_cases h : v < 10
  · rw [if_pos h]; exact small_low v w h
  · rw [if_neg h]; exact small_high v w (by omega) hv

set_option maxHeartbeats 1000000 in
set_option maxRecDepth 1000000 in
theorem formatInt_any (v : Nat) (w : World) (hv : v < 40) :
    Calls Tryd.prog 73 #[.int .i64 v, .int .i64 10] w fun e w' => e = .returned (.string (byt (decL v))) ∧ Below w.heap.size w w' := by
  have t0 : decide (0 ≤ (v : Int)) = true := decide_eq_true (by omega)
  have t1 : decide ((v : Int) < 100) = true := decide_eq_true (by omega)
  have HS := hide (fun w => small_any v w hv)
  go_enter Tryd.func73, Tryd.ntmps73
  go_wp2_with fail
  refine (HS.out _).mono ?_
  rintro e w' ⟨rfl, rfl⟩
  go_wp2
  go_ret
  refine ⟨rfl, ?_⟩
  first
    | exact Below.refl _ _
    | exact (Below.refl _ _).alloc (Nat.le_refl _) _

set_option maxHeartbeats 1000000 in
set_option maxRecDepth 1000000 in
theorem itoa0_any (v : Nat) (w : World) (hv : v < 40) :
    Calls Tryd.prog 68 #[.int .i64 v] w fun e w' => e = .returned (.string (byt (decL v))) ∧ Below w.heap.size w w' := by
  have HS := hide (fun w => formatInt_any v w hv)
  have a1 : IntKind.i64.wrap (v : Int) = (v : Int) := by rw [IntKind.wrap_i64]; omega
  go_enter Tryd.func68, Tryd.ntmps68
  go_wp2_with fail
  refine (HS.out _).mono ?_
  rintro e w' ⟨rfl, hb⟩
  have HB := hide hb
  clear hb
  go_wp2
  go_ret
  exact ⟨rfl, HB.out⟩

set_option maxHeartbeats 1000000 in
set_option maxRecDepth 1000000 in
theorem itoa_any (v : Nat) (w : World) (hv : v < 40) :
    Calls Tryd.prog 59 #[.int .i64 v] w fun e w' => e = .returned (.string (byt (decL v))) ∧ Below w.heap.size w w' := by
  have HS := hide (fun w => itoa0_any v w hv)
  go_enter Tryd.func59, Tryd.ntmps59
  go_wp2_with fail
  refine (HS.out _).mono ?_
  rintro e w' ⟨rfl, hb⟩
  have HB := hide hb
  clear hb
  go_wp2
  go_ret
  exact ⟨rfl, HB.out⟩

set_option maxHeartbeats 1000000 in
set_option maxRecDepth 1000000 in
theorem costSign_any (c : Int) (w : World) (h0 : 0 ≤ c) (h1 : c ≤ 9) :
    Calls Tryd.prog 45 #[.int .i64 c] w fun e w' => e = .returned (.int .u8 (csg c : Nat)) ∧ w' = w := by
  by_cases q0 : c = 0
  · subst q0
    go_enter Tryd.func45, Tryd.ntmps45
    go_wp2
    go_ret
    exact ⟨rfl, rfl⟩
  by_cases q1 : c = 1
  · subst q1
    go_enter Tryd.func45, Tryd.ntmps45
    go_wp2
    go_ret
    exact ⟨rfl, rfl⟩
  obtain ⟨n, rfl⟩ : ∃ n : Nat, c = n := ⟨c.toNat, by omega⟩
  have e0 : ((n : Int) == 0) = false := by rw [beq_eq_false_iff_ne]; exact q0
  have e1 : ((n : Int) == 1) = false := by rw [beq_eq_false_iff_ne]; exact q1
  have HR : Hid (csg n = 48 + n) := by show _ = _; unfold csg; rw [if_neg q0, if_neg q1, Int.toNat_natCast]
  have hw1 : IntKind.u8.wrap (n : Int) = (n : Int) := u8_wrap (by omega)
  have hw2 : IntKind.u8.wrap (48 + (n : Int)) = 48 + (n : Int) := by have := u8_wrap (n := 48 + n) (by omega); rw [Int.natCast_add] at this; exact this
  clear q0 q1
  go_enter Tryd.func45, Tryd.ntmps45
  go_wp2
  go_ret
  refine ⟨?_, rfl⟩
  rw [HR.out]
  simp

set_option maxHeartbeats 1000000 in
set_option maxRecDepth 1000000 in
theorem targetSign_any (k : Int) (w : World) :
    Calls Tryd.prog 46 #[.int .i64 k] w fun e w' => e = .returned (.int .u8 (tsg k : Nat)) ∧ w' = w := by
  by_cases q0 : k = 0
  · subst q0
    go_enter Tryd.func46, Tryd.ntmps46
    go_wp2
    go_ret
    exact ⟨rfl, rfl⟩
  have e0 : (k == 0) = false := by rw [beq_eq_false_iff_ne]; exact q0
  have HR : Hid (tsg k = 67) := by show _ = _; unfold tsg; rw [if_neg q0]
  clear q0
  go_enter Tryd.func46, Tryd.ntmps46
  go_wp2
  go_ret
  exact ⟨by rw [HR.out]; rfl, rfl⟩
end Go.Proofs.YtaapababeecmeaaDoor

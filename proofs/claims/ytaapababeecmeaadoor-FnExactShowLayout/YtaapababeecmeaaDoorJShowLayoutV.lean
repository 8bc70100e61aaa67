/-
  The walks of strconv.AppendInt at base 16 (bytes alone) and what it calls.
-/
import Derived.Test.YtaapababeecmeaaDoorJShowLayoutAP
import Derived.Test.YtaapababeecmeaaDoorJShowLayoutK
namespace Go.Proofs.YtaapababeecmeaaDoor
open Go.RowKit

set_option maxHeartbeats 400000 in
set_option maxRecDepth 1000000 in
theorem tz_16 (w : World) (hc : w.cell? ⟨7, 15, none⟩ = some (.int .u8 4)) :
    Calls Tryd.prog 89 #[.int .u64 16] w fun e w' => e = .returned (.int .i64 4) ∧ w' = w := by
  have hidx : IntKind.u64.wrap (bits BinOp.and IntKind.u64 16 (IntKind.u64.wrap (-16)) * 285870213051353865) / 288230376151711744 = 15 := by decide +kernel
  go_enter Tryd.func89, Tryd.ntmps89
  go_wp2
  go_ret
  exact ⟨rfl, rfl⟩
set_option maxHeartbeats 400000 in
set_option maxRecDepth 1000000 in
theorem pow2_16 (w : World) : Calls Tryd.prog 88 #[.int .i64 16] w fun e w' => e = .returned (.bool true) ∧ w' = w := by
  have hb : bits BinOp.and IntKind.i64 16 15 = 0 := by decide +kernel
  go_enter Tryd.func88, Tryd.ntmps88
  go_wp2
  go_ret
  exact ⟨rfl, rfl⟩

theorem digit36 (r : Nat) (hr : r < 16) (w : World) : (Instr.index 9 (.string { data := #[48, 49, 50, 51, 52, 53, 54, 55, 56, 57, 97, 98, 99, 100, 101, 102, 103, 104, 105, 106, 107, 108, 109, 110, 111, 112, 113, 114, 115, 116, 117, 118, 119, 120, 121, 122] }) (.int .u64 (r : Int))).run Tryd.prog w = .ok (.int .u8 (dg r : Nat)) w :=
  match r, hr with
  | 0, _ => by kernel_rfl
  | 1, _ => by kernel_rfl
  | 2, _ => by kernel_rfl
  | 3, _ => by kernel_rfl
  | 4, _ => by kernel_rfl
  | 5, _ => by kernel_rfl
  | 6, _ => by kernel_rfl
  | 7, _ => by kernel_rfl
  | 8, _ => by kernel_rfl
  | 9, _ => by kernel_rfl
  | 10, _ => by kernel_rfl
  | 11, _ => by kernel_rfl
  | 12, _ => by kernel_rfl
  | 13, _ => by kernel_rfl
  | 14, _ => by kernel_rfl
  | 15, _ => by kernel_rfl
  | n + 16, h => absurd h (by omega)


theorem later_cell {w : World} {p : Addr} {v : Value} (hc : w.cell? p = some v) (o : Obj) : (w.alloc o).cell? p = some v := by
  rw [((Below.refl _ w).alloc (Nat.le_refl _) o).cell (p := p) (World.block_lt_of_cell? _ _ hc)]; exact hc

set_option maxHeartbeats 400000 in
set_option maxRecDepth 1000000 in
theorem fb_one (B : Nat) (v : Value) (l : List Nat) (u : Nat) (w : World) (hc : w.cell? ⟨7, 15, none⟩ = some (.int .u8 4)) (hl : l.length ≤ 90000000) (hu : (u : Int) < 16) (hBw : B ≤ w.heap.size) (hown : w.ownsRow B 5 1 v l.length (cv l)) :
    Calls Tryd.prog 82 #[v, .int .u64 u, .int .i64 16, .bool false, .bool true] w fun e w' => ∃ v', e = .returned (.tuple #[v', .string ⟨#[]⟩]) ∧ w'.ownsRow B 5 1 v' (l ++ [dg u]).length (cv (l ++ [dg u])) ∧ ∃ o, (w.alloc o).grownBy w' v.ownBlock := by
  have HO := hide hown
  have HCA := hide (later_cell hc)
  have hdig := digit36 u (by omega)
  clear hown hc
  go_enter Tryd.func82, Tryd.ntmps82
  go_wp2_with (first | (go_at_call 88; refine (pow2_16 _).mono ?_; rintro e w' ⟨rfl, rfl⟩) | (go_at_call 89; refine (tz_16 _ (HCA.out _)).mono ?_; rintro e w' ⟨rfl, rfl⟩))
  refine wp_loop_rounds 1 ?_
  rw [rounds_succ]
  go_wp2_with (at_builtin; refine wp_app_at rfl (.tmp 95) (.tmp 97) rfl B _ l rfl (HO.out.alloc _) w.heap.size 64 1 [dg u] rfl ?n1 ?l1 ?b1 ?_)
  case n1 => (intro j hj; match j, hj with | 0, _ => simp)
  case l1 => (show l.length + 1 ≤ _; omega)
  case b1 => (simp; omega)
  intro v' w' l' hl' ho hg
  go_wp2
  go_ret2
  exact ⟨v', rfl, by rw [← hl'.out]; exact ho, _, hg⟩

theorem and15 : ∀ u : Fin 256, bits BinOp.and IntKind.u64 ((u.val : Nat) : Int) 15 = ((u.val % 16 : Nat) : Int) := by decide +kernel

set_option maxHeartbeats 400000 in
set_option maxRecDepth 1000000 in
theorem fb_two (B : Nat) (v : Value) (l : List Nat) (u q r : Nat) (w : World) (hc : w.cell? ⟨7, 15, none⟩ = some (.int .u8 4)) (hl : l.length ≤ 90000000) (hu : 16 ≤ (u : Int)) (_hu2 : (u : Int) < 256) (hand : bits BinOp.and IntKind.u64 (u : Int) 15 = (r : Int)) (hdiv : (u : Int) / 16 = (q : Int)) (hr : r < 16) (hq : q < 16) (hBw : B ≤ w.heap.size) (hown : w.ownsRow B 5 1 v l.length (cv l)) :
    Calls Tryd.prog 82 #[v, .int .u64 u, .int .i64 16, .bool false, .bool true] w fun e w' => ∃ v', e = .returned (.tuple #[v', .string ⟨#[]⟩]) ∧ w'.ownsRow B 5 1 v' (l ++ [dg q, dg r]).length (cv (l ++ [dg q, dg r])) ∧ ∃ o, (w.alloc o).grownBy w' v.ownBlock := by
  have HO := hide hown
  have HCA := hide (later_cell hc)
  have hdig := digit36 q hq
  have hdig2 := digit36 r hr
  have hqi : (q : Int) < 16 := by omega
  clear hown hc
  go_enter Tryd.func82, Tryd.ntmps82
  go_wp2_with (first | (go_at_call 88; refine (pow2_16 _).mono ?_; rintro e w' ⟨rfl, rfl⟩) | (go_at_call 89; refine (tz_16 _ (HCA.out _)).mono ?_; rintro e w' ⟨rfl, rfl⟩))
  refine wp_loop_rounds 2 ?_
  rw [rounds_succ]
  go_wp2_with fail
  rw [rounds_succ]
  go_wp2_with (at_builtin; refine wp_app_at rfl (.tmp 95) (.tmp 97) rfl B _ l rfl (HO.out.alloc _) w.heap.size 63 2 [dg q, dg r] rfl ?n1 ?l1 ?b1 ?_)
  case n1 => (intro j hj; match j, hj with | 0, _ => simp | 1, _ => simp)
  case l1 => (show l.length + 2 ≤ _; omega)
  case b1 => (simp; omega)
  intro v' w' l' hl' ho hg
  go_wp2
  go_ret2
  exact ⟨v', rfl, by rw [← hl'.out]; exact ho, _, hg⟩

theorem fb_any (B : Nat) (v : Value) (l : List Nat) (u : Nat) (w : World) (hc : w.cell? ⟨7, 15, none⟩ = some (.int .u8 4)) (hl : l.length ≤ 90000000) (hu : u < 256) (hBw : B ≤ w.heap.size) (hown : w.ownsRow B 5 1 v l.length (cv l)) :
    Calls Tryd.prog 82 #[v, .int .u64 u, .int .i64 16, .bool false, .bool true] w fun e w' => ∃ v', e = .returned (.tuple #[v', .string ⟨#[]⟩]) ∧ w'.ownsRow B 5 1 v' (l ++ hexL u).length (cv (l ++ hexL u)) ∧ ∃ o, (w.alloc o).grownBy w' v.ownBlock := by
  by_cases h : u < 16
  · have e : hexL u = [dg u] := by unfold hexL; rw [if_pos h]
    rw [e]
    exact fb_one B v l u w hc hl (by omega) hBw hown
  · have e : hexL u = [dg (u / 16), dg (u % 16)] := by unfold hexL; rw [if_neg h]
    rw [e]
    exact fb_two B v l u (u / 16) (u % 16) w hc hl (by omega) (by omega) (and15 ⟨u, hu⟩) (by omega) (by omega) (by omega) hBw hown

set_option maxHeartbeats 400000 in
theorem au_any (B : Nat) (v : Value) (l : List Nat) (u : Nat) (w : World) (hc : w.cell? ⟨7, 15, none⟩ = some (.int .u8 4)) (hl : l.length ≤ 90000000) (hu : u < 256) (hBw : B ≤ w.heap.size) (hown : w.ownsRow B 5 1 v l.length (cv l)) :
    Calls Tryd.prog 84 #[v, .int .u64 u, .int .i64 16] w fun e w' => ∃ v', e = .returned v' ∧ w'.ownsRow B 5 1 v' (l ++ hexL u).length (cv (l ++ hexL u)) ∧ ∃ o, (w.alloc o).grownBy w' v.ownBlock := by
  have H := hide (fb_any B v l u w hc hl hu hBw hown)
  clear hown hc
  go_enter Tryd.func84, Tryd.ntmps84
  go_wp2_with fail
  refine H.out.mono ?_
  rintro e w' ⟨v', rfl, ho, hg⟩
  go_wp2
  go_ret
  exact ⟨v', rfl, ho, hg⟩

set_option maxHeartbeats 400000 in
theorem ai_any (B : Nat) (v : Value) (l : List Nat) (u : Nat) (w : World) (hc : w.cell? ⟨7, 15, none⟩ = some (.int .u8 4)) (hl : l.length ≤ 90000000) (hu : u < 256) (hBw : B ≤ w.heap.size) (hown : w.ownsRow B 5 1 v l.length (cv l)) :
    Calls Tryd.prog 77 #[v, .int .i64 u, .int .i64 16] w fun e w' => ∃ v', e = .returned v' ∧ w'.ownsRow B 5 1 v' (l ++ hexL u).length (cv (l ++ hexL u)) ∧ ∃ o, (w.alloc o).grownBy w' v.ownBlock := by
  have H := hide (au_any B v l u w hc hl hu hBw hown)
  clear hown hc
  have h0 : ((u : Int) < 0) = False := by simp
  have h256 : (u : Int) < 256 := by omega
  go_enter Tryd.func77, Tryd.ntmps77
  go_wp2_with fail
  refine H.out.mono ?_
  rintro e w' ⟨v', rfl, ho, hg⟩
  go_wp2
  go_ret
  exact ⟨v', rfl, ho, hg⟩

set_option maxHeartbeats 400000 in
theorem appendInt_any (B : Nat) (v : Value) (l : List Nat) (u : Nat) (w : World) (hc : w.cell? ⟨7, 15, none⟩ = some (.int .u8 4)) (hl : l.length ≤ 90000000) (hu : u < 256) (hBw : B ≤ w.heap.size) (hown : w.ownsRow B 5 1 v l.length (cv l)) :
    Calls Tryd.prog 71 #[v, .int .i64 u, .int .i64 16] w fun e w' => ∃ v', e = .returned v' ∧ w'.ownsRow B 5 1 v' (l ++ hexL u).length (cv (l ++ hexL u)) ∧ ∃ o, (w.alloc o).grownBy w' v.ownBlock := by
  have H := hide (ai_any B v l u w hc hl hu hBw hown)
  clear hown hc
  go_enter Tryd.func71, Tryd.ntmps71
  go_wp2_with fail
  refine H.out.mono ?_
  rintro e w' ⟨v', rfl, ho, hg⟩
  go_wp2
  go_ret
  exact ⟨v', rfl, ho, hg⟩
end Go.Proofs.YtaapababeecmeaaDoor

/-
  The walks of waysIn and of the function that it answers.
-/
import Derived.Test.YtaapababeecmeaaDoorJShowLayoutKP
import Derived.Sort.QuietIn
namespace Go.Proofs.YtaapababeecmeaaDoor
open Go.RowKit Go.Shelf

attribute [local go_sem] Oper.semAt_some

def encW (x : Fin 4) : Array Value := #[.int .i64 (x.1 : Nat)]
def wy1 (P : Nat → Bool) (d : Fin 4) : List (Fin 4) := if P d.1 then [d] else []
/-- The ways of a sum, from k on. -/
def wyr (P : Nat → Bool) : Nat → List (Fin 4)
  | 0 => wy1 P 0 ++ (wy1 P 1 ++ (wy1 P 2 ++ (wy1 P 3 ++ [])))
  | 1 => wy1 P 1 ++ (wy1 P 2 ++ (wy1 P 3 ++ []))
  | 2 => wy1 P 2 ++ (wy1 P 3 ++ [])
  | 3 => wy1 P 3 ++ []
  | _ => []
theorem wyr_step (P : Nat → Bool) (k : Nat) (h : k < 4) : wyr P k = wy1 P ⟨k, h⟩ ++ wyr P (k + 1) := by
  match k, h with
  | 0, _ => rfl
  | 1, _ => rfl
  | 2, _ => rfl
  | 3, _ => rfl

set_option maxRecDepth 1000000 in
set_option maxHeartbeats 1000000 in
theorem waysIn_in (n : Nat) (s : Int) (w : World) :
    CallsIn Fence.wide n Tryd.prog 51 #[.int .i64 s] w fun e w' => e = .returned (.func (.func 63) #[] #[.pointer (some ⟨w.heap.size, 0, none⟩)]) ∧ w' = w.alloc (.cells #[.int .i64 s] 3) := by
  refine callsIn_of_wp Tryd.func51 rfl trivial ?_ rfl
  simp only [Tryd.ntmps51, List.size_toArray, List.length_cons, List.length_nil, Nat.reduceAdd, Nat.reduceSub, Array.replicate_succ, Array.replicate_zero, List.push_toArray, List.append_toArray, List.nil_append, List.cons_append]
  gi_wp2
  go_ret
  exact ⟨rfl, rfl⟩

/-- What a round's body answers, as one bool. -/
theorem yb_of {e : Ending} {A B : Prop} (h : (e = .returned (.bool true) ∧ A) ∨ (e = .returned (.bool false) ∧ B)) : ∃ b : Bool, e = .returned (.bool b) ∧ ((b = true ∧ A) ∨ (b = false ∧ B)) := by
  rcases h with ⟨h1, h2⟩ | ⟨h1, h2⟩
  · exact ⟨true, h1, .inl ⟨rfl, h2⟩⟩
  · exact ⟨false, h1, .inr ⟨rfl, h2⟩⟩

set_option maxRecDepth 1000000 in
set_option maxHeartbeats 4000000 in
theorem ways1_in (n : Nat) (hn : 1 ≤ n) (l Bn : Nat) (s : Int) (P : Nat → Bool) (hP0 : (bits .and .i64 s 1 != 0) = P 0) (hP1 : (bits .and .i64 s 2 != 0) = P 1) (hP2 : (bits .and .i64 s 4 != 0) = P 2) (hP3 : (bits .and .i64 s 8 != 0) = P 3) (J Jx : List (Fin 4) → World → Prop) (W w0 : World) (hJ : AbidesFrom W.heap.size J)
    (hY : ∀ pre x W1, J pre W1 → pre.length < (wyr P 0).length → YieldAt Fence.wide (n - 1) Tryd.prog l (encW x) W1 fun e W' =>
      (e = .returned (.bool true) ∧ J (pre ++ [x]) W' ∧ KpB w0.heap.size Bn W1 W') ∨ (e = .returned (.bool false) ∧ Jx (pre ++ [x]) W'))
    (hBn : W.cell? ⟨Bn, 0, none⟩ = some (.int .i64 s)) (hW : Below w0.heap.size w0 W) (h0 : J [] W) :
    CallsIn Fence.wide n Tryd.prog 63 #[.func (.yield l) #[] #[], .pointer (some ⟨Bn, 0, none⟩)] W fun e W' => (∃ v, e = .returned v) ∧
      ((∃ ys, ys = wyr P 0 ∧ J ys W') ∨ (∃ pre, pre <+: wyr P 0 ∧ Jx pre W')) := by
  obtain ⟨A, hA⟩ : ∃ A, wyr P 0 = A := ⟨_, rfl⟩
  rw [hA] at hY ⊢
  have HA := hide hA
  have HJ := hide hJ
  have HY := hide hY
  have HW := hide hW
  have H0 := hide h0
  have HP : Hid (((bits .and .i64 s 1 != 0) = P 0) ∧ ((bits .and .i64 s 2 != 0) = P 1) ∧ ((bits .and .i64 s 4 != 0) = P 2) ∧ ((bits .and .i64 s 8 != 0) = P 3)) := ⟨hP0, hP1, hP2, hP3⟩
  clear hA hJ hY hW h0 hP0 hP1 hP2 hP3
  refine callsIn_of_wp Tryd.func63 rfl trivial ?_ rfl
  simp only [Tryd.ntmps63, List.size_toArray, List.length_cons, List.length_nil, Nat.reduceAdd, Nat.reduceSub, Array.replicate_succ, Array.replicate_zero, List.push_toArray, List.append_toArray, List.nil_append, List.cons_append]
  gi_wp2
  gi_loopw [4] (fun ix wr => ∃ (k : Nat) (pre : List (Fin 4)), ix = .int .i64 k ∧ k ≤ 4 ∧ A = pre ++ wyr P k ∧ J pre wr ∧ Below w0.heap.size w0 wr ∧ W.heap.size ≤ wr.heap.size ∧ wr.cell? ⟨Bn, 0, none⟩ = some (.int .i64 s)) (fun ix _ => 4 - (intOf ix).toNat)
  case atStart => exact ⟨0, [], rfl, Nat.zero_le _, by rw [HA.out]; rfl, H0.out, HW.out, Nat.le_refl _, hBn⟩
  case round =>
    obtain ⟨k, pre, rfl, hk, hA, hJs, hbl, hWs, hcs⟩ := hrel
    have HAA := hide hA
    have HJS := hide hJs
    have HBL := hide hbl
    clear hA hJs hbl
    by_cases hlt : k < 4
    · have d1 : decide ((k : Int) < 4) = true := decide_eq_true (by omega)
      have hst := hide (wyr_step P k hlt)
      obtain ⟨m, hm, hz⟩ : ∃ m : Int, (bits .and .i64 s m != 0) = P k ∧ ((k = 0 ∧ m = 1) ∨ (k = 1 ∧ m = 2) ∨ (k = 2 ∧ m = 4) ∨ (k = 3 ∧ m = 8)) := by
        obtain ⟨e0, e1, e2, e3⟩ := HP.out
        match k, hlt with
        | 0, _ => exact ⟨1, e0, by simp⟩
        | 1, _ => exact ⟨2, e1, by simp⟩
        | 2, _ => exact ⟨4, e2, by simp⟩
        | 3, _ => exact ⟨8, e3, by simp⟩
      obtain ⟨b, hb⟩ : ∃ b, P k = b := ⟨_, rfl⟩
      rw [hb] at hm
      have e1 : IntKind.i64.wrap 1 = 1 := by decide
      have e2 : IntKind.i64.wrap 2 = 2 := by decide
      have e4 : IntKind.i64.wrap 4 = 4 := by decide
      have e8 : IntKind.i64.wrap 8 = 8 := by decide
      cases b with
      | false =>
        have HE : Hid (A = pre ++ wyr P (k + 1)) := by
          show _ = _
          rw [HAA.out, hst.out]
          unfold wy1
          simp [hb]
        rcases hz with ⟨rfl, rfl⟩ | ⟨rfl, rfl⟩ | ⟨rfl, rfl⟩ | ⟨rfl, rfl⟩
        · gi_wp2
          refine wpIn_region_quiet_lit rfl (by kernel_rfl) (by kernel_rfl) ?_
          repeat (gi_big_quiet_step (fail))
          refine BigFrame.wpQuietIn_skip (fun _ _ _ _ => trivial) rfl ?_
          change wpQuietIn _ _ _ _ _ _ _ { tmps := #[_, _, _, _, _, _, _, _, _, _, _, _, _, _, _, undef, _, _, _], defers := [] }
          repeat (gi_big_quiet_step (fail))
          refine wpQuietIn_nil ?_
          rintro _ ⟨nq, rfl⟩
          gi_wp2
          go_roundw
          case rel => exact ⟨1, pre, rfl, by omega, HE.out, HJ.out pre wr _ none HJS.out (below_grown (below_drewN (Below.refl _ _) nq)) (fun r e => by cases e), below_drewN HBL.out nq, hWs, hcs⟩
          case measure => simp [intOf]
        · gi_wp2
          refine wpIn_region_quiet_lit rfl (by kernel_rfl) (by kernel_rfl) ?_
          repeat (gi_big_quiet_step (fail))
          refine BigFrame.wpQuietIn_skip (fun _ _ _ _ => trivial) rfl ?_
          change wpQuietIn _ _ _ _ _ _ _ { tmps := #[_, _, _, _, _, _, _, _, _, _, _, _, _, _, _, undef, _, _, _], defers := [] }
          repeat (gi_big_quiet_step (fail))
          refine wpQuietIn_nil ?_
          rintro _ ⟨nq, rfl⟩
          gi_wp2
          go_roundw
          case rel => exact ⟨2, pre, rfl, by omega, HE.out, HJ.out pre wr _ none HJS.out (below_grown (below_drewN (Below.refl _ _) nq)) (fun r e => by cases e), below_drewN HBL.out nq, hWs, hcs⟩
          case measure => simp [intOf]
        · gi_wp2
          refine wpIn_region_quiet_lit rfl (by kernel_rfl) (by kernel_rfl) ?_
          repeat (gi_big_quiet_step (fail))
          refine BigFrame.wpQuietIn_skip (fun _ _ _ _ => trivial) rfl ?_
          change wpQuietIn _ _ _ _ _ _ _ { tmps := #[_, _, _, _, _, _, _, _, _, _, _, _, _, _, _, undef, _, _, _], defers := [] }
          repeat (gi_big_quiet_step (fail))
          refine wpQuietIn_nil ?_
          rintro _ ⟨nq, rfl⟩
          gi_wp2
          go_roundw
          case rel => exact ⟨3, pre, rfl, by omega, HE.out, HJ.out pre wr _ none HJS.out (below_grown (below_drewN (Below.refl _ _) nq)) (fun r e => by cases e), below_drewN HBL.out nq, hWs, hcs⟩
          case measure => simp [intOf]
        · gi_wp2
          refine wpIn_region_quiet_lit rfl (by kernel_rfl) (by kernel_rfl) ?_
          repeat (gi_big_quiet_step (fail))
          refine BigFrame.wpQuietIn_skip (fun _ _ _ _ => trivial) rfl ?_
          change wpQuietIn _ _ _ _ _ _ _ { tmps := #[_, _, _, _, _, _, _, _, _, _, _, _, _, _, _, undef, _, _, _], defers := [] }
          repeat (gi_big_quiet_step (fail))
          refine wpQuietIn_nil ?_
          rintro _ ⟨nq, rfl⟩
          gi_wp2
          go_roundw
          case rel => exact ⟨4, pre, rfl, by omega, HE.out, HJ.out pre wr _ none HJS.out (below_grown (below_drewN (Below.refl _ _) nq)) (fun r e => by cases e), below_drewN HBL.out nq, hWs, hcs⟩
          case measure => simp [intOf]
      | true =>
        have HE : Hid (A = (pre ++ [⟨k, hlt⟩]) ++ wyr P (k + 1)) := by
          show _ = _
          rw [HAA.out, hst.out]
          unfold wy1
          simp [hb]
        have hlen : pre.length < A.length := by rw [HE.out]; simp
        obtain ⟨fn, tmps, assign, body, hy, hR⟩ := HY.out pre ⟨k, hlt⟩ wr.drew (HJ.out pre wr wr.drew none HJS.out (below_grown (Below.refl _ _).drew) (fun r e => by cases e)) hlen
        dsimp only [encW] at hy
        obtain ⟨kk, hkk⟩ : ∃ kk : Int, (k : Int) = kk := ⟨_, rfl⟩
        rw [hkk] at hy
        have hZ : Hid (∀ A B, KpB w0.heap.size Bn A B → A.heap.size ≤ B.heap.size) := fun A B h => h.1.size
        rcases hz with ⟨rfl, rfl⟩ | ⟨rfl, rfl⟩ | ⟨rfl, rfl⟩ | ⟨rfl, rfl⟩
        · obtain rfl : kk = 0 := by omega
          gi_wp2
          gi_region_with_o (refine hR.mono ?_; rintro e W3 hc; obtain ⟨b, rfl, hc2⟩ := yb_of hc; have HC := hide hc2; clear hc hc2)
          all_goals
            rcases HC.out with ⟨rfl, hJ3, hk3⟩ | ⟨rfl, hJx3⟩
            · have hc3 : W3.cell? ⟨Bn, 0, none⟩ = some (.int .i64 s) := hk3.2.trans hcs
              have HB3 : Hid (Below w0.heap.size w0 W3) := HBL.out.drew.trans hk3.1
              have hWs3 : W.heap.size ≤ W3.heap.size := Nat.le_trans hWs (hZ.out wr.drew W3 hk3)
              have HJ3 := hide hJ3
              clear hk3 hJ3 HC
              gi_wp2
              go_roundw
              case rel => exact ⟨1, _, rfl, by omega, HE.out, HJ3.out, HB3.out, hWs3, hc3⟩
              case measure => simp [intOf]
            · clear HC
              gi_wp2
              refine bodyPost_ret (results_none rfl _ _ _) rfl ?_
              exact ⟨⟨_, rfl⟩, .inr ⟨_, ⟨_, HE.out.symm⟩, hJx3⟩⟩
        · obtain rfl : kk = 1 := by omega
          gi_wp2
          gi_region_with_o (refine hR.mono ?_; rintro e W3 hc; obtain ⟨b, rfl, hc2⟩ := yb_of hc; have HC := hide hc2; clear hc hc2)
          all_goals
            rcases HC.out with ⟨rfl, hJ3, hk3⟩ | ⟨rfl, hJx3⟩
            · have hc3 : W3.cell? ⟨Bn, 0, none⟩ = some (.int .i64 s) := hk3.2.trans hcs
              have HB3 : Hid (Below w0.heap.size w0 W3) := HBL.out.drew.trans hk3.1
              have hWs3 : W.heap.size ≤ W3.heap.size := Nat.le_trans hWs (hZ.out wr.drew W3 hk3)
              have HJ3 := hide hJ3
              clear hk3 hJ3 HC
              gi_wp2
              go_roundw
              case rel => exact ⟨2, _, rfl, by omega, HE.out, HJ3.out, HB3.out, hWs3, hc3⟩
              case measure => simp [intOf]
            · clear HC
              gi_wp2
              refine bodyPost_ret (results_none rfl _ _ _) rfl ?_
              exact ⟨⟨_, rfl⟩, .inr ⟨_, ⟨_, HE.out.symm⟩, hJx3⟩⟩
        · obtain rfl : kk = 2 := by omega
          gi_wp2
          gi_region_with_o (refine hR.mono ?_; rintro e W3 hc; obtain ⟨b, rfl, hc2⟩ := yb_of hc; have HC := hide hc2; clear hc hc2)
          all_goals
            rcases HC.out with ⟨rfl, hJ3, hk3⟩ | ⟨rfl, hJx3⟩
            · have hc3 : W3.cell? ⟨Bn, 0, none⟩ = some (.int .i64 s) := hk3.2.trans hcs
              have HB3 : Hid (Below w0.heap.size w0 W3) := HBL.out.drew.trans hk3.1
              have hWs3 : W.heap.size ≤ W3.heap.size := Nat.le_trans hWs (hZ.out wr.drew W3 hk3)
              have HJ3 := hide hJ3
              clear hk3 hJ3 HC
              gi_wp2
              go_roundw
              case rel => exact ⟨3, _, rfl, by omega, HE.out, HJ3.out, HB3.out, hWs3, hc3⟩
              case measure => simp [intOf]
            · clear HC
              gi_wp2
              refine bodyPost_ret (results_none rfl _ _ _) rfl ?_
              exact ⟨⟨_, rfl⟩, .inr ⟨_, ⟨_, HE.out.symm⟩, hJx3⟩⟩
        · obtain rfl : kk = 3 := by omega
          gi_wp2
          gi_region_with_o (refine hR.mono ?_; rintro e W3 hc; obtain ⟨b, rfl, hc2⟩ := yb_of hc; have HC := hide hc2; clear hc hc2)
          all_goals
            rcases HC.out with ⟨rfl, hJ3, hk3⟩ | ⟨rfl, hJx3⟩
            · have hc3 : W3.cell? ⟨Bn, 0, none⟩ = some (.int .i64 s) := hk3.2.trans hcs
              have HB3 : Hid (Below w0.heap.size w0 W3) := HBL.out.drew.trans hk3.1
              have hWs3 : W.heap.size ≤ W3.heap.size := Nat.le_trans hWs (hZ.out wr.drew W3 hk3)
              have HJ3 := hide hJ3
              clear hk3 hJ3 HC
              gi_wp2
              go_roundw
              case rel => exact ⟨4, _, rfl, by omega, HE.out, HJ3.out, HB3.out, hWs3, hc3⟩
              case measure => simp [intOf]
            · clear HC
              gi_wp2
              refine bodyPost_ret (results_none rfl _ _ _) rfl ?_
              exact ⟨⟨_, rfl⟩, .inr ⟨_, ⟨_, HE.out.symm⟩, hJx3⟩⟩
    · have d1 : decide ((k : Int) < 4) = false := decide_eq_false (by omega)
      have HE : Hid (A = pre) := by
        obtain rfl : k = 4 := by omega
        show _ = _; rw [HAA.out]; exact List.append_nil _
      gi_wp2
      go_end0
      exact ⟨⟨_, rfl⟩, .inl ⟨_, HE.out.symm, HJS.out⟩⟩
end Go.Proofs.YtaapababeecmeaaDoor

/-
  The walk of a heap's take.
-/
import Derived.Test.YtochfhoaiekioaaJRtHPS
namespace Go.Proofs.Ytochfhoaiekioaa
open Go.RowKit
open Go.Sort (grow)

theorem TrR.cut {w : World} {G D c : Nat} {F : Nat → Tr} {n : Nat} (h : TrR w G D c F (n + 1)) : TrR w G D c F n := ⟨h.lo, h.blk, by have := h.nc; omega, h.cm, fun i hi => h.each i (by omega)⟩
theorem Kh.new {H b i : Nat} {v v' u : Value} {w a : World} (h : Kh H v v' w a) (hb : w.heap.size ≤ b) : Kh H v v' w (a.setCell ⟨b, i, none⟩ u) :=
  ⟨h.os, h.tape, h.output, by rw [World.size_setCell]; exact h.size, fun k hk h1 h2 => (Below.heap_setCell _ _ _ _ (by show k ≠ b; omega)).trans (h.bl k hk h1 h2), h.nw⟩
theorem InH.cut {F : Nat → Tr} {k : Nat} {y : Tr} (h : InH F (k + 1) y) : y = F 0 ∨ InH (swF F 0 k) k y := by
  obtain ⟨i, hi, he⟩ := (InH.sw (F := F) (i := 0) (j := k) (by omega) (by omega)).2 h
  by_cases e : i = k
  · subst e; rw [swF_l] at he; exact .inl he.symm
  · exact .inr ⟨i, by omega, he⟩
theorem InH.uncut {F : Nat → Tr} {k : Nat} {y : Tr} (h : InH (swF F 0 k) k y) : InH F (k + 1) y := by
  obtain ⟨i, hi, he⟩ := h
  exact (InH.sw (i := 0) (j := k) (by omega) (by omega)).1 ⟨i, by omega, he⟩
/-- What take leaves. -/
def TakeP (w w' : World) (H G : Nat) (v : Value) (F : Nat → Tr) (k : Nat) : Prop := ∃ v' F', HpA w' H G v' F' k ∧ Hp F' k ∧ (∀ y, InH F' k y → InH F (k + 1) y) ∧ (∀ y, InH F (k + 1) y → y = F 0 ∨ InH F' k y) ∧ Kh H v v' w w'

set_option maxHeartbeats 2000000 in
set_option maxRecDepth 1000000 in
theorem htake_nil (H G : Nat) (v : Value) (F : Nat → Tr) (w : World) (ha : HpA w H G v F 0) :
    Calls Try.prog 30 #[.pointer (some ⟨H, 0, none⟩)] w fun e w' => e = .returned (.tuple #[tv ⟨0, 0⟩, .bool false]) ∧ Below w.heap.size w w' := by
  obtain ⟨av, cv, hv⟩ := ha.own.slc
  subst hv
  have hbA : Below w.heap.size w ((w.alloc (.cells #[.int .i64 0, .int .i64 0] 59)).alloc (.cells #[.int .i64 0, .int .i64 0] 59)) := ((Below.refl _ w).alloc (Nat.le_refl _) _).alloc (by rw [World.size_alloc]; omega) _
  have z0 := (ha.box.below hbA).cell 0
  simp only [List.getElem?_toArray, List.getElem?_cons_zero] at z0
  have hRb : Blk ((w.alloc (.cells #[.int .i64 0, .int .i64 0] 59)).alloc (.cells #[.int .i64 0, .int .i64 0] 59)) w.heap.size 59 #[.int .i64 0, .int .i64 0] := (Blk.new w _ _).alloc _
  have x0 := hRb.frozen 0
  have x1 := hRb.frozen 1
  have y0 := hRb.cell 0
  have y1 := hRb.cell 1
  simp only [List.getElem?_toArray, List.getElem?_cons_zero, List.getElem?_cons_succ] at y0 y1
  have hFb := Blk.new (w.alloc (.cells #[.int .i64 0, .int .i64 0] 59)) 59 #[.int .i64 0, .int .i64 0]
  rw [World.size_alloc] at hFb
  have u0 := hFb.cell 0
  have u1 := hFb.cell 1
  simp only [List.getElem?_toArray, List.getElem?_cons_zero, List.getElem?_cons_succ] at u0 u1
  have HBK : Hid (Blk ((w.alloc (.cells #[.int .i64 0, .int .i64 0] 59)).alloc (.cells #[.int .i64 0, .int .i64 0] 59)) w.heap.size 59 #[.int .i64 0, .int .i64 0]) := hRb
  have HBE : Hid (Below w.heap.size w ((w.alloc (.cells #[.int .i64 0, .int .i64 0] 59)).alloc (.cells #[.int .i64 0, .int .i64 0] 59))) := hbA
  clear ha hbA hRb hFb
  go_enter Try.func30, Try.ntmps30
  go_wp2
  refine bodyPost_ret (results_gr_tmp rfl _ _ _ w.heap.size 59 #[.int .i64 0, .int .i64 0] (0, 0) rfl HBK.out Try.underlying59 (by kernel_rfl)) rfl ?_
  exact ⟨rfl, HBE.out⟩

set_option maxHeartbeats 2000000 in
set_option maxRecDepth 1000000 in
theorem htake_one (H G : Nat) (v : Value) (F : Nat → Tr) (k : Nat) (w : World) (ha : HpA w H G v F (k + 1)) (hh : Hp F (k + 1)) (hk : k ≤ 20000000) :
    Calls Try.prog 30 #[.pointer (some ⟨H, 0, none⟩)] w fun e w' => e = .returned (.tuple #[tv (F 0), .bool true]) ∧ TakeP w w' H G v F k := by
  obtain ⟨D, c, hv, hrow⟩ := ha.own.row (by omega)
  subst hv
  have HLT := hide ha.lt
  have hDH : H ≠ D := by have h1 := hrow.lo; have h2 := ha.lt; omega
  have hDs : D < w.heap.size := by obtain ⟨cur, h1, _⟩ := hrow.blk; exact h1.lt
  have hHs : H < w.heap.size := ha.box.lt
  have hbA : Below w.heap.size w ((w.alloc (.cells #[.int .i64 0, .int .i64 0] 59)).alloc (.cells #[.int .i64 0, .int .i64 0] 59)) := ((Below.refl _ w).alloc (Nat.le_refl _) _).alloc (by rw [World.size_alloc]; omega) _
  have z0 := (ha.box.below hbA).cell 0
  simp only [List.getElem?_toArray, List.getElem?_cons_zero] at z0
  obtain ⟨a0, a1⟩ := (hrow.below hbA).each 0 (by omega)
  simp only [Nat.zero_mul, Nat.zero_add] at a0 a1
  obtain ⟨x, hx⟩ : ∃ x, F 0 = x := ⟨_, rfl⟩
  rw [hx] at a0 a1 ⊢
  obtain ⟨x0, x1⟩ := x
  simp only at a0 a1
  have HX := hide hx
  have hFb : Blk ((w.alloc (.cells #[.int .i64 0, .int .i64 0] 59)).alloc (.cells #[.int .i64 0, .int .i64 0] 59)) (w.heap.size + 1) 59 #[.int .i64 0, .int .i64 0] := by
    have := Blk.new (w.alloc (.cells #[.int .i64 0, .int .i64 0] 59)) 59 #[.int .i64 0, .int .i64 0]
    rw [World.size_alloc] at this
    exact this
  have f0 := hFb.frozen 0
  have f1 := hFb.frozen 1
  have g0 := hFb.cell 0
  have g1 := hFb.cell 1
  simp only [List.getElem?_toArray, List.getElem?_cons_zero, List.getElem?_cons_succ] at g0 g1
  have HB2 : Hid (Below w.heap.size w ((w.alloc (.cells #[.int .i64 0, .int .i64 0] 59)).alloc (.cells #[.int .i64 x0, .int .i64 x1] 59))) := ((Below.refl _ w).alloc (Nat.le_refl _) _).alloc (by rw [World.size_alloc]; omega) _
  have HF2 : Hid (Blk ((w.alloc (.cells #[.int .i64 0, .int .i64 0] 59)).alloc (.cells #[.int .i64 x0, .int .i64 x1] 59)) (w.heap.size + 1) 59 #[.int .i64 x0, .int .i64 x1]) := by
    have := Blk.new (w.alloc (.cells #[.int .i64 0, .int .i64 0] 59)) 59 #[.int .i64 x0, .int .i64 x1]
    rw [World.size_alloc] at this
    exact this
  have HR2 : Hid (Blk ((w.alloc (.cells #[.int .i64 0, .int .i64 0] 59)).alloc (.cells #[.int .i64 x0, .int .i64 x1] 59)) w.heap.size 59 #[.int .i64 0, .int .i64 0]) := (Blk.new w 59 #[.int .i64 0, .int .i64 0]).alloc _
  have z2 := (ha.box.below HB2.out).cell 0
  simp only [List.getElem?_toArray, List.getElem?_cons_zero] at z2
  have HA := hide ha.box
  have HROW := hide hrow
  have HHP := hide hh
  have tk0 : ((k : Int) + 1 == 0) = false := by simp; omega
  have hwk : IntKind.i64.wrap ((k : Int) + 1 - 1) = (k : Int) := by rw [IntKind.wrap_i64]; omega
  have HSW := hide (hswap_any H G D c (k + 1) 0 k F ((w.alloc (.cells #[.int .i64 0, .int .i64 0] 59)).alloc (.cells #[.int .i64 x0, .int .i64 x1] 59)) (ha.box.below HB2.out) (hrow.below HB2.out) (by omega) (by omega))
  have hkc : k ≤ c := by have := hrow.nc; omega
  have hkci : (k : Int) ≤ (c : Int) := by omega
  clear ha hrow hh hbA hFb hx
  go_enter Try.func30, Try.ntmps30
  go_wp2_with fail
  refine HSW.out.mono ?_
  rintro e w3 ⟨rfl, hr3, hw3⟩
  have hz2 : w.heap.size + 2 = ((w.alloc (.cells #[.int .i64 0, .int .i64 0] 59)).alloc (.cells #[.int .i64 x0, .int .i64 x1] 59)).heap.size := by simp
  have HR3 := hide hr3.cut
  have hb3 := (hw3.blk H (HA.out.below HB2.out).lt (by simp; exact hDH)).trans (HA.out.below HB2.out)
  have HF3 : Hid (Blk w3 (w.heap.size + 1) 59 #[.int .i64 x0, .int .i64 x1]) := (hw3.blk (w.heap.size + 1) HF2.out.lt (by simp; omega)).trans HF2.out
  have HQ3 : Hid (Blk w3 w.heap.size 59 #[.int .i64 0, .int .i64 0]) := (hw3.blk w.heap.size HR2.out.lt (by simp; omega)).trans HR2.out
  have HK3 : Hid (Kh H (.slice (some ⟨D, 0, none⟩) (k + 1) c) (.slice (some ⟨D, 0, none⟩) (k + 1) c) w w3) := (Kh.of_below HB2.out).trans (Kh.of_wrs hw3)
  have s0 := Blk.cell hb3 0
  have s1 := Blk.frozen hb3 0
  simp only [List.getElem?_toArray, List.getElem?_cons_zero] at s0
  have HB4 : Hid (Blk (w3.setCell ⟨H, 0, none⟩ (.slice (some ⟨D, 0, none⟩) k c)) H 56 #[.slice (some ⟨D, 0, none⟩) k c, ahV]) := Blk.set hb3 0 _
  have HR4 : Hid (TrR (w3.setCell ⟨H, 0, none⟩ (.slice (some ⟨D, 0, none⟩) k c)) G D c (swF F 0 k) k) := HR3.out.keep (Below.heap_setCell _ _ _ _ (fun e => hDH e.symm))
  have HF4 : Hid (Blk (w3.setCell ⟨H, 0, none⟩ (.slice (some ⟨D, 0, none⟩) k c)) (w.heap.size + 1) 59 #[.int .i64 x0, .int .i64 x1]) := HF3.out.other _ _ (by omega)
  have HQ4 : Hid (Blk (w3.setCell ⟨H, 0, none⟩ (.slice (some ⟨D, 0, none⟩) k c)) w.heap.size 59 #[.int .i64 0, .int .i64 0]) := HQ3.out.other _ _ (by omega)
  have HK4 : Hid (Kh H (.slice (some ⟨D, 0, none⟩) (k + 1) c) (.slice (some ⟨D, 0, none⟩) k c) w (w3.setCell ⟨H, 0, none⟩ (.slice (some ⟨D, 0, none⟩) k c))) := HK3.out.trans (Kh.set rfl)
  have HST := hide (hsettle_any H G D c k (swF F 0 k) _ HB4.out HR4.out HLT.out HHP.out.cut (by omega))
  clear hr3 hw3 hb3 z0 z2 a0 a1 f0 f1 g0 g1 HSW HR3 HF3 HQ3 HK3 HR2 HF2 HB2 hz2
  go_wp2_with fail
  refine HST.out.mono ?_
  rintro e w5 ⟨rfl, F', hb5, hr5, hh5, hin5, hk5⟩
  have hF5 := hk5.blk HF4.out (by omega) (by show some D ≠ _; intro e; have := Option.some.inj e; omega)
  have hQ5 := hk5.blk HQ4.out (by omega) (by show some D ≠ _; intro e; have := Option.some.inj e; omega)
  have q0 := hF5.cell 0
  have q1 := hF5.cell 1
  have r0 := hQ5.frozen 0
  have r1 := hQ5.frozen 1
  have r2 := hQ5.cell 0
  have r3 := hQ5.cell 1
  simp only [List.getElem?_toArray, List.getElem?_cons_zero, List.getElem?_cons_succ] at q0 q1 r2 r3
  have HBK : Hid (Blk ((w5.setCell ⟨w.heap.size, 0, none⟩ (.int .i64 x0)).setCell ⟨w.heap.size, 1, none⟩ (.int .i64 x1)) w.heap.size 59 #[.int .i64 x0, .int .i64 x1]) := (hQ5.set 0 _).set 1 _
  have HHF : Hid (TakeP w ((w5.setCell ⟨w.heap.size, 0, none⟩ (.int .i64 x0)).setCell ⟨w.heap.size, 1, none⟩ (.int .i64 x1)) H G (.slice (some ⟨D, 0, none⟩) (k + 1) c) F k) := by
    have hDw : D ≠ w.heap.size := by omega
    refine ⟨.slice (some ⟨D, 0, none⟩) k c, F', ⟨(hb5.other _ _ (by omega)).other _ _ (by omega), TrR.own ?_, HLT.out⟩, hh5, fun y hy => InH.uncut ((hin5 y).1 hy), fun y hy => ?_, ((HK4.out.trans hk5).new (Nat.le_refl _)).new (Nat.le_refl _)⟩
    · exact (hr5.keep (Below.heap_setCell _ _ _ _ hDw)).keep (Below.heap_setCell _ _ _ _ hDw)
    · rcases InH.cut hy with h | h
      · exact .inl h
      · exact .inr ((hin5 y).2 h)
  clear hb5 hr5 hh5 hin5 hk5 hF5 hQ5 s0 s1
  go_wp2
  refine bodyPost_ret (results_gr_tmp rfl _ _ _ w.heap.size 59 #[.int .i64 x0, .int .i64 x1] (0, 0) rfl HBK.out Try.underlying59 (by kernel_rfl)) rfl ?_
  exact ⟨rfl, HHF.out⟩
end Go.Proofs.Ytochfhoaiekioaa

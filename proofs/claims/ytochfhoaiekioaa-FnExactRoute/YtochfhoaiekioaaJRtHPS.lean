/-
  The walk of a heap's settle.
-/
import Derived.Test.YtochfhoaiekioaaJRtHPM
namespace Go.Proofs.Ytochfhoaiekioaa
open Go.RowKit
open Go.Sort (grow)

/-- What settle leaves. -/
def SetP (w w' : World) (H G D c : Nat) (F : Nat → Tr) (n : Nat) : Prop := ∃ F', Blk w' H 56 #[.slice (some ⟨D, 0, none⟩) n c, ahV] ∧ TrR w' G D c F' n ∧ Hp F' n ∧ (∀ y, InH F' n y ↔ InH F n y) ∧ Kh H (.slice (some ⟨D, 0, none⟩) n c) (.slice (some ⟨D, 0, none⟩) n c) w w'
theorem drewN_below (w : World) (n : Nat) : Below w.heap.size w (w.drewN n) := ⟨rfl, rfl, rfl, Nat.le_refl _, fun _ _ => rfl⟩
theorem two_kids {i p : Nat} (h0 : 0 < i) (h : (i - 1) / 2 = p) : i = 2 * p + 1 ∨ i = 2 * p + 2 := by omega

set_option maxHeartbeats 8000000 in
set_option maxRecDepth 1000000 in
theorem hsettle_any (H G D c n : Nat) (F : Nat → Tr) (w : World) (hb : Blk w H 56 #[.slice (some ⟨D, 0, none⟩) n c, ahV]) (hr : TrR w G D c F n) (hlt : H < G) (hd : HpD F n 0) (hn : n ≤ 20000001) :
    Calls Try.prog 39 #[.pointer (some ⟨H, 0, none⟩)] w fun e w' => e = .returned (.tuple #[]) ∧ SetP w w' H G D c F n := by
  have HSH := hide (fun x y V => shorter_g x y V)
  have mixed : Try.prog.follows .mixedOrders = true := by kernel_rfl
  unfold tv at HSH
  have hDH : H ≠ D := by have h1 := hr.lo; omega
  have HR0 := hide hr
  have HB0 := hide hb
  have HD0 := hide hd
  have HGO := hide (fun V (F1 : Nat → Tr) (i j : Nat) (hi : i < n) (hj : j < n) (h1 : Blk V H 56 #[.slice (some ⟨D, 0, none⟩) n c, ahV]) (h2 : TrR V G D c F1 n) => hswap_any H G D c n i j F1 V h1 h2 hi hj)
  clear hb hr hd hlt
  go_enter Try.func39, Try.ntmps39
  go_wp2
  go_loopw [2] (fun ix wr => ∃ (p : Nat) (F1 : Nat → Tr), p ≤ n ∧ ix = .int .i64 p ∧ TrR wr G D c F1 n ∧ Blk wr H 56 #[.slice (some ⟨D, 0, none⟩) n c, ahV] ∧ HpD F1 n p ∧ (∀ y, InH F1 n y ↔ InH F n y) ∧ Kh H (.slice (some ⟨D, 0, none⟩) n c) (.slice (some ⟨D, 0, none⟩) n c) w wr) (fun ix _ => n - (intOf ix).toNat)
  case atStart => exact ⟨0, F, Nat.zero_le _, rfl, HR0.out, HB0.out, HD0.out, fun y => Iff.rfl, Kh.refl _ _ _⟩
  case round =>
    clear HR0 HB0 HD0
    obtain ⟨p, F1, hp, rfl, hr, hb, hu, hin, hk⟩ := hrel
    rename World => Z
    have HR := hide hr
    have HB := hide hb
    have HU := hide hu
    have HIN := hide hin
    have HK := hide hk
    clear hr hb hu hin hk
    obtain ⟨m, hm⟩ : ∃ m, 2 * p = m := ⟨_, rfl⟩
    have HM := hide hm
    have hwm : IntKind.i64.wrap (2 * (p : Int)) = (m : Int) := by rw [IntKind.wrap_i64]; omega
    obtain ⟨ch, hch⟩ : ∃ ch, m + 1 = ch := ⟨_, rfl⟩
    have hwm1 : IntKind.i64.wrap ((m : Int) + 1) = (ch : Int) := by rw [IntKind.wrap_i64]; omega
    obtain ⟨d, hdd⟩ : ∃ d, ch + 1 = d := ⟨_, rfl⟩
    have hwm2 : IntKind.i64.wrap ((ch : Int) + 1) = (d : Int) := by rw [IntKind.wrap_i64]; omega
    have HCH : Hid (ch = 2 * p + 1) := by show _ = _; omega
    have HDD : Hid (d = 2 * p + 2) := by show _ = _; omega
    have HPC : Hid (p < ch ∧ p < d) := by show _ ∧ _; omega
    have z0 := HB.out.cell 0
    have z1 := HB.out.cell 1
    simp only [List.getElem?_toArray, List.getElem?_cons_zero, List.getElem?_cons_succ] at z0 z1
    unfold ahV at z1
    by_cases h1 : ch < n
    · have t1 : decide ((ch : Int) < (n : Int)) = true := decide_eq_true (by omega)
      have i1 : (ch : Int) < (n : Int) := by omega
      have hpn : p < n := by omega
      have ipn : (p : Int) < (n : Int) := by omega
      obtain ⟨a0, a1⟩ := HR.out.each p hpn
      obtain ⟨b0, b1⟩ := HR.out.each ch h1
      obtain ⟨x, hx⟩ : ∃ x, F1 p = x := ⟨_, rfl⟩
      obtain ⟨y, hy⟩ : ∃ y, F1 ch = y := ⟨_, rfl⟩
      rw [hx] at a0 a1
      rw [hy] at b0 b1
      have HX := hide hx
      have HY := hide hy
      have hz0 : ∀ k os, (grow (Z.drewN k) os).cell? ⟨H, 0, none⟩ = some (.slice (some ⟨D, 0, none⟩) n c) := fun k os => cell_kept z0 (below_grow Z k os)
      have hz1 : ∀ k os, (grow (Z.drewN k) os).cell? ⟨H, 1, none⟩ = some (.func (.func 28) #[] #[]) := fun k os => cell_kept z1 (below_grow Z k os)
      have HBE := hide (fun k os => below_grow Z k os)
      by_cases h2 : d < n
      · have t2 : decide ((d : Int) < (n : Int)) = true := decide_eq_true (by omega)
        have i2 : (d : Int) < (n : Int) := by omega
        obtain ⟨c0, c1⟩ := HR.out.each d h2
        obtain ⟨u, hu⟩ : ∃ u, F1 d = u := ⟨_, rfl⟩
        rw [hu] at c0 c1
        have HU3 := hide hu
        have HSX := hide (fun V => HSH.out u y V)
        have hb0 : ∀ k os, (grow (Z.drewN k) os).cell? ⟨D, ch * 2, none⟩ = some (.int .i64 y.c) := fun k os => cell_kept b0 (below_grow Z k os)
        have hb1 : ∀ k os, (grow (Z.drewN k) os).cell? ⟨D, ch * 2 + 1, none⟩ = some (.int .i64 y.l) := fun k os => cell_kept b1 (below_grow Z k os)
        have hc0 : ∀ k os, (grow (Z.drewN k) os).cell? ⟨D, d * 2, none⟩ = some (.int .i64 u.c) := fun k os => cell_kept c0 (below_grow Z k os)
        have hc1 : ∀ k os, (grow (Z.drewN k) os).cell? ⟨D, d * 2 + 1, none⟩ = some (.int .i64 u.l) := fun k os => cell_kept c1 (below_grow Z k os)
        have HA0 := hide a0
        have HA1 := hide a1
        have HB0 := hide b0
        have HB1 := hide b1
        have HC0 := hide c0
        have HC1 := hide c1
        have HZ0 := hide z0
        have HZ1 := hide z1
        obtain ⟨u0, u1⟩ := u
        obtain ⟨y0, y1⟩ := y
        simp only at hb0 hb1 hc0 hc1 HSX HB0 HB1 HC0 HC1
        obtain ⟨b, hb⟩ : ∃ b, decide (u1 < y1) = b := ⟨_, rfl⟩
        have HBB := hide hb
        simp only [hb] at HSX
        clear hb a0 a1 b0 b1 c0 c1 hx hy hu hm hch hdd
        go_wp2_with fail
        go_quiet_grown ((go_at_call 28; exact Calls.grown_of (HSX.out _)))
        obtain ⟨Z3, hZ3⟩ : ∃ V, grow (Z.drewN nq) osq = V := ⟨_, rfl⟩
        have hBZ : Below Z.heap.size Z Z3 := by rw [← hZ3]; exact below_grow _ _ _
        rw [hZ3]
        have HBZ := hide hBZ
        clear hb0 hb1 hc0 hc1 hz0 hz1 hZ3 hBZ z0 z1
        cases b with
        | true =>
          have HMIN : Hid (∀ i, 0 < i → i < n → (i - 1) / 2 = p → (F1 d).l ≤ (F1 i).l) := fun i hi0 hin hpi => by
            have hl : u1 < y1 := of_decide_eq_true HBB.out
            rcases two_kids hi0 hpi with e | e
            · rw [e, ← HCH.out, HU3.out, HY.out]; exact Int.le_of_lt hl
            · rw [e, ← HDD.out]; exact Int.le_refl _
          obtain ⟨x0, x1⟩ := x
          have HSX2 := hide (fun V => HSH.out ⟨u0, u1⟩ ⟨x0, x1⟩ V)
          simp only at HSX2 HA0 HA1
          obtain ⟨b2, hb2⟩ : ∃ b, decide (u1 < x1) = b := ⟨_, rfl⟩
          have HBB2 := hide hb2
          simp only [hb2] at HSX2
          have ha0 : ∀ k os, (grow (Z3.drewN k) os).cell? ⟨D, p * 2, none⟩ = some (.int .i64 x0) := fun k os => cell_kept (cell_kept HA0.out HBZ.out) (below_grow Z3 k os)
          have ha1 : ∀ k os, (grow (Z3.drewN k) os).cell? ⟨D, p * 2 + 1, none⟩ = some (.int .i64 x1) := fun k os => cell_kept (cell_kept HA1.out HBZ.out) (below_grow Z3 k os)
          have hk0 : ∀ k os, (grow (Z3.drewN k) os).cell? ⟨D, d * 2, none⟩ = some (.int .i64 u0) := fun k os => cell_kept (cell_kept HC0.out HBZ.out) (below_grow Z3 k os)
          have hk1 : ∀ k os, (grow (Z3.drewN k) os).cell? ⟨D, d * 2 + 1, none⟩ = some (.int .i64 u1) := fun k os => cell_kept (cell_kept HC1.out HBZ.out) (below_grow Z3 k os)
          have hz0 : ∀ k os, (grow (Z3.drewN k) os).cell? ⟨H, 0, none⟩ = some (.slice (some ⟨D, 0, none⟩) n c) := fun k os => cell_kept (cell_kept HZ0.out HBZ.out) (below_grow Z3 k os)
          have hz1 : ∀ k os, (grow (Z3.drewN k) os).cell? ⟨H, 1, none⟩ = some (.func (.func 28) #[] #[]) := fun k os => cell_kept (cell_kept HZ1.out HBZ.out) (below_grow Z3 k os)
          clear hb2
          go_wp2_with fail
          go_quiet_grown ((go_at_call 28; exact Calls.grown_of (HSX2.out _)))
          obtain ⟨Z4, hZ4⟩ : ∃ V, grow (Z3.drewN nq) osq = V := ⟨_, rfl⟩
          have hB4 : Below Z3.heap.size Z3 Z4 := by rw [← hZ4]; exact below_grow _ _ _
          rw [hZ4]
          have HB4 : Hid (Below Z.heap.size Z Z4) := HBZ.out.trans (hB4.mono HBZ.out.size)
          clear ha0 ha1 hk0 hk1 hz0 hz1 hZ4 hB4
          cases b2 with
          | true =>
            have HS3 := hide (HGO.out Z4 F1 p d (by omega) (by omega) (HB.out.below HB4.out) (HR.out.below HB4.out))
            have HU2 : Hid (HpD (swF F1 p d) n d) := HU.out.step (by omega) (by have h1 := HCH.out; have h2 := HDD.out; omega) (by have h1 := HPC.out; omega) HMIN.out (by rw [HU3.out, HX.out]; exact of_decide_eq_true HBB2.out)
            have HIN2 : Hid (∀ y, InH (swF F1 p d) n y ↔ InH F n y) := fun y => (InH.sw (by omega) (by omega)).trans (HIN.out y)
            go_wp2_with fail
            refine HS3.out.mono ?_
            rintro e w5 ⟨rfl, hr5, hw5⟩
            have HR5 := hide hr5
            have HB5 : Hid (Blk w5 H 56 #[.slice (some ⟨D, 0, none⟩) n c, ahV]) := (hw5.blk H (HB.out.below HB4.out).lt (by simp; exact hDH)).trans (HB.out.below HB4.out)
            have HK5 : Hid (Kh H (.slice (some ⟨D, 0, none⟩) n c) (.slice (some ⟨D, 0, none⟩) n c) w w5) := (HK.out.trans (Kh.of_below HB4.out)).trans (Kh.of_wrs hw5)
            have HPL : Hid (p < d) := by have := HPC.out; show _ < _; omega
            clear hr5 hw5
            go_wp2
            go_roundw
            case rel => exact ⟨d, swF F1 p d, by omega, rfl, HR5.out, HB5.out, HU2.out, HIN2.out, HK5.out⟩
            case measure => have := HPL.out; simp [intOf]; omega
          | false =>
            have HHF : Hid (SetP w Z4 H G D c F n) := ⟨F1, HB.out.below HB4.out, HR.out.below HB4.out, HU.out.stop (fun i hi0 hin hpi => by
              have h1 := HMIN.out i hi0 hin hpi
              have h2 := of_decide_eq_false HBB2.out
              have h3 : (F1 d).l = u1 := by rw [HU3.out]
              have h4 : (F1 p).l = x1 := by rw [HX.out]
              omega), HIN.out, HK.out.trans (Kh.of_below HB4.out)⟩
            go_wp2
            refine bodyPost_ret (results_none rfl _ _ _) rfl ?_
            exact ⟨rfl, HHF.out⟩
        | false =>
          have HMIN : Hid (∀ i, 0 < i → i < n → (i - 1) / 2 = p → (F1 ch).l ≤ (F1 i).l) := fun i hi0 hin hpi => by
            have hl : ¬ u1 < y1 := of_decide_eq_false HBB.out
            rcases two_kids hi0 hpi with e | e
            · rw [e, ← HCH.out]; exact Int.le_refl _
            · rw [e, ← HDD.out, HU3.out, HY.out]; simp only; omega
          obtain ⟨x0, x1⟩ := x
          have HSX2 := hide (fun V => HSH.out ⟨y0, y1⟩ ⟨x0, x1⟩ V)
          simp only at HSX2 HA0 HA1
          obtain ⟨b2, hb2⟩ : ∃ b, decide (y1 < x1) = b := ⟨_, rfl⟩
          have HBB2 := hide hb2
          simp only [hb2] at HSX2
          have ha0 : ∀ k os, (grow (Z3.drewN k) os).cell? ⟨D, p * 2, none⟩ = some (.int .i64 x0) := fun k os => cell_kept (cell_kept HA0.out HBZ.out) (below_grow Z3 k os)
          have ha1 : ∀ k os, (grow (Z3.drewN k) os).cell? ⟨D, p * 2 + 1, none⟩ = some (.int .i64 x1) := fun k os => cell_kept (cell_kept HA1.out HBZ.out) (below_grow Z3 k os)
          have hk0 : ∀ k os, (grow (Z3.drewN k) os).cell? ⟨D, ch * 2, none⟩ = some (.int .i64 y0) := fun k os => cell_kept (cell_kept HB0.out HBZ.out) (below_grow Z3 k os)
          have hk1 : ∀ k os, (grow (Z3.drewN k) os).cell? ⟨D, ch * 2 + 1, none⟩ = some (.int .i64 y1) := fun k os => cell_kept (cell_kept HB1.out HBZ.out) (below_grow Z3 k os)
          have hz0 : ∀ k os, (grow (Z3.drewN k) os).cell? ⟨H, 0, none⟩ = some (.slice (some ⟨D, 0, none⟩) n c) := fun k os => cell_kept (cell_kept HZ0.out HBZ.out) (below_grow Z3 k os)
          have hz1 : ∀ k os, (grow (Z3.drewN k) os).cell? ⟨H, 1, none⟩ = some (.func (.func 28) #[] #[]) := fun k os => cell_kept (cell_kept HZ1.out HBZ.out) (below_grow Z3 k os)
          clear hb2
          go_wp2_with fail
          go_quiet_grown ((go_at_call 28; exact Calls.grown_of (HSX2.out _)))
          obtain ⟨Z4, hZ4⟩ : ∃ V, grow (Z3.drewN nq) osq = V := ⟨_, rfl⟩
          have hB4 : Below Z3.heap.size Z3 Z4 := by rw [← hZ4]; exact below_grow _ _ _
          rw [hZ4]
          have HB4 : Hid (Below Z.heap.size Z Z4) := HBZ.out.trans (hB4.mono HBZ.out.size)
          clear ha0 ha1 hk0 hk1 hz0 hz1 hZ4 hB4
          cases b2 with
          | true =>
            have HS3 := hide (HGO.out Z4 F1 p ch (by omega) (by omega) (HB.out.below HB4.out) (HR.out.below HB4.out))
            have HU2 : Hid (HpD (swF F1 p ch) n ch) := HU.out.step (by omega) (by have h1 := HCH.out; have h2 := HDD.out; omega) (by have h1 := HPC.out; omega) HMIN.out (by rw [HY.out, HX.out]; exact of_decide_eq_true HBB2.out)
            have HIN2 : Hid (∀ y, InH (swF F1 p ch) n y ↔ InH F n y) := fun y => (InH.sw (by omega) (by omega)).trans (HIN.out y)
            go_wp2_with fail
            refine HS3.out.mono ?_
            rintro e w5 ⟨rfl, hr5, hw5⟩
            have HR5 := hide hr5
            have HB5 : Hid (Blk w5 H 56 #[.slice (some ⟨D, 0, none⟩) n c, ahV]) := (hw5.blk H (HB.out.below HB4.out).lt (by simp; exact hDH)).trans (HB.out.below HB4.out)
            have HK5 : Hid (Kh H (.slice (some ⟨D, 0, none⟩) n c) (.slice (some ⟨D, 0, none⟩) n c) w w5) := (HK.out.trans (Kh.of_below HB4.out)).trans (Kh.of_wrs hw5)
            have HPL : Hid (p < ch) := by have := HPC.out; show _ < _; omega
            clear hr5 hw5
            go_wp2
            go_roundw
            case rel => exact ⟨ch, swF F1 p ch, by omega, rfl, HR5.out, HB5.out, HU2.out, HIN2.out, HK5.out⟩
            case measure => have := HPL.out; simp [intOf]; omega
          | false =>
            have HHF : Hid (SetP w Z4 H G D c F n) := ⟨F1, HB.out.below HB4.out, HR.out.below HB4.out, HU.out.stop (fun i hi0 hin hpi => by
              have h1 := HMIN.out i hi0 hin hpi
              have h2 := of_decide_eq_false HBB2.out
              have h3 : (F1 ch).l = y1 := by rw [HY.out]
              have h4 : (F1 p).l = x1 := by rw [HX.out]
              omega), HIN.out, HK.out.trans (Kh.of_below HB4.out)⟩
            go_wp2
            refine bodyPost_ret (results_none rfl _ _ _) rfl ?_
            exact ⟨rfl, HHF.out⟩
      · have t2 : decide ((d : Int) < (n : Int)) = false := decide_eq_false (by omega)
        have HA0 := hide a0
        have HA1 := hide a1
        have HB0 := hide b0
        have HB1 := hide b1
        have HZ0 := hide z0
        have HZ1 := hide z1
        obtain ⟨y0, y1⟩ := y
        simp only at HB0 HB1
        have HMIN : Hid (∀ i, 0 < i → i < n → (i - 1) / 2 = p → (F1 ch).l ≤ (F1 i).l) := fun i hi0 hin hpi => by
          rcases two_kids hi0 hpi with e | e
          · rw [e, ← HCH.out]; exact Int.le_refl _
          · have := HDD.out; omega
        clear a0 a1 b0 b1 hx hy hm hch hdd
        go_wp2_with fail
        go_quiet (fail)
        obtain ⟨Z3, hZ3⟩ : ∃ V, Z.drewN nq = V := ⟨_, rfl⟩
        have hBZ : Below Z.heap.size Z Z3 := by rw [← hZ3]; exact drewN_below Z nq
        rw [hZ3]
        have HBZ := hide hBZ
        clear hz0 hz1 hZ3 hBZ z0 z1 h2
        obtain ⟨x0, x1⟩ := x
        have HSX2 := hide (fun V => HSH.out ⟨y0, y1⟩ ⟨x0, x1⟩ V)
        simp only at HSX2 HA0 HA1
        obtain ⟨b2, hb2⟩ : ∃ b, decide (y1 < x1) = b := ⟨_, rfl⟩
        have HBB2 := hide hb2
        simp only [hb2] at HSX2
        have ha0 : ∀ k os, (grow (Z3.drewN k) os).cell? ⟨D, p * 2, none⟩ = some (.int .i64 x0) := fun k os => cell_kept (cell_kept HA0.out HBZ.out) (below_grow Z3 k os)
        have ha1 : ∀ k os, (grow (Z3.drewN k) os).cell? ⟨D, p * 2 + 1, none⟩ = some (.int .i64 x1) := fun k os => cell_kept (cell_kept HA1.out HBZ.out) (below_grow Z3 k os)
        have hk0 : ∀ k os, (grow (Z3.drewN k) os).cell? ⟨D, ch * 2, none⟩ = some (.int .i64 y0) := fun k os => cell_kept (cell_kept HB0.out HBZ.out) (below_grow Z3 k os)
        have hk1 : ∀ k os, (grow (Z3.drewN k) os).cell? ⟨D, ch * 2 + 1, none⟩ = some (.int .i64 y1) := fun k os => cell_kept (cell_kept HB1.out HBZ.out) (below_grow Z3 k os)
        have hz0 : ∀ k os, (grow (Z3.drewN k) os).cell? ⟨H, 0, none⟩ = some (.slice (some ⟨D, 0, none⟩) n c) := fun k os => cell_kept (cell_kept HZ0.out HBZ.out) (below_grow Z3 k os)
        have hz1 : ∀ k os, (grow (Z3.drewN k) os).cell? ⟨H, 1, none⟩ = some (.func (.func 28) #[] #[]) := fun k os => cell_kept (cell_kept HZ1.out HBZ.out) (below_grow Z3 k os)
        clear hb2
        go_wp2_with fail
        go_quiet_grown ((go_at_call 28; exact Calls.grown_of (HSX2.out _)))
        obtain ⟨Z4, hZ4⟩ : ∃ V, grow (Z3.drewN nq) osq = V := ⟨_, rfl⟩
        have hB4 : Below Z3.heap.size Z3 Z4 := by rw [← hZ4]; exact below_grow _ _ _
        rw [hZ4]
        have HB4 : Hid (Below Z.heap.size Z Z4) := HBZ.out.trans (hB4.mono HBZ.out.size)
        clear ha0 ha1 hk0 hk1 hz0 hz1 hZ4 hB4
        cases b2 with
        | true =>
          have HS3 := hide (HGO.out Z4 F1 p ch (by omega) (by omega) (HB.out.below HB4.out) (HR.out.below HB4.out))
          have HU2 : Hid (HpD (swF F1 p ch) n ch) := HU.out.step (by omega) (by have h1 := HCH.out; have h2 := HDD.out; omega) (by have h1 := HPC.out; omega) HMIN.out (by rw [HY.out, HX.out]; exact of_decide_eq_true HBB2.out)
          have HIN2 : Hid (∀ y, InH (swF F1 p ch) n y ↔ InH F n y) := fun y => (InH.sw (by omega) (by omega)).trans (HIN.out y)
          go_wp2_with fail
          refine HS3.out.mono ?_
          rintro e w5 ⟨rfl, hr5, hw5⟩
          have HR5 := hide hr5
          have HB5 : Hid (Blk w5 H 56 #[.slice (some ⟨D, 0, none⟩) n c, ahV]) := (hw5.blk H (HB.out.below HB4.out).lt (by simp; exact hDH)).trans (HB.out.below HB4.out)
          have HK5 : Hid (Kh H (.slice (some ⟨D, 0, none⟩) n c) (.slice (some ⟨D, 0, none⟩) n c) w w5) := (HK.out.trans (Kh.of_below HB4.out)).trans (Kh.of_wrs hw5)
          have HPL : Hid (p < ch) := by have := HPC.out; show _ < _; omega
          clear hr5 hw5
          go_wp2
          go_roundw
          case rel => exact ⟨ch, swF F1 p ch, by omega, rfl, HR5.out, HB5.out, HU2.out, HIN2.out, HK5.out⟩
          case measure => have := HPL.out; simp [intOf]; omega
        | false =>
          have HHF : Hid (SetP w Z4 H G D c F n) := ⟨F1, HB.out.below HB4.out, HR.out.below HB4.out, HU.out.stop (fun i hi0 hin hpi => by
            have h1 := HMIN.out i hi0 hin hpi
            have h2 := of_decide_eq_false HBB2.out
            have h3 : (F1 ch).l = y1 := by rw [HY.out]
            have h4 : (F1 p).l = x1 := by rw [HX.out]
            omega), HIN.out, HK.out.trans (Kh.of_below HB4.out)⟩
          go_wp2
          refine bodyPost_ret (results_none rfl _ _ _) rfl ?_
          exact ⟨rfl, HHF.out⟩
    · have t1 : decide ((ch : Int) < (n : Int)) = false := decide_eq_false (by omega)
      have HHF : Hid (SetP w Z H G D c F n) := ⟨F1, HB.out, HR.out, HU.out.stop (fun i hi0 hin hpi => by
        have hm := HCH.out
        rcases two_kids hi0 hpi with e | e <;> omega), HIN.out, HK.out⟩
      clear hm hch hdd z1
      go_wp2
      go_end0
      exact ⟨rfl, HHF.out⟩
end Go.Proofs.Ytochfhoaiekioaa

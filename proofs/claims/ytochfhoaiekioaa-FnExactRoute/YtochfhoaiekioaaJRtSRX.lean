/-
  The walks of swapRangeCmpFunc, rotateCmpFunc.
-/
import Derived.Test.YtochfhoaiekioaaJRtSRW
namespace Go.Proofs.Ytochfhoaiekioaa
open Go.RowKit

theorem ed_getD_mid (A C : List Ed) (u : Ed) : (A ++ u :: C).getD A.length .nul = u := by
  rw [List.getD_eq_getElem?_getD, List.getElem?_append_right (Nat.le_refl _), Nat.sub_self]; rfl
theorem ed_set_mid (A C : List Ed) (u v : Ed) : (A ++ u :: C).set A.length v = A ++ v :: C := by
  rw [List.set_append_right _ _ (Nat.le_refl _), Nat.sub_self]; rfl
theorem swp_mid (A B C : List Ed) (u v : Ed) : swp (A ++ u :: (B ++ v :: C)) A.length (A.length + 1 + B.length) = A ++ v :: (B ++ u :: C) := by
  have e1 : A ++ u :: (B ++ v :: C) = (A ++ u :: B) ++ v :: C := by simp
  have l1 : (A ++ u :: B).length = A.length + 1 + B.length := by simp; omega
  have g1 : (A ++ u :: (B ++ v :: C)).getD (A.length + 1 + B.length) .nul = v := by rw [e1, ← l1]; exact ed_getD_mid _ _ _
  unfold swp
  rw [g1, ed_getD_mid, ed_set_mid]
  have e2 : A ++ v :: (B ++ v :: C) = (A ++ v :: B) ++ v :: C := by simp
  have l2 : (A ++ v :: B).length = A.length + 1 + B.length := by simp; omega
  rw [e2, ← l2, ed_set_mid]
  simp

set_option maxHeartbeats 2000000 in
set_option maxRecDepth 1000000 in
theorem swapRange_any (v cf : Value) (D : Nat) (X U M V Y : List Ed) (w : World) (hUV : U.length = V.length) (hn : (X ++ U ++ M ++ V ++ Y).length ≤ 1048576) (h : EdR w D v (X ++ U ++ M ++ V ++ Y)) :
    Calls Try.prog 55 #[v, .int .i64 X.length, .int .i64 (X.length + U.length + M.length : Nat), .int .i64 U.length, cf] w fun e w' => e = .returned (.tuple #[]) ∧ EdR w' D v (X ++ V ++ M ++ U ++ Y) ∧ Wrs [D] w w' := by
  have HE := hide h
  obtain ⟨a0, c0, hv, ha⟩ := h.slc
  subst hv
  have hlen : (X ++ U ++ M ++ V ++ Y).length = X.length + U.length + M.length + V.length + Y.length := by simp; omega
  obtain ⟨N, hN⟩ : ∃ N, (X ++ U ++ M ++ V ++ Y).length = N := ⟨_, rfl⟩
  rw [hN] at hn ha hlen ⊢
  obtain ⟨xa, hxa⟩ : ∃ x, X.length = x := ⟨_, rfl⟩
  obtain ⟨n, hun⟩ : ∃ x, U.length = x := ⟨_, rfl⟩
  obtain ⟨ml, hml⟩ : ∃ x, M.length = x := ⟨_, rfl⟩
  rw [hxa, hun, hml]
  rw [hN] at HE
  obtain ⟨bb, hbb⟩ : ∃ x, xa + n + ml = x := ⟨_, rfl⟩
  rw [hbb]
  have HBB := hide hbb
  have HN := hide hN
  have HLN := hide hlen
  have HXA := hide hxa
  have HUN := hide hun
  have HML := hide hml
  have HUV := hide hUV
  obtain ⟨RS, hRS⟩ : ∃ R, X ++ V ++ M ++ U ++ Y = R := ⟨_, rfl⟩
  rw [hRS]
  have HRS := hide hRS
  clear h hN hlen hxa hun hml hUV hRS hbb
  go_enter Try.func55, Try.ntmps55
  go_wp2
  go_loopw [10] (fun ix wr => ∃ (i : Nat) (U1 U2 V1 V2 : List Ed), i ≤ n ∧ ix = .int .i64 i ∧ U = U1 ++ U2 ∧ V = V1 ++ V2 ∧ U1.length = i ∧ V1.length = i ∧ EdR wr D (.slice a0 N c0) (X ++ V1 ++ U2 ++ M ++ U1 ++ V2 ++ Y) ∧ Wrs [D] w wr) (fun ix _ => n - (intOf ix).toNat)
  case atStart => exact ⟨0, [], U, [], V, Nat.zero_le _, rfl, rfl, rfl, rfl, rfl, by simpa using HE.out, Wrs.refl _ _⟩
  case round =>
    obtain ⟨i, U1, U2, V1, V2, hi, rfl, hU, hV, hu1, hv1, hr, hw⟩ := hrel
    rename World => Z
    have HW := hide hw
    have HR := hide hr
    have hxa := HXA.out
    have hun := HUN.out
    have hml := HML.out
    have hUV := HUV.out
    have hlen := HLN.out
    have hN := HN.out
    have hbb := HBB.out
    clear hw
    by_cases hlt : i < n
    · have hlti : (i : Int) < (n : Int) := by omega
      have hlu : U.length = U1.length + U2.length := by rw [hU]; simp
      have hlv : V.length = V1.length + V2.length := by rw [hV]; simp
      cases U2 with
      | nil => simp at hlu; omega
      | cons u U2 =>
      cases V2 with
      | nil => simp at hlv; omega
      | cons q V2 =>
      have e1 : X ++ V1 ++ u :: U2 ++ M ++ U1 ++ q :: V2 ++ Y = (X ++ V1) ++ u :: ((U2 ++ M ++ U1) ++ q :: (V2 ++ Y)) := by simp
      have hA : (X ++ V1).length = xa + i := by rw [List.length_append, hxa, hv1]
      have hB : (U2 ++ M ++ U1).length = n - 1 + ml := by simp only [List.length_append, List.length_cons] at hlu ⊢; omega
      rw [e1] at hr HR
      have hl1 : xa + i < ((X ++ V1) ++ u :: ((U2 ++ M ++ U1) ++ q :: (V2 ++ Y))).length := by rw [← hA]; simp
      have hl2 : bb + i < ((X ++ V1) ++ u :: ((U2 ++ M ++ U1) ++ q :: (V2 ++ Y))).length := by
        rw [List.length_append, hA, List.length_cons, List.length_append, hB]; simp; omega
      have c1 := hr.each (xa + i) hl1
      have c2 := hr.each (bb + i) hl2
      have g1 : ((X ++ V1) ++ u :: ((U2 ++ M ++ U1) ++ q :: (V2 ++ Y))).getD (xa + i) .nul = u := by rw [← hA]; exact ed_getD_mid _ _ _
      have g2 : ((X ++ V1) ++ u :: ((U2 ++ M ++ U1) ++ q :: (V2 ++ Y))).getD (bb + i) .nul = q := by
        have e3 : (X ++ V1) ++ u :: ((U2 ++ M ++ U1) ++ q :: (V2 ++ Y)) = ((X ++ V1) ++ u :: (U2 ++ M ++ U1)) ++ q :: (V2 ++ Y) := by simp
        have l3 : ((X ++ V1) ++ u :: (U2 ++ M ++ U1)).length = bb + i := by rw [List.length_append, List.length_cons, hA, hB]; omega
        rw [e3, ← l3]; exact ed_getD_mid _ _ _
      have HSW := hide (hr.swap hl1 hl2)
      rw [g1] at c1 HSW
      rw [g2] at c2 HSW
      have HSP : Hid (swp ((X ++ V1) ++ u :: ((U2 ++ M ++ U1) ++ q :: (V2 ++ Y))) (xa + i) (bb + i) = X ++ (V1 ++ [q]) ++ U2 ++ M ++ (U1 ++ [u]) ++ V2 ++ Y) := by
        show _ = _
        have := swp_mid (X ++ V1) (U2 ++ M ++ U1) (V2 ++ Y) u q
        rw [hA, hB, show xa + i + 1 + (n - 1 + ml) = bb + i by omega] at this
        rw [this]
        simp
      obtain ⟨cur, hcur, _⟩ := hr.blk (by omega)
      obtain ⟨p0, p1, p2, p3⟩ := c1
      obtain ⟨q0, q1, q2, q3⟩ := c2
      have f0 := hcur.frozen ((xa + i) * 4)
      have f1 := hcur.frozen ((xa + i) * 4 + 1)
      have f2 := hcur.frozen ((xa + i) * 4 + 2)
      have f3 := hcur.frozen ((xa + i) * 4 + 3)
      have k0 := hcur.frozen ((bb + i) * 4)
      have k1 := hcur.frozen ((bb + i) * 4 + 1)
      have k2 := hcur.frozen ((bb + i) * 4 + 2)
      have k3 := hcur.frozen ((bb + i) * 4 + 3)
      have hNv : V.length = n := by omega
      obtain rfl := ha (by omega)
      have HU : Hid (U = (U1 ++ [u]) ++ U2) := by show _ = _; rw [hU]; simp
      have HVE : Hid (V = (V1 ++ [q]) ++ V2) := by show _ = _; rw [hV]; simp
      have hb1 : xa + i < N := by omega
      have hb2 : bb + i < N := by omega
      have hxb : xa < bb := by omega
      obtain ⟨u0, u1, u2, u3⟩ := u
      obtain ⟨w0, w1, w2, w3⟩ := q
      simp only at p0 p1 p2 p3 q0 q1 q2 q3
      have HU1 : Hid ((U1 ++ [(⟨u0, u1, u2, u3⟩ : Ed)]).length = i + 1) := by show _ = _; simp; omega
      have HV1 : Hid ((V1 ++ [(⟨w0, w1, w2, w3⟩ : Ed)]).length = i + 1) := by show _ = _; simp; omega
      rw [HSP.out] at HSW
      have HWS : Hid (Wrs [D] w (set4 (set4 Z D ((xa + i) * 4) ⟨w0, w1, w2, w3⟩) D ((bb + i) * 4) ⟨u0, u1, u2, u3⟩)) := HW.out.trans (swap_wrs _ _)
      clear hr e1 hA hB hl1 hl2 g1 g2 hcur hU hV hlu hlv HR HE hN hUV hlen hxa hun hml hu1 hv1 HSP hNv hbb
      go_wp2_with fail
      go_region
      go_wp2
      go_roundw
      case rel => exact ⟨i + 1, _, U2, _, V2, by omega, by go_num, HU.out, HVE.out, HU1.out, HV1.out, HSW.out.below (Below.refl _ _).drew, HWS.out.trans (Wrs.of_below (Below.refl _ _).drew)⟩
      case measure => simp [intOf]; omega
    · have hge : ¬ (i : Int) < (n : Int) := by omega
      obtain rfl : i = n := by omega
      have hlu : U.length = U1.length + U2.length := by rw [hU]; simp
      have hlv : V.length = V1.length + V2.length := by rw [hV]; simp
      obtain rfl : U2 = [] := List.length_eq_zero_iff.1 (by omega)
      obtain rfl : V2 = [] := List.length_eq_zero_iff.1 (by omega)
      rw [List.append_nil] at hU hV
      subst hU hV
      simp only [List.append_nil] at HR
      rw [HRS.out] at HR
      clear hr hxa hun hml hUV hlen hN hlu hlv hu1 hv1 hbb
      go_wp2
      go_end0
      exact ⟨rfl, HR.out, HW.out⟩
end Go.Proofs.Ytochfhoaiekioaa

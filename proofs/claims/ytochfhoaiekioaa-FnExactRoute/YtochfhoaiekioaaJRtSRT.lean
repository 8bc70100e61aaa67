/-
  The walk of symMergeCmpFunc, where the right side is a single edge.
-/
import Derived.Test.YtochfhoaiekioaaJRtSRS
namespace Go.Proofs.Ytochfhoaiekioaa
open Go.RowKit
open Go.Sort (grow)

set_option maxHeartbeats 4000000 in
set_option maxRecDepth 1000000 in
theorem sym_right (v : Value) (D : Nat) (y : Ed) (X A Y : List Ed) (w : World) (hA0 : 1 < A.length) (hA : Srtd A) (hn : (X ++ A ++ [y] ++ Y).length ≤ 1048576) (h : EdR w D v (X ++ A ++ [y] ++ Y)) :
    Calls Try.prog 53 #[v, .int .i64 X.length, .int .i64 (X.length + A.length : Nat), .int .i64 (X.length + A.length + 1 : Nat), cfV] w fun e w' => e = .returned (.tuple #[]) ∧ SymP w w' D v X A [y] Y := by
  have HE := hide h
  have hlen : (X ++ A ++ [y] ++ Y).length = X.length + A.length + 1 + Y.length := by simp; omega
  obtain ⟨a0, c0, hv, ha⟩ := h.slc
  subst hv
  obtain ⟨N, hN⟩ : ∃ N, (X ++ A ++ [y] ++ Y).length = N := ⟨_, rfl⟩
  rw [hN] at ha hn hlen HE ⊢
  obtain rfl := ha (by omega)
  obtain ⟨xa, hxa⟩ : ∃ x, X.length = x := ⟨_, rfl⟩
  obtain ⟨m, hm⟩ : ∃ b, X.length + A.length = b := ⟨_, rfl⟩
  rw [hm, hxa]
  obtain ⟨b, hb⟩ : ∃ b, m + 1 = b := ⟨_, rfl⟩
  rw [hb]
  have HXA := hide hxa
  have HM : Hid (xa + A.length = m) := by show _ = _; omega
  have hbN : b ≤ N := by omega
  have hmb : m < b := by omega
  have hab : xa + 1 < m := by omega
  have HAS := hide hA
  have HGY : Hid ((X ++ A ++ [y] ++ Y).getD m .nul = y) := by
    show _ = _
    have := ed_getD_mid (X ++ A) Y y
    rw [List.length_append, hm] at this
    simpa using this
  have HGA : Hid (∀ t, t < A.length → (X ++ A ++ [y] ++ Y).getD (xa + t) .nul = A.getD t .nul) := fun t ht => by
    have := ed_seg X A ([y] ++ Y) ht
    rw [hxa] at this
    simpa using this
  have mixed : Try.prog.follows .mixedOrders = true := by kernel_rfl
  have HBF := hide (fun x y V => byFrom_g x y V)
  unfold edagg at HBF
  unfold cfV
  have HNL : Hid ((X ++ A ++ [y] ++ Y).length = N) := hN
  have t1 : (((m : Int) - (xa : Int)) == 1) = false := by rw [beq_eq_false_iff_ne]; omega
  have t2 : (((b : Int) - (m : Int)) == 1) = true := by rw [beq_iff_eq]; omega
  clear h hlen hN hxa hb hA hA0 ha hm
  go_enter Try.func53, Try.ntmps53
  go_wp2
  go_loopw [14, 15] (fun ix jx wr => ∃ i j : Nat, ix = .int .i64 i ∧ jx = .int .i64 j ∧ xa ≤ i ∧ i ≤ j ∧ j ≤ m ∧ (∀ t, xa + t < i → (A.getD t .nul).f ≤ y.f) ∧ (∀ t, j ≤ xa + t → xa + t < m → y.f < (A.getD t .nul).f) ∧ Below w.heap.size w wr) (fun ix jx _ => (intOf jx).toNat - (intOf ix).toNat)
  case atStart => exact ⟨xa, m, rfl, rfl, Nat.le_refl _, by omega, Nat.le_refl _, fun t ht => by omega, fun t h1 h2 => by omega, Below.refl _ _⟩
  case round =>
    obtain ⟨i, j, rfl, rfl, hi0, hij, hjb, hlo, hhi, hbl⟩ := hrel
    rename World => Z
    have HLO := hide hlo
    have HHI := hide hhi
    have HBE := hide hbl
    clear hlo hhi
    by_cases hlt : i < j
    · have hlti : (i : Int) < (j : Int) := by omega
      obtain ⟨q, hq⟩ : ∃ q : Nat, ((i : Int) + (j : Int)) / 2 = (q : Int) := ⟨(i + j) / 2, by omega⟩
      have hq1 : i ≤ q := by omega
      have hq2 : q < j := by omega
      have HQ1 := hide hq1
      have HQ2 := hide hq2
      have hqN : (q : Int) < (N : Int) := by omega
      have hmN : (m : Int) < (N : Int) := by omega
      obtain ⟨t, ht⟩ : ∃ t, q = xa + t := ⟨q - xa, by omega⟩
      have HT := hide ht
      have htA : t < A.length := by have h2 := HM.out; omega
      have hEZ := HE.out.below hbl
      have c1 := hEZ.each q (by rw [HNL.out]; omega)
      have c2 := hEZ.each m (by rw [HNL.out]; omega)
      rw [HGY.out] at c2
      rw [ht, HGA.out t htA, ← ht] at c1
      have HSB := hide (fun i j (hij : i ≤ j) (hj : j < A.length) => srtd_at HAS.out hij hj)
      obtain ⟨x, hx⟩ : ∃ y, A.getD t .nul = y := ⟨_, rfl⟩
      rw [hx] at c1
      have HX := hide hx
      have HCB := hide (fun V => HBF.out y x V)
      have HNG := hide (cmpI_neg y.f x.f)
      obtain ⟨cv, hcv⟩ : ∃ c, cmpI y.f x.f = c := ⟨_, rfl⟩
      simp only [hcv] at HCB HNG
      obtain ⟨p0, p1, p2, p3⟩ := c1.grown
      obtain ⟨q0, q1, q2, q3⟩ := c2.grown
      have HBW : Hid (∀ n os, Below w.heap.size w (grow (Z.drewN n) os)) := fun n os => hbl.trans ((below_grow Z n os).mono hbl.size)
      clear c1 c2 hEZ hx hcv ht hbl
      by_cases hlv : cv < 0
      · have HXY : Hid (y.f < x.f) := by
          have h1 := HNG.out
          rw [decide_eq_true hlv] at h1
          exact (of_decide_eq_true (p := y.f < x.f) h1.symm)
        have HHI2 : Hid (∀ k, q ≤ xa + k → xa + k < m → y.f < (A.getD k .nul).f) := fun k hk hk2 => by
          have h1 := HSB.out t k (by have := HT.out; omega) (by have h4 := HM.out; omega)
          rw [HX.out] at h1
          have h2 := HXY.out
          omega
        clear hq1 hq2
        go_wp2_with fail
        go_quiet_grown ((go_at_call 35; exact Calls.grown_of (HCB.out _)))
        go_wp2
        go_roundw
        case rel => exact ⟨i, q, rfl, rfl, hi0, by have := HQ1.out; omega, by have := HQ2.out; omega, HLO.out, HHI2.out, HBW.out _ _⟩
        case measure =>
          have h1 := HQ1.out
          have h2 := HQ2.out
          simp [intOf]
          omega
      · have hlv2 : ¬ cv < 0 := hlv
        have tv : decide (cv < 0) = false := decide_eq_false hlv
        have HXY : Hid (x.f ≤ y.f) := by
          have h1 := HNG.out
          rw [decide_eq_false hlv] at h1
          have := of_decide_eq_false (p := y.f < x.f) h1.symm
          show _ ≤ _
          omega
        have HLO2 : Hid (∀ k, xa + k < q + 1 → (A.getD k .nul).f ≤ y.f) := fun k hk => by
          have h1 := HSB.out k t (by have := HT.out; omega) htA
          rw [HX.out] at h1
          have h2 := HXY.out
          omega
        clear hq1 hq2
        go_wp2_with fail
        go_quiet_grown ((go_at_call 35; exact Calls.grown_of (HCB.out _)))
        go_wp2
        go_roundw
        case rel => exact ⟨q + 1, j, by go_num, rfl, by have := HQ1.out; omega, by have := HQ2.out; omega, hjb, HLO2.out, HHI.out, HBW.out _ _⟩
        case measure =>
          have h1 := HQ1.out
          have h2 := HQ2.out
          simp [intOf]
          omega
    · have hge : ¬ (i : Int) < (j : Int) := by omega
      obtain rfl : i = j := by omega
      obtain ⟨t, ht⟩ : ∃ t, i = xa + t := ⟨i - xa, by omega⟩
      have htA : t ≤ A.length := by have h2 := HM.out; omega
      have HV : Hid (∀ e ∈ A.take t, e.f ≤ y.f) := fun e he => by
        obtain ⟨k, h1, h2, rfl⟩ := ed_mem_take he
        exact HLO.out k (by omega)
      have HU : Hid (∀ e ∈ A.drop t, y.f < e.f) := fun e he => by
        obtain ⟨k, h1, h2, rfl⟩ := ed_mem_drop he
        exact HHI.out k (by omega) (by have h4 := HM.out; omega)
      obtain ⟨A1, hA1⟩ : ∃ V, A.take t = V := ⟨_, rfl⟩
      obtain ⟨U, hU⟩ : ∃ V, A.drop t = V := ⟨_, rfl⟩
      have hVB : A = A1 ++ U := by rw [← hA1, ← hU]; exact (List.take_append_drop _ _).symm
      have hAl : A1.length = t := by rw [← hA1, List.length_take]; omega
      rw [hA1] at HV
      rw [hU] at HU
      have HVB := hide hVB
      have HAL : Hid (xa + A1.length = i) := by show _ = _; omega
      have HUL : Hid (i + U.length = m) := by
        have h1 := HM.out
        rw [hVB, List.length_append] at h1
        show _ = _
        omega
      have HEZ := hide (HE.out.below hbl)
      have HWZ : Hid (Wrs [D] w Z) := Wrs.of_below hbl
      clear hA1 hU hVB hAl ht htA hbl HLO HHI HBE
      go_wp2
      go_loopw [17] (fun kx wr => ∃ (k : Nat) (U1 U2 : List Ed), kx = .int .i64 k ∧ i + U1.length = k ∧ U = U1 ++ U2 ∧ EdR wr D (.slice (some ⟨D, 0, none⟩) N c0) (X ++ A1 ++ U1 ++ y :: (U2 ++ Y)) ∧ Wrs [D] w wr) (fun kx _ => (intOf kx).toNat)
      case atStart => exact ⟨m, U, [], rfl, HUL.out, by simp, by have h1 := HEZ.out; rw [HVB.out] at h1; simpa using h1, HWZ.out⟩
      case round =>
        obtain ⟨k, U1, U2, rfl, hk, hVV, hr, hw⟩ := hrel
        rename World => Z2
        have HR2 := hide hr
        have HW2 := hide hw
        have HVV := hide hVV
        have hkm : k ≤ m := by have h1 := HUL.out; rw [hVV, List.length_append] at h1; omega
        clear hw hVV
        by_cases hki : i < k
        · obtain ⟨U1', u, hUu⟩ : ∃ P' p, U1 = P' ++ [p] := by
            rcases List.eq_nil_or_concat U1 with e | ⟨P', p, e⟩
            · subst e; simp at hk; omega
            · exact ⟨P', p, by rw [e, List.concat_eq_append]⟩
          subst hUu
          obtain ⟨kp, hkp⟩ : ∃ q, k = q + 1 := ⟨k - 1, by omega⟩
          subst hkp
          have e1 : X ++ A1 ++ (U1' ++ [u]) ++ y :: (U2 ++ Y) = (X ++ A1 ++ U1') ++ u :: ([] ++ y :: (U2 ++ Y)) := by simp
          have hkl : i + U1'.length = kp := by simp at hk; omega
          have hAA : (X ++ A1 ++ U1').length = kp := by rw [List.length_append, List.length_append, HXA.out]; have := HAL.out; omega
          rw [e1] at hr HR2
          have hl1 : kp < ((X ++ A1 ++ U1') ++ u :: ([] ++ y :: (U2 ++ Y))).length := by rw [List.length_append, hAA]; simp only [List.length_cons, List.nil_append]; omega
          have hl2 : kp + 1 < ((X ++ A1 ++ U1') ++ u :: ([] ++ y :: (U2 ++ Y))).length := by rw [List.length_append, hAA]; simp only [List.length_cons, List.nil_append]; omega
          have g1 : ((X ++ A1 ++ U1') ++ u :: ([] ++ y :: (U2 ++ Y))).getD kp .nul = u := by rw [← hAA]; exact ed_getD_mid _ _ _
          have g2 : ((X ++ A1 ++ U1') ++ u :: ([] ++ y :: (U2 ++ Y))).getD (kp + 1) .nul = y := by
            have e3 : (X ++ A1 ++ U1') ++ u :: ([] ++ y :: (U2 ++ Y)) = ((X ++ A1 ++ U1') ++ [u]) ++ y :: (U2 ++ Y) := by simp
            have l3 : ((X ++ A1 ++ U1') ++ [u]).length = kp + 1 := by rw [List.length_append, hAA]; rfl
            rw [e3, ← l3]; exact ed_getD_mid _ _ _
          have c1 := hr.each kp hl1
          have c2 := hr.each (kp + 1) hl2
          have HSW := hide (hr.swap hl2 hl1)
          rw [g1] at c1 HSW
          rw [g2] at c2 HSW
          have HSP : Hid (swp ((X ++ A1 ++ U1') ++ u :: ([] ++ y :: (U2 ++ Y))) (kp + 1) kp = X ++ A1 ++ U1' ++ y :: ((u :: U2) ++ Y)) := by
            show _ = _
            have := swp_mid (X ++ A1 ++ U1') [] (U2 ++ Y) u y
            rw [hAA] at this
            simp only [List.length_nil, Nat.add_zero] at this
            rw [swp_comm (L := (X ++ A1 ++ U1') ++ u :: ([] ++ y :: (U2 ++ Y))) (i := kp + 1) (j := kp) (by omega), this]
            simp
          rw [HSP.out] at HSW
          obtain ⟨cur, hcur, _⟩ := hr.blk (by omega)
          have hlN : ((X ++ A1 ++ U1') ++ u :: ([] ++ y :: (U2 ++ Y))).length = N := by
            obtain ⟨a, c, h1, _⟩ := hr.slc
            injection h1 with _ h2 _
            exact h2.symm
          have hkN : kp + 1 < N := by rw [← hlN]; exact hl2
          obtain ⟨x0, x1, x2, x3⟩ := u
          obtain ⟨y0, y1, y2, y3⟩ := y
          have p0 : Z2.cell? ⟨D, kp * 4, none⟩ = some (.int .i64 x0) := c1.f
          have p1 : Z2.cell? ⟨D, kp * 4 + 1, none⟩ = some (.int .i64 x1) := c1.t
          have p2 : Z2.cell? ⟨D, kp * 4 + 2, none⟩ = some (.int .i64 x2) := c1.d
          have p3 : Z2.cell? ⟨D, kp * 4 + 3, none⟩ = some (.int .i64 x3) := c1.c
          have q0 : Z2.cell? ⟨D, (kp + 1) * 4, none⟩ = some (.int .i64 y0) := c2.f
          have q1 : Z2.cell? ⟨D, (kp + 1) * 4 + 1, none⟩ = some (.int .i64 y1) := c2.t
          have q2 : Z2.cell? ⟨D, (kp + 1) * 4 + 2, none⟩ = some (.int .i64 y2) := c2.d
          have q3 : Z2.cell? ⟨D, (kp + 1) * 4 + 3, none⟩ = some (.int .i64 y3) := c2.c
          have f0 := hcur.frozen (kp * 4)
          have f1 := hcur.frozen (kp * 4 + 1)
          have f2 := hcur.frozen (kp * 4 + 2)
          have f3 := hcur.frozen (kp * 4 + 3)
          have k0 := hcur.frozen ((kp + 1) * 4)
          have k1 := hcur.frozen ((kp + 1) * 4 + 1)
          have k2 := hcur.frozen ((kp + 1) * 4 + 2)
          have k3 := hcur.frozen ((kp + 1) * 4 + 3)
          have HWS : Hid (Wrs [D] w (set4 (set4 Z2 D ((kp + 1) * 4) ⟨x0, x1, x2, x3⟩) D (kp * 4) ⟨y0, y1, y2, y3⟩)) := HW2.out.trans (swap_wrs _ _)
          have HK2 := hide hkl
          have HV2 : Hid (U = U1' ++ (⟨x0, x1, x2, x3⟩ :: U2)) := by show _ = _; rw [HVV.out]; simp
          have hkii : (i : Int) < (kp : Int) + 1 := by omega
          have hki2 : (kp : Int) + 1 < (N : Int) := by omega
          have hki3 : (kp : Int) < (N : Int) := by omega
          have hwj2 : IntKind.i64.wrap (kp : Int) = (kp : Int) := by rw [IntKind.wrap_i64]; omega
          clear hr e1 hAA hl1 hl2 g1 g2 hcur hlN HSP hk hkl c1 c2 hki
          go_wp2_with fail
          refine go_reg_id ?_
          go_region
          go_wp2
          go_roundw
          case rel => exact ⟨kp, _, _, by first | rfl | (congr 1; omega), HK2.out, HV2.out, HSW.out.below (Below.refl _ _).drew, HWS.out.trans (Wrs.of_below (Below.refl _ _).drew)⟩
          case measure => first | (simp [intOf]; done) | (simp [intOf]; omega)
        · have hkii : ¬ (i : Int) < (k : Int) := by omega
          obtain rfl : U1 = [] := List.length_eq_zero_iff.1 (by omega)
          have HP : Hid (SymP w Z2 D (.slice (some ⟨D, 0, none⟩) N c0) X A [y] Y) := by
            have h1 := HAS.out
            have h2 := HVV.out
            rw [List.nil_append] at h2
            refine ⟨A1 ++ y :: U, ?_, ?_, HW2.out⟩
            · rw [HVB.out] at h1 ⊢
              exact Mg.one_right h1 HV.out HU.out
            · have h3 := HR2.out
              rw [h2]
              simpa using h3
          clear hr hk hki
          go_wp2
          refine bodyPost_ret (results_none rfl _ _ _) rfl ?_
          exact ⟨rfl, HP.out⟩
end Go.Proofs.Ytochfhoaiekioaa

/-
  The walk of symMergeCmpFunc, where one side is a single edge.
-/
import Derived.Test.YtochfhoaiekioaaJRtSRI
namespace Go.Proofs.Ytochfhoaiekioaa
open Go.RowKit
open Go.Sort (grow)

theorem ed_seg (X A Y : List Ed) {t : Nat} (ht : t < A.length) : (X ++ A ++ Y).getD (X.length + t) .nul = A.getD t .nul := by
  rw [List.getD_eq_getElem?_getD, List.getD_eq_getElem?_getD, List.append_assoc, List.getElem?_append_right (by omega), Nat.add_sub_cancel_left, List.getElem?_append_left ht]
theorem ed_mem_take {B : List Ed} {t : Nat} {e : Ed} (h : e ∈ B.take t) : ∃ k, k < t ∧ k < B.length ∧ B.getD k .nul = e := by
  obtain ⟨k, hk, he⟩ := List.mem_iff_getElem.1 h
  rw [List.length_take] at hk
  refine ⟨k, by omega, by omega, ?_⟩
  rw [List.getElem_take] at he
  rw [List.getD_eq_getElem?_getD, List.getElem?_eq_getElem (by omega), Option.getD_some, he]
theorem ed_mem_drop {B : List Ed} {t : Nat} {e : Ed} (h : e ∈ B.drop t) : ∃ k, t ≤ k ∧ k < B.length ∧ B.getD k .nul = e := by
  obtain ⟨k, hk, he⟩ := List.mem_iff_getElem.1 h
  rw [List.length_drop] at hk
  refine ⟨t + k, by omega, by omega, ?_⟩
  rw [List.getElem_drop] at he
  rw [List.getD_eq_getElem?_getD, List.getElem?_eq_getElem (by omega), Option.getD_some, he]
theorem srtd_at {B : List Ed} (h : Srtd B) {i j : Nat} (hij : i ≤ j) (hj : j < B.length) : (B.getD i .nul).f ≤ (B.getD j .nul).f := by
  rcases Nat.lt_or_ge i j with hl | hl
  · have := List.pairwise_iff_getElem.1 h i j (by omega) hj hl
    rw [List.getD_eq_getElem?_getD, List.getD_eq_getElem?_getD, List.getElem?_eq_getElem (by omega), List.getElem?_eq_getElem hj]
    exact this
  · obtain rfl : i = j := by omega
    exact Int.le_refl _
/-- Two parts of a row are merged. -/
def SymP (w w' : World) (D : Nat) (v : Value) (X A B Y : List Ed) : Prop := ∃ C, Mg A B C ∧ EdR w' D v (X ++ C ++ Y) ∧ Wrs [D] w w'

set_option maxHeartbeats 4000000 in
set_option maxRecDepth 1000000 in
theorem sym_left (v : Value) (D : Nat) (x : Ed) (X B Y : List Ed) (w : World) (hB0 : 0 < B.length) (hB : Srtd B) (hn : (X ++ [x] ++ B ++ Y).length ≤ 1048576) (h : EdR w D v (X ++ [x] ++ B ++ Y)) :
    Calls Try.prog 53 #[v, .int .i64 X.length, .int .i64 (X.length + 1 : Nat), .int .i64 (X.length + 1 + B.length : Nat), cfV] w fun e w' => e = .returned (.tuple #[]) ∧ SymP w w' D v X [x] B Y := by
  have HE := hide h
  have hlen : (X ++ [x] ++ B ++ Y).length = X.length + 1 + B.length + Y.length := by simp; omega
  obtain ⟨a0, c0, hv, ha⟩ := h.slc
  subst hv
  obtain ⟨N, hN⟩ : ∃ N, (X ++ [x] ++ B ++ Y).length = N := ⟨_, rfl⟩
  rw [hN] at ha hn hlen HE ⊢
  obtain rfl := ha (by omega)
  obtain ⟨xa, hxa⟩ : ∃ x, X.length = x := ⟨_, rfl⟩
  obtain ⟨b, hb⟩ : ∃ b, X.length + 1 + B.length = b := ⟨_, rfl⟩
  rw [hb, hxa]
  have HXA := hide hxa
  have HBL : Hid (B.length + xa + 1 = b) := by show _ = _; omega
  obtain ⟨m, hm⟩ : ∃ m, xa + 1 = m := ⟨_, rfl⟩
  rw [hm]
  have HM := hide hm
  have hm1 : xa < m := by omega
  have hbN : b ≤ N := by omega
  have hab : m < b := by omega
  have HBS := hide hB
  have HGA : Hid ((X ++ [x] ++ B ++ Y).getD xa .nul = x) := by
    show _ = _
    have := ed_getD_mid X (B ++ Y) x
    rw [hxa] at this
    simpa using this
  have HGB : Hid (∀ t, t < B.length → (X ++ [x] ++ B ++ Y).getD (m + t) .nul = B.getD t .nul) := fun t ht => by
    have := ed_seg (X ++ [x]) B Y ht
    rw [List.length_append, hxa, List.length_singleton, hm] at this
    exact this
  have mixed : Try.prog.follows .mixedOrders = true := by kernel_rfl
  have HBF := hide (fun x y V => byFrom_g x y V)
  unfold edagg at HBF
  unfold cfV
  have HNL : Hid ((X ++ [x] ++ B ++ Y).length = N) := hN
  have t1 : (((m : Int) - (xa : Int)) == 1) = true := by rw [beq_iff_eq]; omega
  clear h hlen hN hxa hb hB hB0 ha hm
  go_enter Try.func53, Try.ntmps53
  go_wp2
  go_loopw [10, 11] (fun ix jx wr => ∃ i j : Nat, ix = .int .i64 i ∧ jx = .int .i64 j ∧ m ≤ i ∧ i ≤ j ∧ j ≤ b ∧ (∀ t, m + t < i → (B.getD t .nul).f < x.f) ∧ (∀ t, j ≤ m + t → m + t < b → x.f ≤ (B.getD t .nul).f) ∧ Below w.heap.size w wr) (fun ix jx _ => (intOf jx).toNat - (intOf ix).toNat)
  case atStart => exact ⟨m, b, rfl, rfl, Nat.le_refl _, by omega, Nat.le_refl _, fun t ht => by omega, fun t h1 h2 => by omega, Below.refl _ _⟩
  case round =>
    obtain ⟨i, j, rfl, rfl, hi0, hij, hjb, hlo, hhi, hbl⟩ := hrel
    rename World => Z
    have HLO := hide hlo
    have HHI := hide hhi
    have HBE := hide hbl
    clear hlo hhi
    by_cases hlt : i < j
    · have hlti : (i : Int) < (j : Int) := by omega
      obtain ⟨q, hq⟩ : ∃ q : Nat, ((i : Int) + (j : Int)) / 2 = (q : Int) := ⟨(i + j) / 2, by omega⟩
      have hq1 : i ≤ q := by omega
      have hq2 : q < j := by omega
      have HQ1 := hide hq1
      have HQ2 := hide hq2
      have hqN : (q : Int) < (N : Int) := by omega
      have hxN : (xa : Int) < (N : Int) := by omega
      obtain ⟨t, ht⟩ : ∃ t, q = m + t := ⟨q - m, by omega⟩
      have HT := hide ht
      have htB : t < B.length := by have h1 := HBL.out; have h2 := HM.out; omega
      have hEZ := HE.out.below hbl
      have c1 := hEZ.each q (by rw [HNL.out]; omega)
      have c2 := hEZ.each xa (by rw [HNL.out]; omega)
      rw [HGA.out] at c2
      rw [ht, HGB.out t htB, ← ht] at c1
      have HSB := hide (fun i j (hij : i ≤ j) (hj : j < B.length) => srtd_at HBS.out hij hj)
      obtain ⟨y, hy⟩ : ∃ y, B.getD t .nul = y := ⟨_, rfl⟩
      rw [hy] at c1
      have HY := hide hy
      have HCB := hide (fun V => HBF.out y x V)
      have HNG := hide (cmpI_neg y.f x.f)
      obtain ⟨cv, hcv⟩ : ∃ c, cmpI y.f x.f = c := ⟨_, rfl⟩
      simp only [hcv] at HCB HNG
      obtain ⟨p0, p1, p2, p3⟩ := c1.grown
      obtain ⟨q0, q1, q2, q3⟩ := c2.grown
      have HBW : Hid (∀ n os, Below w.heap.size w (grow (Z.drewN n) os)) := fun n os => hbl.trans ((below_grow Z n os).mono hbl.size)
      clear c1 c2 hEZ hy hcv ht hbl
      by_cases hlv : cv < 0
      · have HXY : Hid (y.f < x.f) := by
          have h1 := HNG.out
          rw [decide_eq_true hlv] at h1
          exact (of_decide_eq_true (p := y.f < x.f) h1.symm)
        have HLO2 : Hid (∀ k, m + k < q + 1 → (B.getD k .nul).f < x.f) := fun k hk => by
          have h1 := HSB.out k t (by have := HT.out; omega) htB
          rw [HY.out] at h1
          have h2 := HXY.out
          omega
        clear hq1 hq2
        go_wp2_with fail
        go_quiet_grown ((go_at_call 35; exact Calls.grown_of (HCB.out _)))
        go_wp2
        go_roundw
        case rel => exact ⟨q + 1, j, by go_num, rfl, by have := HQ1.out; omega, by have := HQ2.out; omega, hjb, HLO2.out, HHI.out, HBW.out _ _⟩
        case measure =>
          have h1 := HQ1.out
          have h2 := HQ2.out
          simp [intOf]
          omega
      · have hlv2 : 0 ≤ cv := by omega
        have HXY : Hid (x.f ≤ y.f) := by
          have h1 := HNG.out
          rw [decide_eq_false hlv] at h1
          have := of_decide_eq_false (p := y.f < x.f) h1.symm
          show _ ≤ _
          omega
        have HHI2 : Hid (∀ k, q ≤ m + k → m + k < b → x.f ≤ (B.getD k .nul).f) := fun k hk hk2 => by
          have h1 := HSB.out t k (by have := HT.out; omega) (by have h3 := HBL.out; have h4 := HM.out; omega)
          rw [HY.out] at h1
          have h2 := HXY.out
          omega
        clear hq1 hq2
        go_wp2_with fail
        go_quiet_grown ((go_at_call 35; exact Calls.grown_of (HCB.out _)))
        go_wp2
        go_roundw
        case rel => exact ⟨i, q, rfl, rfl, hi0, by have := HQ1.out; omega, by have := HQ2.out; omega, HLO.out, HHI2.out, HBW.out _ _⟩
        case measure =>
          have h1 := HQ1.out
          have h2 := HQ2.out
          simp [intOf]
          omega
    · have hge : ¬ (i : Int) < (j : Int) := by omega
      obtain rfl : i = j := by omega
      obtain ⟨t, ht⟩ : ∃ t, i = m + t := ⟨i - m, by omega⟩
      have htB : t ≤ B.length := by have h1 := HBL.out; have h2 := HM.out; omega
      have HV : Hid (∀ e ∈ B.take t, e.f < x.f) := fun e he => by
        obtain ⟨k, h1, h2, rfl⟩ := ed_mem_take he
        exact HLO.out k (by omega)
      have HB2 : Hid (∀ e ∈ B.drop t, x.f ≤ e.f) := fun e he => by
        obtain ⟨k, h1, h2, rfl⟩ := ed_mem_drop he
        exact HHI.out k (by omega) (by have h3 := HBL.out; have h4 := HM.out; omega)
      obtain ⟨V, hV⟩ : ∃ V, B.take t = V := ⟨_, rfl⟩
      obtain ⟨B2, hB2⟩ : ∃ V, B.drop t = V := ⟨_, rfl⟩
      have hVB : B = V ++ B2 := by rw [← hV, ← hB2]; exact (List.take_append_drop _ _).symm
      have hVl : V.length = t := by rw [← hV, List.length_take]; omega
      rw [hV] at HV
      rw [hB2] at HB2
      have HVB := hide hVB
      have HVL : Hid (xa + V.length + 1 = i) := by show _ = _; have := HM.out; omega
      have HEZ := hide (HE.out.below hbl)
      have HWZ : Hid (Wrs [D] w Z) := Wrs.of_below hbl
      clear hV hB2 hVB hVl ht htB hbl HLO HHI HBE
      go_wp2
      go_loopw [13] (fun kx wr => ∃ (k : Nat) (V1 V2 : List Ed), kx = .int .i64 k ∧ xa + V1.length = k ∧ V = V1 ++ V2 ∧ EdR wr D (.slice (some ⟨D, 0, none⟩) N c0) (X ++ V1 ++ x :: (V2 ++ B2 ++ Y)) ∧ Wrs [D] w wr) (fun kx _ => i - (intOf kx).toNat)
      case atStart => exact ⟨xa, [], V, rfl, rfl, rfl, by have h1 := HEZ.out; rw [HVB.out] at h1; simpa using h1, HWZ.out⟩
      case round =>
        obtain ⟨k, V1, V2, rfl, hk, hVV, hr, hw⟩ := hrel
        rename World => Z2
        have HR2 := hide hr
        have HW2 := hide hw
        have HK := hide hk
        have HVV := hide hVV
        have hVs : V1.length + V2.length + xa + 1 = i := by have h1 := HVL.out; rw [hVV, List.length_append] at h1; omega
        have HVS := hide hVs
        clear hw hVV
        by_cases hki : k + 1 < i
        · cases V2 with
          | nil => simp at hVs; omega
          | cons y V2 =>
          have e1 : X ++ V1 ++ x :: ((y :: V2) ++ B2 ++ Y) = (X ++ V1) ++ x :: ([] ++ y :: (V2 ++ B2 ++ Y)) := by simp
          have hA : (X ++ V1).length = k := by rw [List.length_append, HXA.out]; omega
          rw [e1] at hr HR2
          have hl1 : k < ((X ++ V1) ++ x :: ([] ++ y :: (V2 ++ B2 ++ Y))).length := by rw [List.length_append, hA]; simp only [List.length_cons, List.nil_append]; omega
          have hl2 : k + 1 < ((X ++ V1) ++ x :: ([] ++ y :: (V2 ++ B2 ++ Y))).length := by rw [List.length_append, hA]; simp only [List.length_cons, List.nil_append]; omega
          have g1 : ((X ++ V1) ++ x :: ([] ++ y :: (V2 ++ B2 ++ Y))).getD k .nul = x := by rw [← hA]; exact ed_getD_mid _ _ _
          have g2 : ((X ++ V1) ++ x :: ([] ++ y :: (V2 ++ B2 ++ Y))).getD (k + 1) .nul = y := by
            have e3 : (X ++ V1) ++ x :: ([] ++ y :: (V2 ++ B2 ++ Y)) = ((X ++ V1) ++ [x]) ++ y :: (V2 ++ B2 ++ Y) := by simp
            have l3 : ((X ++ V1) ++ [x]).length = k + 1 := by rw [List.length_append, hA]; rfl
            rw [e3, ← l3]; exact ed_getD_mid _ _ _
          have c1 := hr.each k hl1
          have c2 := hr.each (k + 1) hl2
          have HSW := hide (hr.swap hl1 hl2)
          rw [g1] at c1 HSW
          rw [g2] at c2 HSW
          have HSP : Hid (swp ((X ++ V1) ++ x :: ([] ++ y :: (V2 ++ B2 ++ Y))) k (k + 1) = X ++ (V1 ++ [y]) ++ x :: (V2 ++ B2 ++ Y)) := by
            show _ = _
            have := swp_mid (X ++ V1) [] (V2 ++ B2 ++ Y) x y
            rw [hA] at this
            simp only [List.length_nil, Nat.add_zero] at this
            rw [this]
            simp
          rw [HSP.out] at HSW
          obtain ⟨cur, hcur, _⟩ := hr.blk (by omega)
          have hlN : ((X ++ V1) ++ x :: ([] ++ y :: (V2 ++ B2 ++ Y))).length = N := by
            obtain ⟨a, c, h1, _⟩ := hr.slc
            injection h1 with _ h2 _
            exact h2.symm
          have hkN : k + 1 < N := by rw [← hlN]; exact hl2
          obtain ⟨x0, x1, x2, x3⟩ := x
          obtain ⟨y0, y1, y2, y3⟩ := y
          have p0 : Z2.cell? ⟨D, k * 4, none⟩ = some (.int .i64 x0) := c1.f
          have p1 : Z2.cell? ⟨D, k * 4 + 1, none⟩ = some (.int .i64 x1) := c1.t
          have p2 : Z2.cell? ⟨D, k * 4 + 2, none⟩ = some (.int .i64 x2) := c1.d
          have p3 : Z2.cell? ⟨D, k * 4 + 3, none⟩ = some (.int .i64 x3) := c1.c
          have q0 : Z2.cell? ⟨D, (k + 1) * 4, none⟩ = some (.int .i64 y0) := c2.f
          have q1 : Z2.cell? ⟨D, (k + 1) * 4 + 1, none⟩ = some (.int .i64 y1) := c2.t
          have q2 : Z2.cell? ⟨D, (k + 1) * 4 + 2, none⟩ = some (.int .i64 y2) := c2.d
          have q3 : Z2.cell? ⟨D, (k + 1) * 4 + 3, none⟩ = some (.int .i64 y3) := c2.c
          have f0 := hcur.frozen (k * 4)
          have f1 := hcur.frozen (k * 4 + 1)
          have f2 := hcur.frozen (k * 4 + 2)
          have f3 := hcur.frozen (k * 4 + 3)
          have k0 := hcur.frozen ((k + 1) * 4)
          have k1 := hcur.frozen ((k + 1) * 4 + 1)
          have k2 := hcur.frozen ((k + 1) * 4 + 2)
          have k3 := hcur.frozen ((k + 1) * 4 + 3)
          have HWS : Hid (Wrs [D] w (set4 (set4 Z2 D (k * 4) ⟨y0, y1, y2, y3⟩) D ((k + 1) * 4) ⟨x0, x1, x2, x3⟩)) := HW2.out.trans (swap_wrs _ _)
          have HK2 : Hid (xa + (V1 ++ [(⟨y0, y1, y2, y3⟩ : Ed)]).length = k + 1) := by show _ = _; have := HK.out; simp; omega
          have HV2 : Hid (V = (V1 ++ [⟨y0, y1, y2, y3⟩]) ++ V2) := by show _ = _; rw [HVV.out]; simp
          have hkii : (k : Int) < (i : Int) - 1 := by omega
          have hki2 : (k : Int) + 1 < (N : Int) := by omega
          have hki3 : (k : Int) < (N : Int) := by omega
          clear hr e1 hA hl1 hl2 g1 g2 hcur hlN HSP hk hVs c1 c2 hki
          go_wp2_with fail
          refine go_reg_id ?_
          go_region
          go_wp2
          go_roundw
          case rel => exact ⟨k + 1, _, V2, by go_num, HK2.out, HV2.out, HSW.out.below (Below.refl _ _).drew, HWS.out.trans (Wrs.of_below (Below.refl _ _).drew)⟩
          case measure => simp [intOf]; omega
        · have hkii : ¬ (k : Int) < (i : Int) - 1 := by omega
          obtain rfl : V2 = [] := List.length_eq_zero_iff.1 (by omega)
          have HP : Hid (SymP w Z2 D (.slice (some ⟨D, 0, none⟩) N c0) X [x] B Y) := by
            have h1 := HBS.out
            have h2 := HVV.out
            rw [List.append_nil] at h2
            refine ⟨V ++ x :: B2, ?_, ?_, HW2.out⟩
            · rw [HVB.out] at h1 ⊢
              exact Mg.one_left h1 HV.out HB2.out
            · have h3 := HR2.out
              rw [h2]
              simpa using h3
          clear hr hk hVs hki
          go_wp2
          refine bodyPost_ret (results_none rfl _ _ _) rfl ?_
          exact ⟨rfl, HP.out⟩
end Go.Proofs.Ytochfhoaiekioaa

/-
  The walk of symMergeCmpFunc.
-/
import Derived.Test.YtochfhoaiekioaaJRtSRT
namespace Go.Proofs.Ytochfhoaiekioaa
open Go.RowKit
open Go.Sort (grow)

/-- What a merge of shorter parts is known to do. -/
def SymIH (v : Value) (D k : Nat) : Prop := ∀ (X A B Y : List Ed) (a m b : Int) (w : World), A.length + B.length < k → 0 < A.length → 0 < B.length → Srtd A → Srtd B → (X ++ A ++ B ++ Y).length ≤ 1048576 → EdR w D v (X ++ A ++ B ++ Y) → a = X.length → m = (X.length + A.length : Nat) → b = (X.length + A.length + B.length : Nat) →
  Calls Try.prog 53 #[v, .int .i64 a, .int .i64 m, .int .i64 b, cfV] w fun e w' => e = .returned (.tuple #[]) ∧ SymP w w' D v X A B Y
theorem rotate_at (v cf : Value) (D : Nat) (X U V Y : List Ed) (a m b : Int) (w : World) (hU0 : 0 < U.length) (hV0 : 0 < V.length) (hn : (X ++ U ++ V ++ Y).length ≤ 1048576) (h : EdR w D v (X ++ U ++ V ++ Y)) (ha : a = X.length) (hm : m = (X.length + U.length : Nat)) (hb : b = (X.length + U.length + V.length : Nat)) :
    Calls Try.prog 54 #[v, .int .i64 a, .int .i64 m, .int .i64 b, cf] w fun e w' => e = .returned (.tuple #[]) ∧ EdR w' D v (X ++ V ++ U ++ Y) ∧ Wrs [D] w w' := by
  subst ha hm hb
  exact rotate_any v cf D X U V Y w hU0 hV0 hn h

/-- Where the search ends. -/
theorem sym_split {A B : List Ed} {xa m b mid nn p s s0 r0 : Nat} (hA : Srtd A) (hB : Srtd B) (hM : xa + A.length = m) (hBB : m + B.length = b) (hNE : nn = mid + m ∧ p + 1 = nn)
    (hSR : xa ≤ s0 ∧ s0 ≤ r0 ∧ r0 ≤ m ∧ r0 ≤ mid ∧ (r0 = m ∨ r0 = mid) ∧ (s0 = xa ∨ nn = s0 + b) ∧ nn ≤ s0 + b) (h0 : s0 ≤ s) (h1 : s ≤ r0)
    (hlo : ∀ c, s0 ≤ c → c < s → (A.getD (c - xa) .nul).f ≤ (B.getD (p - c - m) .nul).f) (hhi : ∀ c, s ≤ c → c < r0 → (B.getD (p - c - m) .nul).f < (A.getD (c - xa) .nul).f) :
    ∃ A1 U V B2 : List Ed, A = A1 ++ U ∧ B = V ++ B2 ∧ xa + A1.length = s ∧ s + U.length = m ∧ s + V.length = mid ∧ V.length + B2.length = B.length ∧ (∀ u ∈ U, ∀ v ∈ V, v.f < u.f) ∧ (∀ x ∈ A1, ∀ y ∈ B2, x.f ≤ y.f) := by
  refine ⟨A.take (s - xa), A.drop (s - xa), B.take (mid - s), B.drop (mid - s), (List.take_append_drop _ _).symm, (List.take_append_drop _ _).symm, ?_, ?_, ?_, ?_, ?_, ?_⟩
  · rw [List.length_take]; omega
  · rw [List.length_drop]; omega
  · rw [List.length_take]; omega
  · rw [List.length_take, List.length_drop]; omega
  · intro u hu v hv
    obtain ⟨k, k1, k2, rfl⟩ := ed_mem_drop hu
    obtain ⟨j, j1, j2, rfl⟩ := ed_mem_take hv
    have h2 := hhi s (Nat.le_refl _) (by omega)
    have h3 := srtd_at hA (i := s - xa) (j := k) k1 k2
    have h4 := srtd_at hB (i := j) (j := p - s - m) (by omega) (by omega)
    omega
  · intro x hx y hy
    obtain ⟨k, k1, k2, rfl⟩ := ed_mem_take hx
    obtain ⟨j, j1, j2, rfl⟩ := ed_mem_drop hy
    have h2 := hlo (s - 1) (by omega) (by omega)
    have h3 := srtd_at hA (i := k) (j := s - 1 - xa) (by omega) (by omega)
    have h4 := srtd_at hB (i := p - (s - 1) - m) (j := j) (by omega) j2
    omega
theorem srtd_nil_or {P Q : List Ed} (hP : Srtd P) (hQ : Srtd Q) (h : ¬ (0 < P.length ∧ 0 < Q.length)) : Mg P Q (P ++ Q) := by
  cases P with
  | nil => exact Mg.same hQ
  | cons x P =>
    cases Q with
    | nil => rw [List.append_nil]; exact ⟨hP, fun k => by rw [flt_nil, List.append_nil], by simp⟩
    | cons y Q => simp at h
theorem swap_nil_or {U V : List Ed} (h : ¬ (0 < U.length ∧ 0 < V.length)) : U ++ V = V ++ U := by
  cases U with
  | nil => simp
  | cons x P =>
    cases V with
    | nil => simp
    | cons y Q => simp at h

set_option maxHeartbeats 8000000 in
set_option maxRecDepth 1000000 in
theorem sym_gen (v : Value) (D : Nat) (X A B Y : List Ed) (w : World) (hA0 : 1 < A.length) (hB0 : 1 < B.length) (hA : Srtd A) (hB : Srtd B) (hn : (X ++ A ++ B ++ Y).length ≤ 1048576) (h : EdR w D v (X ++ A ++ B ++ Y)) (ih : SymIH v D (A.length + B.length)) :
    Calls Try.prog 53 #[v, .int .i64 X.length, .int .i64 (X.length + A.length : Nat), .int .i64 (X.length + A.length + B.length : Nat), cfV] w fun e w' => e = .returned (.tuple #[]) ∧ SymP w w' D v X A B Y := by
  have HE := hide h
  have HIH := hide ih
  have hlen : (X ++ A ++ B ++ Y).length = X.length + A.length + B.length + Y.length := by simp; omega
  obtain ⟨a0, c0, hv, ha⟩ := h.slc
  subst hv
  obtain ⟨N, hN⟩ : ∃ N, (X ++ A ++ B ++ Y).length = N := ⟨_, rfl⟩
  rw [hN] at ha hn hlen HE HIH ⊢
  obtain rfl := ha (by omega)
  obtain ⟨xa, hxa⟩ : ∃ x, X.length = x := ⟨_, rfl⟩
  obtain ⟨m, hm⟩ : ∃ b, X.length + A.length = b := ⟨_, rfl⟩
  obtain ⟨b, hb⟩ : ∃ b, X.length + A.length + B.length = b := ⟨_, rfl⟩
  rw [hb, hm, hxa]
  have HXA := hide hxa
  have HMM : Hid (xa + A.length = m) := by show _ = _; omega
  have HBB : Hid (m + B.length = b) := by show _ = _; omega
  have hbN : b ≤ N := by omega
  have hab : xa + 1 < m := by omega
  have hmb : m + 1 < b := by omega
  have HAS := hide hA
  have HBS := hide hB
  have HGA : Hid (∀ t, t < A.length → (X ++ A ++ B ++ Y).getD (xa + t) .nul = A.getD t .nul) := fun t ht => by
    have := ed_seg X A (B ++ Y) ht
    rw [hxa] at this
    simpa using this
  have HGB : Hid (∀ t, t < B.length → (X ++ A ++ B ++ Y).getD (m + t) .nul = B.getD t .nul) := fun t ht => by
    have := ed_seg (X ++ A) B Y ht
    rw [List.length_append, hm] at this
    exact this
  have mixed : Try.prog.follows .mixedOrders = true := by kernel_rfl
  have HBF := hide (fun x y V => byFrom_g x y V)
  unfold edagg at HBF
  have hcf : cfV = .func (.func 35) #[] #[] := rfl
  have HNL : Hid ((X ++ A ++ B ++ Y).length = N) := hN
  have HNN : Hid (X.length + A.length + B.length + Y.length = N) := hlen.symm
  have t1 : (((m : Int) - (xa : Int)) == 1) = false := by rw [beq_eq_false_iff_ne]; omega
  have t2 : (((b : Int) - (m : Int)) == 1) = false := by rw [beq_eq_false_iff_ne]; omega
  obtain ⟨mid, hmid⟩ : ∃ q : Nat, ((xa : Int) + (b : Int)) / 2 = (q : Int) := ⟨(xa + b) / 2, by omega⟩
  have HMID : Hid (2 * mid ≤ xa + b ∧ xa + b ≤ 2 * mid + 1) := by show _ ∧ _; omega
  obtain ⟨nn, hnn⟩ : ∃ q : Nat, (mid : Int) + (m : Int) = (q : Int) := ⟨mid + m, by omega⟩
  obtain ⟨p, hp⟩ : ∃ q : Nat, (nn : Int) - 1 = (q : Int) := ⟨nn - 1, by omega⟩
  have HNE : Hid (nn = mid + m ∧ p + 1 = nn) := by show _ ∧ _; omega
  have hmidb : mid < b := by omega
  have hxmid : xa < mid := by omega
  have hnnb : nn ≤ 4000000 := by omega
  rw [hcf]
  clear h hlen hN hxa hb hA hB hA0 hB0 ha hm ih
  by_cases qm : mid < m
  case' pos =>
    have tq : decide ((mid : Int) < (m : Int)) = true := decide_eq_true (by omega)
    have tq2 : decide (mid < m) = true := decide_eq_true qm
    obtain ⟨s0, hs0⟩ : ∃ q : Nat, (nn : Int) - (b : Int) = (q : Int) := ⟨nn - b, by have := HNE.out; have := HMID.out; omega⟩
    obtain ⟨r0, HR0⟩ : ∃ q : Nat, Hid (mid = q) := ⟨mid, rfl⟩
    have HSV0 : Hid ((.int .i64 (s0 : Int) : Value) = .int .i64 (s0 : Int)) := rfl
    have HRV : Hid ((.int .i64 (mid : Int) : Value) = .int .i64 (r0 : Int)) := by have h : mid = r0 := HR0.out; show _ = _; rw [h]
    have HSR : Hid (xa ≤ s0 ∧ s0 ≤ r0 ∧ r0 ≤ m ∧ r0 ≤ mid ∧ (r0 = m ∨ r0 = mid) ∧ (s0 = xa ∨ nn = s0 + b) ∧ nn ≤ s0 + b ∧ (∀ c, s0 ≤ c → c < r0 → m + c ≤ p ∧ p < b + c)) := by
      have h1 := HNE.out
      have h2 := HMID.out
      have h5 : mid = r0 := HR0.out
      refine ⟨by omega, by omega, by omega, by omega, by omega, by omega, by omega, fun c h3 h4 => ?_⟩
      omega
  case' neg =>
    have tq : decide ((mid : Int) < (m : Int)) = false := decide_eq_false (by omega)
    have tq2 : decide (mid < m) = false := decide_eq_false qm
    obtain ⟨s0, HS0⟩ : ∃ q : Nat, Hid (xa = q) := ⟨xa, rfl⟩
    obtain ⟨r0, HR0⟩ : ∃ q : Nat, Hid (m = q) := ⟨m, rfl⟩
    have HSV0 : Hid ((.int .i64 (xa : Int) : Value) = .int .i64 (s0 : Int)) := by have h : xa = s0 := HS0.out; show _ = _; rw [h]
    have HRV : Hid ((.int .i64 (m : Int) : Value) = .int .i64 (r0 : Int)) := by have h : m = r0 := HR0.out; show _ = _; rw [h]
    have HSR : Hid (xa ≤ s0 ∧ s0 ≤ r0 ∧ r0 ≤ m ∧ r0 ≤ mid ∧ (r0 = m ∨ r0 = mid) ∧ (s0 = xa ∨ nn = s0 + b) ∧ nn ≤ s0 + b ∧ (∀ c, s0 ≤ c → c < r0 → m + c ≤ p ∧ p < b + c)) := by
      have h1 := HNE.out
      have h2 := HMID.out
      have h5 : m = r0 := HR0.out
      have h6 : xa = s0 := HS0.out
      refine ⟨by omega, by omega, by omega, by omega, by omega, by omega, by omega, fun c h3 h4 => ?_⟩
      omega
  all_goals
    clear qm
    go_enter Try.func53, Try.ntmps53
    go_wp2
    go_loopw [20, 21] (fun sx rx wr => ∃ s r : Nat, sx = .int .i64 s ∧ rx = .int .i64 r ∧ s0 ≤ s ∧ s ≤ r ∧ r ≤ r0 ∧ (∀ c, s0 ≤ c → c < s → (A.getD (c - xa) .nul).f ≤ (B.getD (p - c - m) .nul).f) ∧ (∀ c, r ≤ c → c < r0 → (B.getD (p - c - m) .nul).f < (A.getD (c - xa) .nul).f) ∧ Below w.heap.size w wr) (fun sx rx _ => (intOf rx).toNat - (intOf sx).toNat)
    case atStart => exact ⟨s0, r0, by first | exact HSV0.out | rfl, by first | exact HRV.out | rfl, Nat.le_refl _, HSR.out.2.1, Nat.le_refl _, fun t h1 h2 => by omega, fun t h1 h2 => by omega, Below.refl _ _⟩
    case round =>
      obtain ⟨s, r, rfl, rfl, hi0, hij, hjb, hlo, hhi, hbl⟩ := hrel
      rename World => Z
      have HLO := hide hlo
      have HHI := hide hhi
      have HBE := hide hbl
      have hrm : r ≤ m := Nat.le_trans hjb HSR.out.2.2.1
      have HI0 := hide hi0
      have HJB := hide hjb
      clear hlo hhi
      by_cases hlt : s < r
      · have hlti : (s : Int) < (r : Int) := by omega
        obtain ⟨q, hq⟩ : ∃ q : Nat, ((s : Int) + (r : Int)) / 2 = (q : Int) := ⟨(s + r) / 2, by omega⟩
        have hq1 : s ≤ q := by omega
        have hq2 : q < r := by omega
        have HQ1 := hide hq1
        have HQ2 := hide hq2
        have hqN : (q : Int) < (N : Int) := by omega
        have hRng := HSR.out.2.2.2.2.2.2.2 q (by omega) (by omega)
        have hxq : xa ≤ q := by have := HSR.out.1; omega
        obtain ⟨pc, hpc⟩ : ∃ z : Nat, (p : Int) - (q : Int) = (z : Int) := ⟨p - q, by omega⟩
        have hpcN : (pc : Int) < (N : Int) := by omega
        have hwp : IntKind.i64.wrap ((p : Int) - (q : Int)) = (pc : Int) := by rw [IntKind.wrap_i64]; omega
        have hwp2 : IntKind.i64.wrap (pc : Int) = (pc : Int) := by rw [IntKind.wrap_i64]; omega
        obtain ⟨t, ht⟩ : ∃ t, pc = m + t := ⟨pc - m, by omega⟩
        obtain ⟨u, hu⟩ : ∃ t, q = xa + t := ⟨q - xa, by omega⟩
        have HT : Hid (p = q + m + t) := by show _ = _; omega
        have HU := hide hu
        have htB : t < B.length := by have h1 := HBB.out; omega
        have huA : u < A.length := by have h1 := HMM.out; omega
        have hEZ := HE.out.below hbl
        have c1 := hEZ.each pc (by rw [HNL.out]; omega)
        have c2 := hEZ.each q (by rw [HNL.out]; omega)
        rw [hu, HGA.out u huA, ← hu] at c2
        rw [ht, HGB.out t htB, ← ht] at c1
        have HSA := hide (fun i j (hij : i ≤ j) (hj : j < A.length) => srtd_at HAS.out hij hj)
        have HSB := hide (fun i j (hij : i ≤ j) (hj : j < B.length) => srtd_at HBS.out hij hj)
        obtain ⟨y, hy⟩ : ∃ y, B.getD t .nul = y := ⟨_, rfl⟩
        obtain ⟨x, hx⟩ : ∃ y, A.getD u .nul = y := ⟨_, rfl⟩
        rw [hy] at c1
        rw [hx] at c2
        have HY := hide hy
        have HX := hide hx
        have HCB := hide (fun V => HBF.out y x V)
        have HNG := hide (cmpI_neg y.f x.f)
        obtain ⟨cv, hcv⟩ : ∃ c, cmpI y.f x.f = c := ⟨_, rfl⟩
        simp only [hcv] at HCB HNG
        obtain ⟨p0, p1, p2, p3⟩ := c1.grown
        obtain ⟨q0, q1, q2, q3⟩ := c2.grown
        have HBW : Hid (∀ n os, Below w.heap.size w (grow (Z.drewN n) os)) := fun n os => hbl.trans ((below_grow Z n os).mono hbl.size)
        clear c1 c2 hEZ hx hy hcv ht hu hbl hRng hxq hi0 hjb
        by_cases hlv : cv < 0
        · have HXY : Hid (y.f < x.f) := by
            have h1 := HNG.out
            rw [decide_eq_true hlv] at h1
            exact (of_decide_eq_true (p := y.f < x.f) h1.symm)
          have HHI2 : Hid (∀ c, q ≤ c → c < r0 → (B.getD (p - c - m) .nul).f < (A.getD (c - xa) .nul).f) := fun c hc hc2 => by
            have h0 := HT.out
            have h3 := HU.out
            have h4 := HSR.out
            have h7 := h4.2.2.2.2.2.2.2 c (by have := HQ1.out; have := HI0.out; omega) hc2
            have h5 := HMM.out
            have h6 := HBB.out
            have h1 := HSB.out (p - c - m) t (by omega) htB
            have h2 := HSA.out u (c - xa) (by omega) (by omega)
            rw [HY.out] at h1
            rw [HX.out] at h2
            have h8 := HXY.out
            omega
          clear hq1 hq2
          go_wp2_with fail
          go_quiet_grown ((go_at_call 35; exact Calls.grown_of (HCB.out _)))
          go_wp2
          go_roundw
          case rel => exact ⟨s, q, rfl, rfl, HI0.out, HQ1.out, by have := HQ2.out; have := HJB.out; omega, HLO.out, HHI2.out, HBW.out _ _⟩
          case measure =>
            have h1 := HQ1.out
            have h2 := HQ2.out
            simp [intOf]
            omega
        · have hlv2 : 0 ≤ cv := by omega
          have hlv3 : decide (cv < 0) = false := decide_eq_false hlv
          have HXY : Hid (x.f ≤ y.f) := by
            have h1 := HNG.out
            rw [decide_eq_false hlv] at h1
            have := of_decide_eq_false (p := y.f < x.f) h1.symm
            show _ ≤ _
            omega
          have HLO2 : Hid (∀ c, s0 ≤ c → c < q + 1 → (A.getD (c - xa) .nul).f ≤ (B.getD (p - c - m) .nul).f) := fun c hc hc2 => by
            have h0 := HT.out
            have h3 := HU.out
            have h4 := HSR.out
            have h7 := h4.2.2.2.2.2.2.2 c hc (by have := HQ2.out; have := HJB.out; omega)
            have h5 := HMM.out
            have h6 := HBB.out
            have h1 := HSB.out t (p - c - m) (by omega) (by omega)
            have h2 := HSA.out (c - xa) u (by omega) huA
            rw [HY.out] at h1
            rw [HX.out] at h2
            have h8 := HXY.out
            omega
          clear hq1 hq2
          go_wp2_with fail
          go_quiet_grown ((go_at_call 35; exact Calls.grown_of (HCB.out _)))
          go_wp2
          go_roundw
          case rel => exact ⟨q + 1, r, by go_num, rfl, by have := HQ1.out; have := HI0.out; omega, by have := HQ2.out; omega, HJB.out, HLO2.out, HHI.out, HBW.out _ _⟩
          case measure =>
            have h1 := HQ1.out
            have h2 := HQ2.out
            simp [intOf]
            omega
      · have hge : ¬ (s : Int) < (r : Int) := by omega
        obtain rfl : s = r := by omega
        have h4 := HSR.out
        obtain ⟨A1, U, V, B2, eA, eB, l1, l2, l3, l4, hUV, hAB⟩ := sym_split HAS.out HBS.out HMM.out HBB.out HNE.out ⟨h4.1, h4.2.1, h4.2.2.1, h4.2.2.2.1, h4.2.2.2.2.1, h4.2.2.2.2.2.1, h4.2.2.2.2.2.2.1⟩ hi0 hjb HLO.out HHI.out
        obtain ⟨e, he⟩ : ∃ q : Nat, (nn : Int) - (s : Int) = (q : Int) := ⟨nn - s, by have := HNE.out; omega⟩
        have hel : m + V.length = e := by have := HNE.out; omega
        have LF : Hid (X.length = xa ∧ xa + A1.length = s ∧ s + U.length = m ∧ s + V.length = mid ∧ m + V.length = e ∧ e + B2.length = b ∧ mid + U.length = e ∧ b + Y.length = N ∧ N ≤ 1048576 ∧ A.length = A1.length + U.length ∧ B.length = V.length + B2.length ∧ xa < mid ∧ mid < b) := by
          have h5 := HXA.out
          have h6 := HMM.out
          have h7 := HBB.out
          have h8 := HNN.out
          have h9 := HNE.out
          refine ⟨h5, l1, l2, l3, hel, by omega, by omega, by omega, hn, by omega, by omega, hxmid, hmidb⟩
        have hA' := HAS.out
        have hB' := HBS.out
        rw [eA] at hA'
        rw [eB] at hB'
        have HSA1 := hide hA'.left
        have HSU := hide hA'.right
        have HSV := hide hB'.left
        have HSB2 := hide hB'.right
        have HF : Hid (∀ (Zf : World) (C1 C2 : List Ed), Mg A1 V C1 → Mg U B2 C2 → EdR Zf D (.slice (some ⟨D, 0, none⟩) N c0) (X ++ C1 ++ C2 ++ Y) → Wrs [D] w Zf → SymP w Zf D (.slice (some ⟨D, 0, none⟩) N c0) X A B Y) := fun Zf C1 C2 g1 g2 g3 g4 => by
          refine ⟨C1 ++ C2, ?_, by simpa using g3, g4⟩
          rw [eA, eB]
          exact Mg.step hA' hB' hUV hAB g1 g2
        have HEZ : Hid (EdR Z D (.slice (some ⟨D, 0, none⟩) N c0) (X ++ A1 ++ U ++ V ++ (B2 ++ Y))) := by
          have h5 := HE.out.below hbl
          rw [eA, eB] at h5
          show EdR _ _ _ _
          simpa using h5
        have HWZ : Hid (Wrs [D] w Z) := Wrs.of_below hbl
        have hse : s ≤ 1048576 := by have := LF.out; omega
        have hee : e ≤ 1048576 := by have := LF.out; omega
        clear eA eB l1 l2 l3 l4 hUV hAB hA' hB' hel h4 hbl hi0 hjb hlt HLO HHI HBE
        by_cases qU : 0 < U.length
        · by_cases qV : 0 < V.length
          · by_cases qA : 0 < A1.length
            · by_cases qB : 0 < B2.length
              · have z1 : decide ((s : Int) < (m : Int)) = true := decide_eq_true (by have := LF.out; omega)
                have z12 : decide (s < m) = true := decide_eq_true (by have := LF.out; omega)
                have z2 : decide ((m : Int) < (e : Int)) = true := decide_eq_true (by have := LF.out; omega)
                have z22 : decide (m < e) = true := decide_eq_true (by have := LF.out; omega)
                have z3 : decide ((xa : Int) < (s : Int)) = true := decide_eq_true (by have := LF.out; omega)
                have z32 : decide (xa < s) = true := decide_eq_true (by have := LF.out; omega)
                have z4 : decide ((s : Int) < (mid : Int)) = true := decide_eq_true (by have := LF.out; omega)
                have z42 : decide (s < mid) = true := decide_eq_true (by have := LF.out; omega)
                have z5 : decide ((mid : Int) < (e : Int)) = true := decide_eq_true (by have := LF.out; omega)
                have z52 : decide (mid < e) = true := decide_eq_true (by have := LF.out; omega)
                have z6 : decide ((e : Int) < (b : Int)) = true := decide_eq_true (by have := LF.out; omega)
                have z62 : decide (e < b) = true := decide_eq_true (by have := LF.out; omega)
                have QU := hide qU
                have QV := hide qV
                have QA := hide qA
                have QB := hide qB
                clear qU qV qA qB
                go_wp2_with fail
                refine (rotate_at _ _ D (X ++ A1) U V (B2 ++ Y) _ _ _ Z QU.out QV.out (by have := LF.out; (try simp only [List.length_append]); omega) HEZ.out (by have := LF.out; (try simp only [List.length_append]); omega) (by have := LF.out; (try simp only [List.length_append]); omega) (by have := LF.out; (try simp only [List.length_append]); omega)).mono ?_
                rintro e1 w2 ⟨rfl, hr2, hw2⟩
                have HR2 := hide hr2
                have HW2 := hide (HWZ.out.trans hw2)
                clear hr2 hw2
                go_wp2_with fail
                refine (HIH.out X A1 V (U ++ B2 ++ Y) _ _ _ w2 (by have := LF.out; omega) QA.out QV.out HSA1.out HSV.out (by have := LF.out; (try simp only [List.length_append]); omega) (by have := HR2.out; simpa using this) (by have := LF.out; (try simp only [List.length_append]); omega) (by have := LF.out; (try simp only [List.length_append]); omega) (by have := LF.out; (try simp only [List.length_append]); omega)).mono ?_
                rintro e1 w3 ⟨rfl, C1, hC1, hr3, hw3⟩
                have HR3 : Hid (EdR w3 D (.slice (some ⟨D, 0, none⟩) N c0) (X ++ C1 ++ U ++ B2 ++ Y)) := by show EdR _ _ _ _; simpa using hr3
                have HW3 := hide (HW2.out.trans hw3)
                have HC1 := hide hC1
                clear hr3 hw3 hC1
                have LC : Hid (C1.length = A1.length + V.length) := HC1.out.len
                go_wp2_with fail
                refine (HIH.out (X ++ C1) U B2 Y _ _ _ w3 (by have := LF.out; omega) QU.out QB.out HSU.out HSB2.out (by have := LF.out; have := LC.out; (try simp only [List.length_append]); omega) HR3.out (by have := LF.out; have := LC.out; (try simp only [List.length_append]); omega) (by have := LF.out; have := LC.out; (try simp only [List.length_append]); omega) (by have := LF.out; have := LC.out; (try simp only [List.length_append]); omega)).mono ?_
                rintro e1 w4 ⟨rfl, C2, hC2, hr4, hw4⟩
                have HP := hide (HF.out w4 C1 C2 HC1.out hC2 hr4 (HW3.out.trans hw4))
                clear hr4 hw4 hC2
                go_wp2
                go_end0
                exact ⟨rfl, HP.out⟩
              · have z1 : decide ((s : Int) < (m : Int)) = true := decide_eq_true (by have := LF.out; omega)
                have z12 : decide (s < m) = true := decide_eq_true (by have := LF.out; omega)
                have z2 : decide ((m : Int) < (e : Int)) = true := decide_eq_true (by have := LF.out; omega)
                have z22 : decide (m < e) = true := decide_eq_true (by have := LF.out; omega)
                have z3 : decide ((xa : Int) < (s : Int)) = true := decide_eq_true (by have := LF.out; omega)
                have z32 : decide (xa < s) = true := decide_eq_true (by have := LF.out; omega)
                have z4 : decide ((s : Int) < (mid : Int)) = true := decide_eq_true (by have := LF.out; omega)
                have z42 : decide (s < mid) = true := decide_eq_true (by have := LF.out; omega)
                have z5 : decide ((mid : Int) < (e : Int)) = true := decide_eq_true (by have := LF.out; omega)
                have z52 : decide (mid < e) = true := decide_eq_true (by have := LF.out; omega)
                have z6 : decide ((e : Int) < (b : Int)) = false := decide_eq_false (by have := LF.out; omega)
                have z62 : decide (e < b) = false := decide_eq_false (by have := LF.out; omega)
                have QU := hide qU
                have QV := hide qV
                have QA := hide qA
                have QB := hide qB
                clear qU qV qA qB
                go_wp2_with fail
                refine (rotate_at _ _ D (X ++ A1) U V (B2 ++ Y) _ _ _ Z QU.out QV.out (by have := LF.out; (try simp only [List.length_append]); omega) HEZ.out (by have := LF.out; (try simp only [List.length_append]); omega) (by have := LF.out; (try simp only [List.length_append]); omega) (by have := LF.out; (try simp only [List.length_append]); omega)).mono ?_
                rintro e1 w2 ⟨rfl, hr2, hw2⟩
                have HR2 := hide hr2
                have HW2 := hide (HWZ.out.trans hw2)
                clear hr2 hw2
                go_wp2_with fail
                refine (HIH.out X A1 V (U ++ B2 ++ Y) _ _ _ w2 (by have := LF.out; omega) QA.out QV.out HSA1.out HSV.out (by have := LF.out; (try simp only [List.length_append]); omega) (by have := HR2.out; simpa using this) (by have := LF.out; (try simp only [List.length_append]); omega) (by have := LF.out; (try simp only [List.length_append]); omega) (by have := LF.out; (try simp only [List.length_append]); omega)).mono ?_
                rintro e1 w3 ⟨rfl, C1, hC1, hr3, hw3⟩
                have HR3 : Hid (EdR w3 D (.slice (some ⟨D, 0, none⟩) N c0) (X ++ C1 ++ U ++ B2 ++ Y)) := by show EdR _ _ _ _; simpa using hr3
                have HW3 := hide (HW2.out.trans hw3)
                have HC1 := hide hC1
                clear hr3 hw3 hC1
                have LC : Hid (C1.length = A1.length + V.length) := HC1.out.len
                have HP : Hid (SymP w w3 D (.slice (some ⟨D, 0, none⟩) N c0) X A B Y) := by
                  refine HF.out w3 C1 (U ++ B2) HC1.out (srtd_nil_or HSU.out HSB2.out (by intro hh; have g1 := QU.out; have g2 := QB.out; omega)) ?_ HW3.out
                  have h1 := HR3.out
                  simpa using h1
                go_wp2
                go_end0
                exact ⟨rfl, HP.out⟩
            · by_cases qB : 0 < B2.length
              · have z1 : decide ((s : Int) < (m : Int)) = true := decide_eq_true (by have := LF.out; omega)
                have z12 : decide (s < m) = true := decide_eq_true (by have := LF.out; omega)
                have z2 : decide ((m : Int) < (e : Int)) = true := decide_eq_true (by have := LF.out; omega)
                have z22 : decide (m < e) = true := decide_eq_true (by have := LF.out; omega)
                have z3 : decide ((xa : Int) < (s : Int)) = false := decide_eq_false (by have := LF.out; omega)
                have z32 : decide (xa < s) = false := decide_eq_false (by have := LF.out; omega)
                have z5 : decide ((mid : Int) < (e : Int)) = true := decide_eq_true (by have := LF.out; omega)
                have z52 : decide (mid < e) = true := decide_eq_true (by have := LF.out; omega)
                have z6 : decide ((e : Int) < (b : Int)) = true := decide_eq_true (by have := LF.out; omega)
                have z62 : decide (e < b) = true := decide_eq_true (by have := LF.out; omega)
                have QU := hide qU
                have QV := hide qV
                have QA := hide qA
                have QB := hide qB
                clear qU qV qA qB
                go_wp2_with fail
                refine (rotate_at _ _ D (X ++ A1) U V (B2 ++ Y) _ _ _ Z QU.out QV.out (by have := LF.out; (try simp only [List.length_append]); omega) HEZ.out (by have := LF.out; (try simp only [List.length_append]); omega) (by have := LF.out; (try simp only [List.length_append]); omega) (by have := LF.out; (try simp only [List.length_append]); omega)).mono ?_
                rintro e1 w2 ⟨rfl, hr2, hw2⟩
                have HR2 := hide hr2
                have HW2 := hide (HWZ.out.trans hw2)
                clear hr2 hw2
                obtain ⟨C1, HC1, HR3⟩ : ∃ C1, Hid (Mg A1 V C1) ∧ Hid (EdR w2 D (.slice (some ⟨D, 0, none⟩) N c0) (X ++ C1 ++ U ++ B2 ++ Y)) := by
                  refine ⟨A1 ++ V, srtd_nil_or HSA1.out HSV.out (by intro hh; have g1 := QA.out; have g2 := QV.out; omega), ?_⟩
                  show EdR _ _ _ _
                  have h1 := HR2.out
                  simpa using h1
                have LC : Hid (C1.length = A1.length + V.length) := HC1.out.len
                go_wp2_with fail
                refine (HIH.out (X ++ C1) U B2 Y _ _ _ w2 (by have := LF.out; omega) QU.out QB.out HSU.out HSB2.out (by have := LF.out; have := LC.out; (try simp only [List.length_append]); omega) HR3.out (by have := LF.out; have := LC.out; (try simp only [List.length_append]); omega) (by have := LF.out; have := LC.out; (try simp only [List.length_append]); omega) (by have := LF.out; have := LC.out; (try simp only [List.length_append]); omega)).mono ?_
                rintro e1 w4 ⟨rfl, C2, hC2, hr4, hw4⟩
                have HP := hide (HF.out w4 C1 C2 HC1.out hC2 hr4 (HW2.out.trans hw4))
                clear hr4 hw4 hC2
                go_wp2
                go_end0
                exact ⟨rfl, HP.out⟩
              · have z1 : decide ((s : Int) < (m : Int)) = true := decide_eq_true (by have := LF.out; omega)
                have z12 : decide (s < m) = true := decide_eq_true (by have := LF.out; omega)
                have z2 : decide ((m : Int) < (e : Int)) = true := decide_eq_true (by have := LF.out; omega)
                have z22 : decide (m < e) = true := decide_eq_true (by have := LF.out; omega)
                have z3 : decide ((xa : Int) < (s : Int)) = false := decide_eq_false (by have := LF.out; omega)
                have z32 : decide (xa < s) = false := decide_eq_false (by have := LF.out; omega)
                have z5 : decide ((mid : Int) < (e : Int)) = true := decide_eq_true (by have := LF.out; omega)
                have z52 : decide (mid < e) = true := decide_eq_true (by have := LF.out; omega)
                have z6 : decide ((e : Int) < (b : Int)) = false := decide_eq_false (by have := LF.out; omega)
                have z62 : decide (e < b) = false := decide_eq_false (by have := LF.out; omega)
                have QU := hide qU
                have QV := hide qV
                have QA := hide qA
                have QB := hide qB
                clear qU qV qA qB
                go_wp2_with fail
                refine (rotate_at _ _ D (X ++ A1) U V (B2 ++ Y) _ _ _ Z QU.out QV.out (by have := LF.out; (try simp only [List.length_append]); omega) HEZ.out (by have := LF.out; (try simp only [List.length_append]); omega) (by have := LF.out; (try simp only [List.length_append]); omega) (by have := LF.out; (try simp only [List.length_append]); omega)).mono ?_
                rintro e1 w2 ⟨rfl, hr2, hw2⟩
                have HR2 := hide hr2
                have HW2 := hide (HWZ.out.trans hw2)
                clear hr2 hw2
                obtain ⟨C1, HC1, HR3⟩ : ∃ C1, Hid (Mg A1 V C1) ∧ Hid (EdR w2 D (.slice (some ⟨D, 0, none⟩) N c0) (X ++ C1 ++ U ++ B2 ++ Y)) := by
                  refine ⟨A1 ++ V, srtd_nil_or HSA1.out HSV.out (by intro hh; have g1 := QA.out; have g2 := QV.out; omega), ?_⟩
                  show EdR _ _ _ _
                  have h1 := HR2.out
                  simpa using h1
                have LC : Hid (C1.length = A1.length + V.length) := HC1.out.len
                have HP : Hid (SymP w w2 D (.slice (some ⟨D, 0, none⟩) N c0) X A B Y) := by
                  refine HF.out w2 C1 (U ++ B2) HC1.out (srtd_nil_or HSU.out HSB2.out (by intro hh; have g1 := QU.out; have g2 := QB.out; omega)) ?_ HW2.out
                  have h1 := HR3.out
                  simpa using h1
                go_wp2
                go_end0
                exact ⟨rfl, HP.out⟩
          · by_cases qA : 0 < A1.length
            · by_cases qB : 0 < B2.length
              · have z1 : decide ((s : Int) < (m : Int)) = true := decide_eq_true (by have := LF.out; omega)
                have z12 : decide (s < m) = true := decide_eq_true (by have := LF.out; omega)
                have z2 : decide ((m : Int) < (e : Int)) = false := decide_eq_false (by have := LF.out; omega)
                have z22 : decide (m < e) = false := decide_eq_false (by have := LF.out; omega)
                have z3 : decide ((xa : Int) < (s : Int)) = true := decide_eq_true (by have := LF.out; omega)
                have z32 : decide (xa < s) = true := decide_eq_true (by have := LF.out; omega)
                have z4 : decide ((s : Int) < (mid : Int)) = false := decide_eq_false (by have := LF.out; omega)
                have z42 : decide (s < mid) = false := decide_eq_false (by have := LF.out; omega)
                have z5 : decide ((mid : Int) < (e : Int)) = true := decide_eq_true (by have := LF.out; omega)
                have z52 : decide (mid < e) = true := decide_eq_true (by have := LF.out; omega)
                have z6 : decide ((e : Int) < (b : Int)) = true := decide_eq_true (by have := LF.out; omega)
                have z62 : decide (e < b) = true := decide_eq_true (by have := LF.out; omega)
                have QU := hide qU
                have QV := hide qV
                have QA := hide qA
                have QB := hide qB
                clear qU qV qA qB
                have HR2 : Hid (EdR Z D (.slice (some ⟨D, 0, none⟩) N c0) (X ++ A1 ++ V ++ U ++ (B2 ++ Y))) := by
                  have h1 := HEZ.out
                  have h2 := swap_nil_or (U := U) (V := V) (by intro hh; have g1 := QU.out; have g2 := QV.out; omega)
                  have h3 : X ++ A1 ++ U ++ V ++ (B2 ++ Y) = X ++ A1 ++ (U ++ V) ++ (B2 ++ Y) := by simp
                  rw [h3, h2] at h1
                  show EdR _ _ _ _
                  simpa using h1
                obtain ⟨C1, HC1, HR3⟩ : ∃ C1, Hid (Mg A1 V C1) ∧ Hid (EdR Z D (.slice (some ⟨D, 0, none⟩) N c0) (X ++ C1 ++ U ++ B2 ++ Y)) := by
                  refine ⟨A1 ++ V, srtd_nil_or HSA1.out HSV.out (by intro hh; have g1 := QA.out; have g2 := QV.out; omega), ?_⟩
                  show EdR _ _ _ _
                  have h1 := HR2.out
                  simpa using h1
                have LC : Hid (C1.length = A1.length + V.length) := HC1.out.len
                go_wp2_with fail
                refine (HIH.out (X ++ C1) U B2 Y _ _ _ Z (by have := LF.out; omega) QU.out QB.out HSU.out HSB2.out (by have := LF.out; have := LC.out; (try simp only [List.length_append]); omega) HR3.out (by have := LF.out; have := LC.out; (try simp only [List.length_append]); omega) (by have := LF.out; have := LC.out; (try simp only [List.length_append]); omega) (by have := LF.out; have := LC.out; (try simp only [List.length_append]); omega)).mono ?_
                rintro e1 w4 ⟨rfl, C2, hC2, hr4, hw4⟩
                have HP := hide (HF.out w4 C1 C2 HC1.out hC2 hr4 (HWZ.out.trans hw4))
                clear hr4 hw4 hC2
                go_wp2
                go_end0
                exact ⟨rfl, HP.out⟩
              · have z1 : decide ((s : Int) < (m : Int)) = true := decide_eq_true (by have := LF.out; omega)
                have z12 : decide (s < m) = true := decide_eq_true (by have := LF.out; omega)
                have z2 : decide ((m : Int) < (e : Int)) = false := decide_eq_false (by have := LF.out; omega)
                have z22 : decide (m < e) = false := decide_eq_false (by have := LF.out; omega)
                have z3 : decide ((xa : Int) < (s : Int)) = true := decide_eq_true (by have := LF.out; omega)
                have z32 : decide (xa < s) = true := decide_eq_true (by have := LF.out; omega)
                have z4 : decide ((s : Int) < (mid : Int)) = false := decide_eq_false (by have := LF.out; omega)
                have z42 : decide (s < mid) = false := decide_eq_false (by have := LF.out; omega)
                have z5 : decide ((mid : Int) < (e : Int)) = true := decide_eq_true (by have := LF.out; omega)
                have z52 : decide (mid < e) = true := decide_eq_true (by have := LF.out; omega)
                have z6 : decide ((e : Int) < (b : Int)) = false := decide_eq_false (by have := LF.out; omega)
                have z62 : decide (e < b) = false := decide_eq_false (by have := LF.out; omega)
                have QU := hide qU
                have QV := hide qV
                have QA := hide qA
                have QB := hide qB
                clear qU qV qA qB
                have HR2 : Hid (EdR Z D (.slice (some ⟨D, 0, none⟩) N c0) (X ++ A1 ++ V ++ U ++ (B2 ++ Y))) := by
                  have h1 := HEZ.out
                  have h2 := swap_nil_or (U := U) (V := V) (by intro hh; have g1 := QU.out; have g2 := QV.out; omega)
                  have h3 : X ++ A1 ++ U ++ V ++ (B2 ++ Y) = X ++ A1 ++ (U ++ V) ++ (B2 ++ Y) := by simp
                  rw [h3, h2] at h1
                  show EdR _ _ _ _
                  simpa using h1
                obtain ⟨C1, HC1, HR3⟩ : ∃ C1, Hid (Mg A1 V C1) ∧ Hid (EdR Z D (.slice (some ⟨D, 0, none⟩) N c0) (X ++ C1 ++ U ++ B2 ++ Y)) := by
                  refine ⟨A1 ++ V, srtd_nil_or HSA1.out HSV.out (by intro hh; have g1 := QA.out; have g2 := QV.out; omega), ?_⟩
                  show EdR _ _ _ _
                  have h1 := HR2.out
                  simpa using h1
                have LC : Hid (C1.length = A1.length + V.length) := HC1.out.len
                have HP : Hid (SymP w Z D (.slice (some ⟨D, 0, none⟩) N c0) X A B Y) := by
                  refine HF.out Z C1 (U ++ B2) HC1.out (srtd_nil_or HSU.out HSB2.out (by intro hh; have g1 := QU.out; have g2 := QB.out; omega)) ?_ HWZ.out
                  have h1 := HR3.out
                  simpa using h1
                go_wp2
                go_end0
                exact ⟨rfl, HP.out⟩
            · by_cases qB : 0 < B2.length
              · have z1 : decide ((s : Int) < (m : Int)) = true := decide_eq_true (by have := LF.out; omega)
                have z12 : decide (s < m) = true := decide_eq_true (by have := LF.out; omega)
                have z2 : decide ((m : Int) < (e : Int)) = false := decide_eq_false (by have := LF.out; omega)
                have z22 : decide (m < e) = false := decide_eq_false (by have := LF.out; omega)
                have z3 : decide ((xa : Int) < (s : Int)) = false := decide_eq_false (by have := LF.out; omega)
                have z32 : decide (xa < s) = false := decide_eq_false (by have := LF.out; omega)
                have z5 : decide ((mid : Int) < (e : Int)) = true := decide_eq_true (by have := LF.out; omega)
                have z52 : decide (mid < e) = true := decide_eq_true (by have := LF.out; omega)
                have z6 : decide ((e : Int) < (b : Int)) = true := decide_eq_true (by have := LF.out; omega)
                have z62 : decide (e < b) = true := decide_eq_true (by have := LF.out; omega)
                have QU := hide qU
                have QV := hide qV
                have QA := hide qA
                have QB := hide qB
                clear qU qV qA qB
                have HR2 : Hid (EdR Z D (.slice (some ⟨D, 0, none⟩) N c0) (X ++ A1 ++ V ++ U ++ (B2 ++ Y))) := by
                  have h1 := HEZ.out
                  have h2 := swap_nil_or (U := U) (V := V) (by intro hh; have g1 := QU.out; have g2 := QV.out; omega)
                  have h3 : X ++ A1 ++ U ++ V ++ (B2 ++ Y) = X ++ A1 ++ (U ++ V) ++ (B2 ++ Y) := by simp
                  rw [h3, h2] at h1
                  show EdR _ _ _ _
                  simpa using h1
                obtain ⟨C1, HC1, HR3⟩ : ∃ C1, Hid (Mg A1 V C1) ∧ Hid (EdR Z D (.slice (some ⟨D, 0, none⟩) N c0) (X ++ C1 ++ U ++ B2 ++ Y)) := by
                  refine ⟨A1 ++ V, srtd_nil_or HSA1.out HSV.out (by intro hh; have g1 := QA.out; have g2 := QV.out; omega), ?_⟩
                  show EdR _ _ _ _
                  have h1 := HR2.out
                  simpa using h1
                have LC : Hid (C1.length = A1.length + V.length) := HC1.out.len
                go_wp2_with fail
                refine (HIH.out (X ++ C1) U B2 Y _ _ _ Z (by have := LF.out; omega) QU.out QB.out HSU.out HSB2.out (by have := LF.out; have := LC.out; (try simp only [List.length_append]); omega) HR3.out (by have := LF.out; have := LC.out; (try simp only [List.length_append]); omega) (by have := LF.out; have := LC.out; (try simp only [List.length_append]); omega) (by have := LF.out; have := LC.out; (try simp only [List.length_append]); omega)).mono ?_
                rintro e1 w4 ⟨rfl, C2, hC2, hr4, hw4⟩
                have HP := hide (HF.out w4 C1 C2 HC1.out hC2 hr4 (HWZ.out.trans hw4))
                clear hr4 hw4 hC2
                go_wp2
                go_end0
                exact ⟨rfl, HP.out⟩
              · have z1 : decide ((s : Int) < (m : Int)) = true := decide_eq_true (by have := LF.out; omega)
                have z12 : decide (s < m) = true := decide_eq_true (by have := LF.out; omega)
                have z2 : decide ((m : Int) < (e : Int)) = false := decide_eq_false (by have := LF.out; omega)
                have z22 : decide (m < e) = false := decide_eq_false (by have := LF.out; omega)
                have z3 : decide ((xa : Int) < (s : Int)) = false := decide_eq_false (by have := LF.out; omega)
                have z32 : decide (xa < s) = false := decide_eq_false (by have := LF.out; omega)
                have z5 : decide ((mid : Int) < (e : Int)) = true := decide_eq_true (by have := LF.out; omega)
                have z52 : decide (mid < e) = true := decide_eq_true (by have := LF.out; omega)
                have z6 : decide ((e : Int) < (b : Int)) = false := decide_eq_false (by have := LF.out; omega)
                have z62 : decide (e < b) = false := decide_eq_false (by have := LF.out; omega)
                have QU := hide qU
                have QV := hide qV
                have QA := hide qA
                have QB := hide qB
                clear qU qV qA qB
                have HR2 : Hid (EdR Z D (.slice (some ⟨D, 0, none⟩) N c0) (X ++ A1 ++ V ++ U ++ (B2 ++ Y))) := by
                  have h1 := HEZ.out
                  have h2 := swap_nil_or (U := U) (V := V) (by intro hh; have g1 := QU.out; have g2 := QV.out; omega)
                  have h3 : X ++ A1 ++ U ++ V ++ (B2 ++ Y) = X ++ A1 ++ (U ++ V) ++ (B2 ++ Y) := by simp
                  rw [h3, h2] at h1
                  show EdR _ _ _ _
                  simpa using h1
                obtain ⟨C1, HC1, HR3⟩ : ∃ C1, Hid (Mg A1 V C1) ∧ Hid (EdR Z D (.slice (some ⟨D, 0, none⟩) N c0) (X ++ C1 ++ U ++ B2 ++ Y)) := by
                  refine ⟨A1 ++ V, srtd_nil_or HSA1.out HSV.out (by intro hh; have g1 := QA.out; have g2 := QV.out; omega), ?_⟩
                  show EdR _ _ _ _
                  have h1 := HR2.out
                  simpa using h1
                have LC : Hid (C1.length = A1.length + V.length) := HC1.out.len
                have HP : Hid (SymP w Z D (.slice (some ⟨D, 0, none⟩) N c0) X A B Y) := by
                  refine HF.out Z C1 (U ++ B2) HC1.out (srtd_nil_or HSU.out HSB2.out (by intro hh; have g1 := QU.out; have g2 := QB.out; omega)) ?_ HWZ.out
                  have h1 := HR3.out
                  simpa using h1
                go_wp2
                go_end0
                exact ⟨rfl, HP.out⟩
        · by_cases qV : 0 < V.length
          · by_cases qA : 0 < A1.length
            · have z1 : decide ((s : Int) < (m : Int)) = false := decide_eq_false (by have := LF.out; omega)
              have z12 : decide (s < m) = false := decide_eq_false (by have := LF.out; omega)
              have z3 : decide ((xa : Int) < (s : Int)) = true := decide_eq_true (by have := LF.out; omega)
              have z32 : decide (xa < s) = true := decide_eq_true (by have := LF.out; omega)
              have z4 : decide ((s : Int) < (mid : Int)) = true := decide_eq_true (by have := LF.out; omega)
              have z42 : decide (s < mid) = true := decide_eq_true (by have := LF.out; omega)
              have z5 : decide ((mid : Int) < (e : Int)) = false := decide_eq_false (by have := LF.out; omega)
              have z52 : decide (mid < e) = false := decide_eq_false (by have := LF.out; omega)
              have QU := hide qU
              have QV := hide qV
              have QA := hide qA
              clear qU qV qA
              have HR2 : Hid (EdR Z D (.slice (some ⟨D, 0, none⟩) N c0) (X ++ A1 ++ V ++ U ++ (B2 ++ Y))) := by
                have h1 := HEZ.out
                have h2 := swap_nil_or (U := U) (V := V) (by intro hh; have g1 := QU.out; have g2 := QV.out; omega)
                have h3 : X ++ A1 ++ U ++ V ++ (B2 ++ Y) = X ++ A1 ++ (U ++ V) ++ (B2 ++ Y) := by simp
                rw [h3, h2] at h1
                show EdR _ _ _ _
                simpa using h1
              go_wp2_with fail
              refine (HIH.out X A1 V (U ++ B2 ++ Y) _ _ _ Z (by have := LF.out; omega) QA.out QV.out HSA1.out HSV.out (by have := LF.out; (try simp only [List.length_append]); omega) (by have := HR2.out; simpa using this) (by have := LF.out; (try simp only [List.length_append]); omega) (by have := LF.out; (try simp only [List.length_append]); omega) (by have := LF.out; (try simp only [List.length_append]); omega)).mono ?_
              rintro e1 w3 ⟨rfl, C1, hC1, hr3, hw3⟩
              have HR3 : Hid (EdR w3 D (.slice (some ⟨D, 0, none⟩) N c0) (X ++ C1 ++ U ++ B2 ++ Y)) := by show EdR _ _ _ _; simpa using hr3
              have HW3 := hide (HWZ.out.trans hw3)
              have HC1 := hide hC1
              clear hr3 hw3 hC1
              have LC : Hid (C1.length = A1.length + V.length) := HC1.out.len
              have HP : Hid (SymP w w3 D (.slice (some ⟨D, 0, none⟩) N c0) X A B Y) := by
                refine HF.out w3 C1 (U ++ B2) HC1.out (srtd_nil_or HSU.out HSB2.out (by intro hh; have g1 := QU.out; omega)) ?_ HW3.out
                have h1 := HR3.out
                simpa using h1
              go_wp2
              go_end0
              exact ⟨rfl, HP.out⟩
            · have z1 : decide ((s : Int) < (m : Int)) = false := decide_eq_false (by have := LF.out; omega)
              have z12 : decide (s < m) = false := decide_eq_false (by have := LF.out; omega)
              have z3 : decide ((xa : Int) < (s : Int)) = false := decide_eq_false (by have := LF.out; omega)
              have z32 : decide (xa < s) = false := decide_eq_false (by have := LF.out; omega)
              have z5 : decide ((mid : Int) < (e : Int)) = false := decide_eq_false (by have := LF.out; omega)
              have z52 : decide (mid < e) = false := decide_eq_false (by have := LF.out; omega)
              have QU := hide qU
              have QV := hide qV
              have QA := hide qA
              clear qU qV qA
              have HR2 : Hid (EdR Z D (.slice (some ⟨D, 0, none⟩) N c0) (X ++ A1 ++ V ++ U ++ (B2 ++ Y))) := by
                have h1 := HEZ.out
                have h2 := swap_nil_or (U := U) (V := V) (by intro hh; have g1 := QU.out; have g2 := QV.out; omega)
                have h3 : X ++ A1 ++ U ++ V ++ (B2 ++ Y) = X ++ A1 ++ (U ++ V) ++ (B2 ++ Y) := by simp
                rw [h3, h2] at h1
                show EdR _ _ _ _
                simpa using h1
              obtain ⟨C1, HC1, HR3⟩ : ∃ C1, Hid (Mg A1 V C1) ∧ Hid (EdR Z D (.slice (some ⟨D, 0, none⟩) N c0) (X ++ C1 ++ U ++ B2 ++ Y)) := by
                refine ⟨A1 ++ V, srtd_nil_or HSA1.out HSV.out (by intro hh; have g1 := QA.out; have g2 := QV.out; omega), ?_⟩
                show EdR _ _ _ _
                have h1 := HR2.out
                simpa using h1
              have LC : Hid (C1.length = A1.length + V.length) := HC1.out.len
              have HP : Hid (SymP w Z D (.slice (some ⟨D, 0, none⟩) N c0) X A B Y) := by
                refine HF.out Z C1 (U ++ B2) HC1.out (srtd_nil_or HSU.out HSB2.out (by intro hh; have g1 := QU.out; omega)) ?_ HWZ.out
                have h1 := HR3.out
                simpa using h1
              go_wp2
              go_end0
              exact ⟨rfl, HP.out⟩
          · by_cases qA : 0 < A1.length
            · have z1 : decide ((s : Int) < (m : Int)) = false := decide_eq_false (by have := LF.out; omega)
              have z12 : decide (s < m) = false := decide_eq_false (by have := LF.out; omega)
              have z3 : decide ((xa : Int) < (s : Int)) = true := decide_eq_true (by have := LF.out; omega)
              have z32 : decide (xa < s) = true := decide_eq_true (by have := LF.out; omega)
              have z4 : decide ((s : Int) < (mid : Int)) = false := decide_eq_false (by have := LF.out; omega)
              have z42 : decide (s < mid) = false := decide_eq_false (by have := LF.out; omega)
              have z5 : decide ((mid : Int) < (e : Int)) = false := decide_eq_false (by have := LF.out; omega)
              have z52 : decide (mid < e) = false := decide_eq_false (by have := LF.out; omega)
              have QU := hide qU
              have QV := hide qV
              have QA := hide qA
              clear qU qV qA
              have HR2 : Hid (EdR Z D (.slice (some ⟨D, 0, none⟩) N c0) (X ++ A1 ++ V ++ U ++ (B2 ++ Y))) := by
                have h1 := HEZ.out
                have h2 := swap_nil_or (U := U) (V := V) (by intro hh; have g1 := QU.out; have g2 := QV.out; omega)
                have h3 : X ++ A1 ++ U ++ V ++ (B2 ++ Y) = X ++ A1 ++ (U ++ V) ++ (B2 ++ Y) := by simp
                rw [h3, h2] at h1
                show EdR _ _ _ _
                simpa using h1
              obtain ⟨C1, HC1, HR3⟩ : ∃ C1, Hid (Mg A1 V C1) ∧ Hid (EdR Z D (.slice (some ⟨D, 0, none⟩) N c0) (X ++ C1 ++ U ++ B2 ++ Y)) := by
                refine ⟨A1 ++ V, srtd_nil_or HSA1.out HSV.out (by intro hh; have g1 := QA.out; have g2 := QV.out; omega), ?_⟩
                show EdR _ _ _ _
                have h1 := HR2.out
                simpa using h1
              have LC : Hid (C1.length = A1.length + V.length) := HC1.out.len
              have HP : Hid (SymP w Z D (.slice (some ⟨D, 0, none⟩) N c0) X A B Y) := by
                refine HF.out Z C1 (U ++ B2) HC1.out (srtd_nil_or HSU.out HSB2.out (by intro hh; have g1 := QU.out; omega)) ?_ HWZ.out
                have h1 := HR3.out
                simpa using h1
              go_wp2
              go_end0
              exact ⟨rfl, HP.out⟩
            · have z1 : decide ((s : Int) < (m : Int)) = false := decide_eq_false (by have := LF.out; omega)
              have z12 : decide (s < m) = false := decide_eq_false (by have := LF.out; omega)
              have z3 : decide ((xa : Int) < (s : Int)) = false := decide_eq_false (by have := LF.out; omega)
              have z32 : decide (xa < s) = false := decide_eq_false (by have := LF.out; omega)
              have z5 : decide ((mid : Int) < (e : Int)) = false := decide_eq_false (by have := LF.out; omega)
              have z52 : decide (mid < e) = false := decide_eq_false (by have := LF.out; omega)
              have QU := hide qU
              have QV := hide qV
              have QA := hide qA
              clear qU qV qA
              have HR2 : Hid (EdR Z D (.slice (some ⟨D, 0, none⟩) N c0) (X ++ A1 ++ V ++ U ++ (B2 ++ Y))) := by
                have h1 := HEZ.out
                have h2 := swap_nil_or (U := U) (V := V) (by intro hh; have g1 := QU.out; have g2 := QV.out; omega)
                have h3 : X ++ A1 ++ U ++ V ++ (B2 ++ Y) = X ++ A1 ++ (U ++ V) ++ (B2 ++ Y) := by simp
                rw [h3, h2] at h1
                show EdR _ _ _ _
                simpa using h1
              obtain ⟨C1, HC1, HR3⟩ : ∃ C1, Hid (Mg A1 V C1) ∧ Hid (EdR Z D (.slice (some ⟨D, 0, none⟩) N c0) (X ++ C1 ++ U ++ B2 ++ Y)) := by
                refine ⟨A1 ++ V, srtd_nil_or HSA1.out HSV.out (by intro hh; have g1 := QA.out; have g2 := QV.out; omega), ?_⟩
                show EdR _ _ _ _
                have h1 := HR2.out
                simpa using h1
              have LC : Hid (C1.length = A1.length + V.length) := HC1.out.len
              have HP : Hid (SymP w Z D (.slice (some ⟨D, 0, none⟩) N c0) X A B Y) := by
                refine HF.out Z C1 (U ++ B2) HC1.out (srtd_nil_or HSU.out HSB2.out (by intro hh; have g1 := QU.out; omega)) ?_ HWZ.out
                have h1 := HR3.out
                simpa using h1
              go_wp2
              go_end0
              exact ⟨rfl, HP.out⟩
end Go.Proofs.Ytochfhoaiekioaa

/-
  The walk of insertionSortCmpFunc.
-/
import Derived.Test.YtochfhoaiekioaaJRtSRY
import Derived.Test.YtochfhoaiekioaaJRtSRY
namespace Go.Proofs.Ytochfhoaiekioaa
open Go.RowKit
open Go.Sort (grow)

/-- The function that compares. -/
def cfV : Value := .func (.func 35) #[] #[]
/-- A part of a row is in order now. -/
def InsP (w w' : World) (D : Nat) (v : Value) (X S Y : List Ed) : Prop := ∃ C, Stb S C ∧ EdR w' D v (X ++ C ++ Y) ∧ Wrs [D] w w'
theorem cmpI_neg (x y : Int) : decide (cmpI x y < 0) = decide (x < y) := by
  unfold cmpI
  by_cases h : x < y
  · rw [if_pos h, decide_eq_true h]; rfl
  · rw [if_neg h, decide_eq_false h]
    split <;> rfl

theorem go_reg_id {p : Prop} (h : p) : p := h
theorem ins_step {S1 C P Q : List Ed} {x : Ed} (h : Stb S1 C) (hC : C = P ++ Q) (hQ : ∀ z ∈ Q, x.f < z.f) (hP : ∀ z ∈ P, z.f ≤ x.f) : Stb (S1 ++ [x]) (P ++ x :: Q) := by
  subst hC
  exact h.merge (Stb.one x) (Mg.one_right h.srt hP hQ)
theorem swp_comm {L : List Ed} {i j : Nat} (hne : i ≠ j) : swp L i j = swp L j i := by
  unfold swp
  rw [List.set_comm _ _ hne]

set_option maxHeartbeats 2000000 in
set_option maxRecDepth 1000000 in
theorem insSort_any (v : Value) (D : Nat) (X S Y : List Ed) (w : World) (hn : (X ++ S ++ Y).length ≤ 1048576) (h : EdR w D v (X ++ S ++ Y)) :
    Calls Try.prog 52 #[v, .int .i64 X.length, .int .i64 (X.length + S.length : Nat), cfV] w fun e w' => e = .returned (.tuple #[]) ∧ InsP w w' D v X S Y := by
  have HE := hide h
  have hlen : (X ++ S ++ Y).length = X.length + S.length + Y.length := by simp; omega
  rw [hlen] at hn
  obtain ⟨a0, c0, hv, ha⟩ := h.slc
  subst hv
  obtain ⟨N, hN⟩ : ∃ N, (X ++ S ++ Y).length = N := ⟨_, rfl⟩
  rw [hN] at ha ⊢
  rw [hN] at HE hlen
  obtain ⟨xa, hxa⟩ : ∃ x, X.length = x := ⟨_, rfl⟩
  obtain ⟨b, hb⟩ : ∃ x, X.length + S.length = x := ⟨_, rfl⟩
  rw [hb, hxa]
  have HXA := hide hxa
  have HB := hide hb
  have HLN : Hid (N = X.length + S.length + Y.length) := hlen
  have hbN : b ≤ N := by omega
  have hNn : N ≤ 1048576 := by omega
  have hab : xa ≤ b := by omega
  have HBF := hide (fun x y V => byFrom_g x y V)
  have mixed : Try.prog.follows .mixedOrders = true := by kernel_rfl
  unfold edagg at HBF
  unfold cfV
  clear h hn hlen hN hxa hb
  cases S with
  | nil =>
    have hba : b = xa := by have h1 := HB.out; have h2 := HXA.out; simp at h1; omega
    subst hba
    have HP : Hid (InsP w w D (.slice a0 N c0) X [] Y) := ⟨[], Stb.nil, HE.out, Wrs.refl _ _⟩
    go_enter Try.func52, Try.ntmps52
    go_wp2
    go_loopw [8] (fun ix wr => ix = .int .i64 ((b : Int) + 1) ∧ wr = w) (fun _ _ => 0)
    case atStart => exact ⟨rfl, rfl⟩
    case round =>
      obtain ⟨rfl, hww⟩ := hrel
      subst hww
      go_wp2
      go_end0
      exact ⟨rfl, HP.out⟩
  | cons s0 S =>
    go_enter Try.func52, Try.ntmps52
    go_wp2
    go_loopw [8] (fun ix wr => ∃ (i : Nat) (S1 R C : List Ed), ix = .int .i64 i ∧ xa + S1.length = i ∧ i ≤ b ∧ s0 :: S = S1 ++ R ∧ Stb S1 C ∧ EdR wr D (.slice a0 N c0) (X ++ C ++ R ++ Y) ∧ Wrs [D] w wr) (fun ix _ => b - (intOf ix).toNat)
    case atStart =>
      refine ⟨xa + 1, [s0], S, [s0], by go_num, rfl, ?_, rfl, Stb.one _, by simpa using HE.out, Wrs.refl _ _⟩
      have h1 := HB.out; have h2 := HXA.out; simp at h1; omega
    case round =>
      obtain ⟨i, S1, R, C, rfl, hi, hib, hS, hst, hr, hw⟩ := hrel
      rename World => Z
      have HR := hide hr
      have HST := hide hst
      have HS := hide hS
      have HW := hide hw
      have HI := hide hi
      have HSL : Hid (S1.length + R.length = S.length + 1) := by
        have := congrArg List.length hS
        simp at this
        show _ = _
        omega
      clear hr hst hS hw hi
      by_cases hlt : i < b
      · have hlti : (i : Int) < (b : Int) := by omega
        cases R with
        | nil => have h1 := HSL.out; have h2 := HB.out; have h3 := HXA.out; have h4 := HI.out; simp at h1 h2; omega
        | cons x R =>
        go_wp2
        go_loopw [9] (fun jx wr => ∃ (j : Nat) (P Q : List Ed), jx = .int .i64 j ∧ xa + P.length = j ∧ j ≤ i ∧ C = P ++ Q ∧ (∀ z ∈ Q, x.f < z.f) ∧ EdR wr D (.slice a0 N c0) (X ++ P ++ x :: (Q ++ R ++ Y)) ∧ Wrs [D] w wr) (fun jx _ => (intOf jx).toNat)
        case atStart =>
          refine ⟨i, C, [], rfl, ?_, Nat.le_refl _, by simp, (fun z hz => by cases hz), by simpa using HR.out, HW.out⟩
          have h1 := HST.out.len; have h2 := HI.out; omega
        case round =>
          obtain ⟨j, P, Q, rfl, hj, hji, hC, hQ, hr, hw⟩ := hrel
          rename World => Z2
          have HR2 := hide hr
          have HC := hide hC
          have HQ := hide hQ
          have HW2 := hide hw
          have HJ := hide hj
          clear hw hC hQ
          by_cases hja : xa < j
          · have hjai : (xa : Int) < (j : Int) := by omega
            obtain ⟨P', p, hPp⟩ : ∃ P' p, P = P' ++ [p] := by
              rcases List.eq_nil_or_concat P with e | ⟨P', p, e⟩
              · subst e; simp at hj; omega
              · exact ⟨P', p, by rw [e, List.concat_eq_append]⟩
            have hPl : xa + P'.length + 1 = j := by rw [hPp, List.length_append] at hj; simp at hj; omega
            have e1 : X ++ P ++ x :: (Q ++ R ++ Y) = (X ++ P') ++ p :: ([] ++ x :: (Q ++ R ++ Y)) := by rw [hPp]; simp
            have hA : (X ++ P').length = j - 1 := by rw [List.length_append, HXA.out]; omega
            rw [e1] at hr HR2
            have hl1 : j - 1 < ((X ++ P') ++ p :: ([] ++ x :: (Q ++ R ++ Y))).length := by rw [← hA]; simp
            have hl2 : j < ((X ++ P') ++ p :: ([] ++ x :: (Q ++ R ++ Y))).length := by rw [List.length_append, hA]; simp; omega
            have g1 : ((X ++ P') ++ p :: ([] ++ x :: (Q ++ R ++ Y))).getD (j - 1) .nul = p := by rw [← hA]; exact ed_getD_mid _ _ _
            have g2 : ((X ++ P') ++ p :: ([] ++ x :: (Q ++ R ++ Y))).getD j .nul = x := by
              have e3 : (X ++ P') ++ p :: ([] ++ x :: (Q ++ R ++ Y)) = ((X ++ P') ++ [p]) ++ x :: (Q ++ R ++ Y) := by simp
              have l3 : ((X ++ P') ++ [p]).length = j := by rw [List.length_append, hA]; simp; omega
              rw [e3, ← l3]; exact ed_getD_mid _ _ _
            have c1 := hr.each (j - 1) hl1
            have c2 := hr.each j hl2
            have HSW := hide (fun V (hV : Below Z2.heap.size Z2 V) => (hr.below hV).swap hl2 hl1)
            simp only [g1, g2] at c1 c2 HSW
            have HSP : Hid (swp ((X ++ P') ++ p :: ([] ++ x :: (Q ++ R ++ Y))) j (j - 1) = X ++ P' ++ x :: ((p :: Q) ++ R ++ Y)) := by
              show _ = _
              have := swp_mid (X ++ P') [] (Q ++ R ++ Y) p x
              rw [hA] at this
              simp only [List.length_nil, Nat.add_zero] at this
              rw [show j - 1 + 1 = j by omega] at this
              rw [swp_comm (L := (X ++ P') ++ p :: ([] ++ x :: (Q ++ R ++ Y))) (i := j) (j := j - 1) (by omega), this]
              simp
            simp only [HSP.out] at HSW
            obtain ⟨cur, hcur, _⟩ := hr.blk (by omega)
            have HCUR := hide hcur
            obtain ⟨jp, hjp⟩ : ∃ k, j = k + 1 := ⟨j - 1, by omega⟩
            subst hjp
            simp only [Nat.add_sub_cancel] at c1 HSW hA
            have HC1 := hide c1
            have HC2 := hide c2
            obtain ⟨p0, p1, p2, p3⟩ := c1.grown
            obtain ⟨q0, q1, q2, q3⟩ := c2.grown
            have hlN : ((X ++ P') ++ p :: ([] ++ x :: (Q ++ R ++ Y))).length = N := by
              obtain ⟨a, c, h1, _⟩ := hr.slc
              injection h1 with _ h2 _
              exact h2.symm
            have hjN : jp + 1 < N := by rw [← hlN]; exact hl2
            obtain rfl := ha (by omega)
            have HPp := hide hPp
            have HPL := hide hPl
            have HCB := hide (fun V => HBF.out x p V)
            have HNG := hide (cmpI_neg x.f p.f)
            obtain ⟨cv, hcv⟩ : ∃ c, cmpI x.f p.f = c := ⟨_, rfl⟩
            simp only [hcv] at HCB HNG
            obtain ⟨x0, x1, x2, x3⟩ := x
            obtain ⟨y0, y1, y2, y3⟩ := p
            simp only at p0 p1 p2 p3 q0 q1 q2 q3 HCB HNG
            clear hr e1 hA hl1 hl2 g1 g2 hcur hlN hPp hPl hcv HSP hj c1 c2
            have tgj : decide ((xa : Int) < (jp : Int) + 1) = true := decide_eq_true (by omega)
            have tgk : (xa : Int) < (jp : Int) + 1 := by omega
            have hjp1 : (jp : Int) + 1 < (N : Int) := by omega
            have hjp2 : (jp : Int) < (N : Int) := by omega
            have hjp3 : (0 : Int) ≤ (jp : Int) + 1 := by omega
            have hjp4 : ((jp : Int) + 1).toNat = jp + 1 := by omega
            clear hjai hja
            have hwj : IntKind.i64.wrap ((jp : Int) + 1 - 1) = (jp : Int) := by rw [IntKind.wrap_i64]; omega
            have hwj2 : IntKind.i64.wrap (jp : Int) = (jp : Int) := by rw [IntKind.wrap_i64]; omega
            go_wp2_with fail
            go_quiet_grown ((go_at_call 35; exact Calls.grown_of (HCB.out _)))
            obtain ⟨Z3, hZ3⟩ : ∃ Z, grow (Z2.drewN nq) osq = Z := ⟨_, rfl⟩
            have hBZ : Below Z2.heap.size Z2 Z3 := by rw [← hZ3]; exact below_grow _ _ _
            rw [hZ3]
            have HBZ := hide hBZ
            clear p0 p1 p2 p3 q0 q1 q2 q3 hZ3 hBZ
            have c1 := HC1.out
            have c2 := HC2.out
            by_cases hlv : cv < 0
            · have tv : decide (cv < 0) = true := decide_eq_true hlv
              have HXY : Hid (x0 < y0) := by
                have h1 := HNG.out
                rw [tv] at h1
                exact (of_decide_eq_true (p := x0 < y0) h1.symm)
              have p0 : Z3.cell? ⟨D, jp * 4, none⟩ = some (.int .i64 y0) := cell_kept c1.f HBZ.out
              have p1 : Z3.cell? ⟨D, jp * 4 + 1, none⟩ = some (.int .i64 y1) := cell_kept c1.t HBZ.out
              have p2 : Z3.cell? ⟨D, jp * 4 + 2, none⟩ = some (.int .i64 y2) := cell_kept c1.d HBZ.out
              have p3 : Z3.cell? ⟨D, jp * 4 + 3, none⟩ = some (.int .i64 y3) := cell_kept c1.c HBZ.out
              have q0 : Z3.cell? ⟨D, (jp + 1) * 4, none⟩ = some (.int .i64 x0) := cell_kept c2.f HBZ.out
              have q1 : Z3.cell? ⟨D, (jp + 1) * 4 + 1, none⟩ = some (.int .i64 x1) := cell_kept c2.t HBZ.out
              have q2 : Z3.cell? ⟨D, (jp + 1) * 4 + 2, none⟩ = some (.int .i64 x2) := cell_kept c2.d HBZ.out
              have q3 : Z3.cell? ⟨D, (jp + 1) * 4 + 3, none⟩ = some (.int .i64 x3) := cell_kept c2.c HBZ.out
              have hcur := HCUR.out.below HBZ.out
              have f0 := hcur.frozen (jp * 4)
              have f1 := hcur.frozen (jp * 4 + 1)
              have f2 := hcur.frozen (jp * 4 + 2)
              have f3 := hcur.frozen (jp * 4 + 3)
              have k0 := hcur.frozen ((jp + 1) * 4)
              have k1 := hcur.frozen ((jp + 1) * 4 + 1)
              have k2 := hcur.frozen ((jp + 1) * 4 + 2)
              have k3 := hcur.frozen ((jp + 1) * 4 + 3)
              have HS3 := hide (HSW.out Z3 HBZ.out)
              have HWS : Hid (Wrs [D] w (set4 (set4 Z3 D ((jp + 1) * 4) ⟨y0, y1, y2, y3⟩) D (jp * 4) ⟨x0, x1, x2, x3⟩)) := (HW2.out.trans (Wrs.of_below HBZ.out)).trans (swap_wrs _ _)
              clear c1 c2 hcur
              go_wp2_with fail
              refine go_reg_id ?_
              go_region
              go_wp2
              go_roundw
              case rel =>
                refine ⟨jp, P', ⟨y0, y1, y2, y3⟩ :: Q, rfl, by have := HPL.out; omega, by omega, ?_, ?_, ?_, HWS.out.trans (Wrs.of_below (Below.refl _ _).drew)⟩
                · rw [HC.out, HPp.out]
                  try simp
                · intro z hz
                  rcases List.mem_cons.1 hz with rfl | hz
                  · exact HXY.out
                  · exact HQ.out z hz
                · exact HS3.out.below (Below.refl _ _).drew
              case measure => first | (simp [intOf]; done) | (simp [intOf]; omega)
            · have tv : decide (cv < 0) = false := decide_eq_false hlv
              have HXY : Hid (y0 ≤ x0) := by
                have h1 := HNG.out
                rw [tv] at h1
                have := of_decide_eq_false (p := x0 < y0) h1.symm
                show _ ≤ _
                omega
              have HPA : Hid (∀ z ∈ P, z.f ≤ x0) := fun z hz => by
                have h1 := HST.out.srt
                rw [HC.out, HPp.out] at h1
                rw [HPp.out] at hz
                have h2 := h1.left
                rcases List.mem_append.1 hz with hz | hz
                · have h3 := h2.cross hz (List.mem_singleton.2 rfl)
                  have h4 := HXY.out
                  simp only at h3
                  omega
                · rw [List.mem_singleton.1 hz]
                  exact HXY.out
              have HST3 : Hid (Stb (S1 ++ [⟨x0, x1, x2, x3⟩]) (P ++ ⟨x0, x1, x2, x3⟩ :: Q)) := ins_step HST.out HC.out HQ.out HPA.out
              have HR3 : Hid (EdR Z3 D (.slice (some ⟨D, 0, none⟩) N c0) (X ++ (P ++ ⟨x0, x1, x2, x3⟩ :: Q) ++ R ++ Y)) := by
                show EdR _ _ _ _
                have h1 := HR2.out.below HBZ.out
                rw [HPp.out]
                simpa using h1
              have HW3 : Hid (Wrs [D] w Z3) := HW2.out.trans (Wrs.of_below HBZ.out)
              have HI3 : Hid (xa + (S1 ++ [(⟨x0, x1, x2, x3⟩ : Ed)]).length = i + 1) := by show _ = _; have := HI.out; simp; omega
              have HS3 : Hid (s0 :: S = (S1 ++ [⟨x0, x1, x2, x3⟩]) ++ R) := by show _ = _; rw [HS.out]; simp
              clear c1 c2
              have hlv2 : 0 ≤ cv := by omega
              go_wp2
              go_roundw
              case rel => exact ⟨i + 1, _, R, _, by go_num, HI3.out, by omega, HS3.out, HST3.out, HR3.out, HW3.out⟩
              case measure => simp [intOf]; omega
          · have hjai : ¬ (xa : Int) < (j : Int) := by omega
            have tgj : decide ((xa : Int) < (j : Int)) = false := decide_eq_false hjai
            go_wp2_with fail
            go_quiet (fail)
            obtain rfl : P = [] := List.length_eq_zero_iff.1 (by have := HJ.out; omega)
            have HST3 : Hid (Stb (S1 ++ [x]) ([] ++ x :: Q)) := ins_step HST.out HC.out HQ.out (fun z hz => by cases hz)
            obtain ⟨Z3, hZ3⟩ : ∃ Z, Z2.drewN nq = Z := ⟨_, rfl⟩
            have HBZ : Hid (Below Z2.heap.size Z2 Z3) := by show Below _ _ _; rw [← hZ3]; exact below_drewN (Below.refl _ _) _
            rw [hZ3]
            have HR3 : Hid (EdR Z3 D (.slice a0 N c0) (X ++ ([] ++ x :: Q) ++ R ++ Y)) := by
              show EdR _ _ _ _
              have h1 := HR2.out.below HBZ.out
              simpa using h1
            have HW3 : Hid (Wrs [D] w Z3) := HW2.out.trans (Wrs.of_below HBZ.out)
            have HI3 : Hid (xa + (S1 ++ [x]).length = i + 1) := by show _ = _; have := HI.out; simp; omega
            have HS3 : Hid (s0 :: S = (S1 ++ [x]) ++ R) := by show _ = _; rw [HS.out]; simp
            clear hZ3 hr hj
            go_wp2
            go_roundw
            case rel => exact ⟨i + 1, _, R, _, by go_num, HI3.out, by omega, HS3.out, HST3.out, HR3.out, HW3.out⟩
            case measure => simp [intOf]; omega
      · have hge : ¬ (i : Int) < (b : Int) := by omega
        obtain rfl : R = [] := List.length_eq_zero_iff.1 (by have h1 := HSL.out; have h2 := HB.out; have h3 := HXA.out; have h4 := HI.out; simp at h2; omega)
        have HP : Hid (InsP w Z D (.slice a0 N c0) X (s0 :: S) Y) := by
          refine ⟨C, ?_, by simpa using HR.out, HW.out⟩
          have h1 := HS.out
          rw [List.append_nil] at h1
          rw [h1]
          exact HST.out
        go_wp2
        go_end0
        exact ⟨rfl, HP.out⟩
end Go.Proofs.Ytochfhoaiekioaa

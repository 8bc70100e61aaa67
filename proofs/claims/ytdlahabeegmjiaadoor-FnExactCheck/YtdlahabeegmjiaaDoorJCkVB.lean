/-
  The walk of branchEnd.
  The walk of impl.ValidTree.
  The walk of spec.l1good.
  The walk of spec.l1good at any slice.
  The walks of spec.l1letter, spec.l1number, spec.l1run.
-/
import Derived.Test.YtdlahabeegmjiaaDoorJCkND4
import Derived.Test.YtdlahabeegmjiaaDoorJCkVK2
import Derived.Test.YtdlahabeegmjiaaDoorJCkK
import Derived.Test.YtdlahabeegmjiaaDoorJCkIN0
import Derived.Test.YtdlahabeegmjiaaDoorJCkZ
namespace Go.Proofs.YtdlahabeegmjiaaDoor
open Go.RowKit

/-- Whether a node is well made by itself. -/
def okN (L : List Nd) (i : Nat) : Bool := vFd (L.getD i .zero) && vCnt (L.getD i .zero).kind (L.getD i .zero).count
/-- Whether a node may stand below another one, at a number. -/
def stN (L : List Nd) (p k i : Nat) : Bool := mSt (L.getD p .zero).kind k (L.getD i .zero).kind

theorem vCnt_nn {k c : Int} (h : vCnt k c = true) : 0 ≤ c := by
  rcases kinds k with g | g
  · rcases g with rfl | rfl | rfl | rfl | rfl | rfl | rfl | rfl | rfl | rfl | rfl | rfl | rfl | rfl | rfl | rfl | rfl | rfl | rfl | rfl | rfl | rfl | rfl
    all_goals simp [vCnt] at h; omega
  · rw [vCnt_none k c g] at h; cases h

theorem bE_le {L : List Nd} {f i e : Nat} (hf : f ≤ 60) (hi : i < L.length) (he : e ≠ 0) (h : bE L.length (cn L) (okN L) (stN L) f i = e) : e ≤ L.length ∧ i < e := by
  have hok : ∀ i, okN L i = true → 0 ≤ cn L i := fun i h => by
    unfold okN at h
    rw [Bool.and_eq_true] at h
    exact vCnt_nn h.2
  have hB := sE_br _ _ _ _ _ ((bE_sE hok f hf i e hi he).1 h).1
  exact ⟨hB.le, hB.lt⟩

set_option maxHeartbeats 4000000 in
set_option maxRecDepth 1000000 in
theorem branchEnd_any (v : Value) (L : List Nd) (hl : L.length ≤ 1048576) (hz : ∀ j, j < L.length → NB (L.getD j .zero)) : ∀ f : Nat, f ≤ 60 → ∀ D : Int, D = 61 - f → ∀ (i : Nat) (w : World), i < L.length → NS w v L → Lib.Utf8Tabs 0 1 w →
    Calls Tryd.prog 37 #[v, .int .i64 i, .int .i64 D] w fun e w' => e = .returned (.int .i64 (bE L.length (cn L) (okN L) (stN L) f i : Nat)) ∧ Below w.heap.size w w' := by
  intro f
  induction f with
  | zero =>
    intro _ D hD i w hi h hT
    obtain rfl : D = 61 := by omega
    obtain ⟨a, b, o, c, rfl, ha, hc⟩ := h
    obtain rfl := ha (by omega)
    obtain ⟨vt, vn, vy, hN, hV⟩ := hc i hi
    have g0 := hN.kind
    have g1 := hN.n
    have g2 := hN.text
    have g3 := hN.names
    have g4 := hN.types
    have g5 := hN.count
    clear hc ha hN hT hD
    have HR : Hid (bE L.length (cn L) (okN L) (stN L) 0 i = 0) := rfl
    obtain ⟨d, hd⟩ : ∃ d, L.getD i .zero = d := ⟨_, rfl⟩
    rw [hd] at g0 g1 g5 hV
    obtain ⟨at_, ct, hvt⟩ : ∃ a c, vt = .slice a d.text.size c := by obtain ⟨a, _, _, c, h, _⟩ := hV.text; exact ⟨a, c, h⟩
    obtain ⟨an, cn', hvn⟩ : ∃ a c, vn = .slice a d.names.length c := by obtain ⟨a, _, _, c, h, _⟩ := hV.names; exact ⟨a, c, h⟩
    obtain ⟨ay, cy, hvy⟩ : ∃ a c, vy = .slice a d.types.length c := by obtain ⟨a, _, _, c, h, _⟩ := hV.types; exact ⟨a, c, h⟩
    subst hvt hvn hvy
    clear hd hV
    go_enter Tryd.func37, Tryd.ntmps37
    go_wp2
    go_ret
    exact ⟨by rw [HR.out]; rfl, (Below.refl _ _).alloc (Nat.le_refl _) _⟩
  | succ f ih =>
    intro hf D hD i w hi h hT
    have HIH := hide (ih (by omega))
    have HNS := hide h
    have HT := hide hT
    have HBL := hide (fun p e => bE_le (L := L) (f := f) (i := p) (e := e) (by omega))
    obtain ⟨a, b, o, c, rfl, ha, hc⟩ := h
    obtain rfl := ha (by omega)
    have HCK : Hid (∀ j, j < L.length → w.cell? ⟨b, o + j * 6, none⟩ = some (.int .i64 (L.getD j .zero).kind)) := fun j hj => by
      obtain ⟨_, _, _, hN, _⟩ := hc j hj
      exact hN.kind
    obtain ⟨vt, vn, vy, hN, hV⟩ := hc i hi
    have HZ := hz i hi
    have g0 := hN.kind
    have g1 := hN.n
    have g2 := hN.text
    have g3 := hN.names
    have g4 := hN.types
    have g5 := hN.count
    clear hc ha hN hT ih
    have HR : Hid (bE L.length (cn L) (okN L) (stN L) (f + 1) i = if okN L i = true then bLoop L.length (stN L) (bE L.length (cn L) (okN L) (stN L) f) i (cn L i).toNat 0 (i + 1) else 0) := rfl
    have HOK : Hid (okN L i = (vFd (L.getD i .zero) && vCnt (L.getD i .zero).kind (L.getD i .zero).count)) := rfl
    have HST : Hid (∀ k j, stN L i k j = mSt (L.getD i .zero).kind k (L.getD j .zero).kind) := fun _ _ => rfl
    have HCN : Hid (cn L i = (L.getD i .zero).count) := rfl
    obtain ⟨d, hd⟩ : ∃ d, L.getD i .zero = d := ⟨_, rfl⟩
    rw [hd] at g0 g1 g5 hV HZ HOK HCN
    simp only [hd] at HST
    obtain ⟨at_, ct, hvt⟩ : ∃ a c, vt = .slice a d.text.size c := by obtain ⟨a, _, _, c, h, _⟩ := hV.text; exact ⟨a, c, h⟩
    obtain ⟨an, cn', hvn⟩ : ∃ a c, vn = .slice a d.names.length c := by obtain ⟨a, _, _, c, h, _⟩ := hV.names; exact ⟨a, c, h⟩
    obtain ⟨ay, cy, hvy⟩ : ∃ a c, vy = .slice a d.types.length c := by obtain ⟨a, _, _, c, h, _⟩ := hV.types; exact ⟨a, c, h⟩
    subst hvt hvn hvy
    clear hd
    obtain ⟨W1, hW1⟩ : ∃ W1, w.alloc (.cells #[.int .i64 d.kind, .int .i64 d.n, .slice at_ d.text.size ct, .slice an d.names.length cn', .slice ay d.types.length cy, .int .i64 d.count] 42) = W1 := ⟨_, rfl⟩
    have hB1 : Below w.heap.size w W1 := by rw [← hW1]; exact (Below.refl _ _).alloc (Nat.le_refl _) _
    have hBk : Blk W1 w.heap.size 42 #[.int .i64 d.kind, .int .i64 d.n, .slice at_ d.text.size ct, .slice an d.names.length cn', .slice ay d.types.length cy, .int .i64 d.count] := by rw [← hW1]; exact Blk.new _ _ _
    have b0 := hBk.cell 0
    have b1 := hBk.cell 1
    have b2 := hBk.cell 2
    have b3 := hBk.cell 3
    have b4 := hBk.cell 4
    have b5 := hBk.cell 5
    simp only [List.getElem?_toArray, List.getElem?_cons_succ, List.getElem?_cons_zero] at b0 b1 b2 b3 b4 b5
    have HB1 := hide hB1
    have HW := hide hW1
    have hF := validFields_any d _ _ _ W1 (hV.below hB1) HZ (Utf8Tabs_below HT.out hB1)
    have HVC := hide (fun w => validCount_any d.kind d.count w)
    have HMS := hide (fun (k : Nat) e w => mayStand_any d.kind k e w)
    obtain ⟨E, hE⟩ : ∃ E, bE L.length (cn L) (okN L) (stN L) (f + 1) i = E := ⟨_, rfl⟩
    obtain ⟨F, hFF⟩ : ∃ F, vFd d = F := ⟨_, rfl⟩
    obtain ⟨G, hG⟩ : ∃ G, vCnt d.kind d.count = G := ⟨_, rfl⟩
    have HG := hide hG
    rw [hFF] at hF HOK
    simp only [hG] at HVC HOK
    rw [hE] at HR ⊢
    unfold nagg at hF
    have HF := hide hF
    have hiI : (i : Int) ≤ 1048576 := by omega
    have hD0 : (1 : Int) ≤ D := by omega
    have hD1 : D ≤ 60 := by omega
    have HD := hide hD
    have t0 : decide ((60 : Int) < D) = false := decide_eq_false (by omega)
    clear hW1 hB1 hBk hV HZ hF hFF hG hE hD
    cases F with
    | false =>
      have HE : Hid (E = 0) := by show _ = _; rw [HR.out, HOK.out]; rfl
      go_enter Tryd.func37, Tryd.ntmps37
      go_wp2_with fail
      rw [HW.out]
      go_wp2_with fail
      refine HF.out.mono ?_
      rintro e w2 ⟨rfl, hb2⟩
      have HB2 : Hid (Below w.heap.size w w2) := HB1.out.trans (hb2.mono HB1.out.size)
      clear hb2
      go_wp2
      go_ret
      exact ⟨by rw [HE.out]; rfl, HB2.out⟩
    | true =>
      cases G with
      | false =>
        have HE : Hid (E = 0) := by show _ = _; rw [HR.out, HOK.out]; rfl
        go_enter Tryd.func37, Tryd.ntmps37
        go_wp2_with fail
        rw [HW.out]
        go_wp2_with fail
        refine HF.out.mono ?_
        rintro e w2 ⟨rfl, hb2⟩
        have HB2 : Hid (Below w.heap.size w w2) := HB1.out.trans (hb2.mono HB1.out.size)
        have q0 := cell_kept b0 hb2
        have q5 := cell_kept b5 hb2
        clear hb2
        go_wp2_with fail
        refine (HVC.out _).mono ?_
        rintro e w3 ⟨rfl, rfl⟩
        go_wp2
        go_ret
        exact ⟨by rw [HE.out]; rfl, HB2.out⟩
      | true =>
        have HE : Hid (E = bLoop L.length (stN L) (bE L.length (cn L) (okN L) (stN L) f) i d.count.toNat 0 (i + 1)) := by show _ = _; rw [HR.out, HOK.out, HCN.out]; rfl
        have hC0 : 0 ≤ d.count := vCnt_nn HG.out
        obtain ⟨C, hC⟩ : ∃ C, d.count = C := ⟨_, rfl⟩
        rw [hC] at HE HF HVC g5 b5 hC0 HW
        clear hC HG HCN HOK HR
        go_enter Tryd.func37, Tryd.ntmps37
        go_wp2_with fail
        rw [HW.out]
        go_wp2_with fail
        refine HF.out.mono ?_
        rintro e w2 ⟨rfl, hb2⟩
        have HB2 : Hid (Below w.heap.size w w2) := HB1.out.trans (hb2.mono HB1.out.size)
        have HBW2 := hide hb2
        have q0 := cell_kept b0 hb2
        have q5 := cell_kept b5 hb2
        clear hb2
        go_wp2_with fail
        refine (HVC.out _).mono ?_
        rintro e w3 ⟨rfl, rfl⟩
        go_wp2
        clear q0 q5 b1 b2 b3 b4 b5 g0 g1 g2 g3 g4 g5 HF HVC HW hz
        go_loopw [8, 33] (fun x ix wr => ∃ k p : Nat, k ≤ C.toNat ∧ k < p ∧ ix = .int .i64 k ∧ x = .int .i64 p ∧ p ≤ L.length ∧ bLoop L.length (stN L) (bE L.length (cn L) (okN L) (stN L) f) i (C.toNat - k) k p = E ∧ Below w.heap.size w wr ∧ Below W1.heap.size W1 wr) (fun _ ix _ => C.toNat - (intOf ix).toNat)
        case atStart => exact ⟨0, i + 1, Nat.zero_le _, by omega, rfl, by go_num, by omega, HE.out.symm, HB2.out, HBW2.out⟩
        case round =>
          obtain ⟨k, p, hk, hkp, rfl, rfl, hp, hs, hb, hbw⟩ := hrel
          have HB := hide hb
          have HBW := hide hbw
          have r0 := cell_kept b0 hbw
          by_cases hlt : k < C.toNat
          · have hlti : decide ((k : Int) < C) = true := decide_eq_true (by omega)
            have hsp : C.toNat - k = (C.toNat - (k + 1)) + 1 := by omega
            rw [hsp, bLoop] at hs
            by_cases hpe : p = L.length
            · have t1 : ((p : Int) == (L.length : Int)) = true := by rw [beq_iff_eq]; omega
              rw [if_pos hpe] at hs
              have HS := hide hs
              clear hs hpe hb hbw
              go_wp2_with fail
              go_region
              all_goals go_wp2
              all_goals go_ret
              all_goals exact ⟨by rw [← HS.out]; rfl, HB.out.drew⟩
            · have hpl : p < L.length := by omega
              have t1 : ((p : Int) == (L.length : Int)) = false := by rw [beq_eq_false_iff_ne]; omega
              have hpi : (p : Int) < (L.length : Int) := by omega
              rw [if_neg hpe, HST.out k p] at hs
              have r1 := cell_kept (HCK.out p hpl) hb
              obtain ⟨kk, hkk⟩ : ∃ kk, (L.getD p .zero).kind = kk := ⟨_, rfl⟩
              rw [hkk] at r1 hs
              have HM := hide (fun w => HMS.out k kk w)
              obtain ⟨S, hS⟩ : ∃ S, mSt d.kind k kk = S := ⟨_, rfl⟩
              simp only [hS] at hs HM
              have HH := hide (fun w2 (hb2 : Below w.heap.size w w2) => HIH.out (D + 1) (by have := HD.out; omega) p w2 hpl (HNS.out.below hb2) (Utf8Tabs_below HT.out hb2))
              have HLE := hide (HBL.out p)
              obtain ⟨Q, hQ⟩ : ∃ Q, bE L.length (cn L) (okN L) (stN L) f p = Q := ⟨_, rfl⟩
              simp only [hQ] at hs HH HLE
              clear hpe hb hbw hkk hS hQ
              cases S with
              | false =>
                have HS : Hid (0 = E) := by show _ = _; simpa using hs
                clear hs
                go_wp2_with fail
                go_quiet ((go_at_call 49; exact Calls.quiet_of_same (HM.out _)))
                go_wp2
                go_ret
                exact ⟨by rw [← HS.out]; rfl, HB.out.trans ⟨rfl, rfl, rfl, Nat.le_refl _, fun _ _ => rfl⟩⟩
              | true =>
                have HDR : Hid (∀ n, Below w.heap.size w (wr.drewN n)) := fun n => HB.out.trans ⟨rfl, rfl, rfl, Nat.le_refl _, fun _ _ => rfl⟩
                have HDW : Hid (∀ n, Below W1.heap.size W1 (wr.drewN n)) := fun n => HBW.out.trans ⟨rfl, rfl, rfl, Nat.le_refl _, fun _ _ => rfl⟩
                by_cases hQ0 : Q = 0
                · subst hQ0
                  have HS : Hid (0 = E) := by show _ = _; simpa using hs
                  clear hs
                  go_wp2_with fail
                  go_quiet ((go_at_call 49; exact Calls.quiet_of_same (HM.out _)))
                  go_wp2_with fail
                  refine (HH.out _ (HDR.out _)).mono ?_
                  rintro e w6 ⟨rfl, hb6⟩
                  have HB6 : Hid (Below w.heap.size w w6) := (HDR.out _).trans (hb6.mono (HDR.out _).size)
                  clear hb6
                  go_wp2
                  go_ret
                  exact ⟨by rw [← HS.out]; rfl, HB6.out⟩
                · have t2 : ((Q : Int) == 0) = false := by rw [beq_eq_false_iff_ne]; omega
                  have HS : Hid (bLoop L.length (stN L) (bE L.length (cn L) (okN L) (stN L) f) i (C.toNat - (k + 1)) (k + 1) Q = E) := by
                    show _ = _; simpa [hQ0] using hs
                  obtain ⟨hQL, hQp⟩ := HLE.out Q hpl hQ0 rfl
                  clear hs
                  go_wp2_with fail
                  go_quiet ((go_at_call 49; exact Calls.quiet_of_same (HM.out _)))
                  go_wp2_with fail
                  refine (HH.out _ (HDR.out _)).mono ?_
                  rintro e w6 ⟨rfl, hb6⟩
                  have HB6 : Hid (Below w.heap.size w w6) := (HDR.out _).trans (hb6.mono (HDR.out _).size)
                  have HBW6 : Hid (Below W1.heap.size W1 w6) := (HDW.out _).trans (hb6.mono (HDW.out _).size)
                  clear hb6
                  go_wp2
                  go_roundw
                  case rel => exact ⟨k + 1, Q, by omega, by omega, by go_num, rfl, hQL, HS.out, HB6.out, HBW6.out⟩
                  case measure => simp [intOf]; omega
          · have hlti : decide ((k : Int) < C) = false := decide_eq_false (by omega)
            have HE2 : Hid (E = p) := by show _ = _; rw [← hs, show C.toNat - k = 0 by omega, bLoop]
            clear hs hb hbw
            go_wp2
            go_ret
            exact ⟨by rw [HE2.out]; rfl, HB.out⟩
end Go.Proofs.YtdlahabeegmjiaaDoor

namespace Go.Proofs.YtdlahabeegmjiaaDoor
open Go.RowKit

/-- Whether a list of nodes is a valid tree. -/
def vT (L : List Nd) : Bool := decide (0 < L.length) && (decide (L.length ≤ 4000) && (((L.getD 0 .zero).kind == 0) && (bE L.length (cn L) (okN L) (stN L) 60 0 == L.length)))
theorem vT_none {L : List Nd} (h : L.length = 0) : vT L = false := by unfold vT; rw [decide_eq_false (by omega), Bool.false_and]
theorem vT_long {L : List Nd} (h : ¬ L.length ≤ 4000) : vT L = false := by unfold vT; rw [decide_eq_false h, Bool.false_and, Bool.and_false]
theorem vT_kind {L : List Nd} (h : (L.getD 0 .zero).kind ≠ 0) : vT L = false := by unfold vT; rw [beq_eq_false_iff_ne.2 h, Bool.false_and, Bool.and_false, Bool.and_false]
theorem vT_end {L : List Nd} (h0 : 0 < L.length) (h1 : L.length ≤ 4000) (h2 : (L.getD 0 .zero).kind = 0) : vT L = (bE L.length (cn L) (okN L) (stN L) 60 0 == L.length) := by
  unfold vT; rw [decide_eq_true h0, decide_eq_true h1, beq_iff_eq.2 h2, Bool.true_and, Bool.true_and, Bool.true_and]

set_option maxHeartbeats 1000000 in
set_option maxRecDepth 1000000 in
theorem implValid_any (v : Value) (L : List Nd) (w : World) (hl : L.length ≤ 1048576) (hz : ∀ j, j < L.length → NB (L.getD j .zero)) (h : NS w v L) (hT : Lib.Utf8Tabs 0 1 w) :
    Calls Tryd.prog 15 #[v] w fun e w' => e = .returned (.bool (vT L)) ∧ Below w.heap.size w w' := by
  by_cases h0 : L.length = 0
  · obtain ⟨a, b, o, c, rfl, ha, hc⟩ := h
    have HV := hide (vT_none h0)
    rw [h0]
    clear ha hc h0 hl hz hT
    go_enter Tryd.func15, Tryd.ntmps15
    go_wp2
    go_ret
    exact ⟨by rw [HV.out]; rfl, Below.refl _ _⟩
  have d0 : ((L.length : Int) == 0) = false := by rw [beq_eq_false_iff_ne]; omega
  by_cases h1 : ¬ L.length ≤ 4000
  · obtain ⟨a, b, o, c, rfl, ha, hc⟩ := h
    have HV := hide (vT_long h1)
    have d1 : decide ((4000 : Int) < (L.length : Int)) = true := decide_eq_true (by omega)
    clear ha hc h0 hz hT h1
    go_enter Tryd.func15, Tryd.ntmps15
    go_wp2
    go_ret
    exact ⟨by rw [HV.out]; rfl, Below.refl _ _⟩
  have h1' : L.length ≤ 4000 := by omega
  have d1 : decide ((4000 : Int) < (L.length : Int)) = false := decide_eq_false (by omega)
  have HC := hide (branchEnd_any v L hl hz 60 (Nat.le_refl _) 1 (by omega) 0 w (by omega) h hT)
  obtain ⟨a, b, o, c, rfl, ha, hc⟩ := h
  obtain rfl := ha (by omega)
  obtain ⟨vt, vn, vy, hN, _⟩ := hc 0 (by omega)
  have g0 := hN.kind
  rw [Nat.zero_mul, Nat.add_zero] at g0
  by_cases h2 : (L.getD 0 .zero).kind = 0
  · have HV := hide (vT_end (by omega) h1' h2)
    rw [h2] at g0
    obtain ⟨V, hV⟩ : ∃ V, vT L = V := ⟨_, rfl⟩
    obtain ⟨E, hE⟩ : ∃ E, bE L.length (cn L) (okN L) (stN L) 60 0 = E := ⟨_, rfl⟩
    rw [hV, hE] at HV
    rw [hE] at HC
    rw [hV, HV.out]
    have e2 := nat_beq E L.length
    have HE := hide e2
    have hlI : (0 : Int) < (L.length : Int) := by omega
    clear ha hc hN hz hT h1 h1' h2 hE hV e2 h0
    go_enter Tryd.func15, Tryd.ntmps15
    go_wp2_with fail
    refine HC.out.mono ?_
    rintro e w1 ⟨rfl, hb1⟩
    have HB := hide hb1
    clear hb1
    go_wp2
    go_ret
    exact ⟨by rw [← HE.out]; rfl, HB.out⟩
  · have HV := hide (vT_kind h2)
    have d2 : ((L.getD 0 .zero).kind != 0) = true := by rw [bne_iff_ne]; exact h2
    obtain ⟨kk, hkk⟩ : ∃ kk, (L.getD 0 .zero).kind = kk := ⟨_, rfl⟩
    rw [hkk] at g0 d2
    have hlI : (0 : Int) < (L.length : Int) := by omega
    clear ha hc hN hz hT h1 h1' h2 hkk h0
    go_enter Tryd.func15, Tryd.ntmps15
    go_wp2
    go_ret
    exact ⟨by rw [HV.out]; rfl, Below.refl _ _⟩
end Go.Proofs.YtdlahabeegmjiaaDoor

namespace Go.Proofs.YtdlahabeegmjiaaDoor
open Go.RowKit

set_option maxHeartbeats 400000 in
theorem good_any (b off cap : Nat) (s : ByteArray) (w : World) (hs : s.size ≤ 1048576) (hc : ∀ j, j < s.size → w.cell? ⟨b, off + j, none⟩ = some (bts s j)) :
    Calls Tryd.prog 58 #[.slice (some ⟨b, off, none⟩) s.size cap] w fun e w' => e = .returned (.bool (((chk s).1 : Int) == 0)) ∧ Below w.heap.size w w' := by
  have H0 := specCheck_any b off cap s w hs hc
  obtain ⟨A, D, hAD⟩ : ∃ A D, chk s = (A, D) := ⟨_, _, rfl⟩
  rw [pairVal_of hAD] at H0
  rw [hAD]
  have H := hide H0
  clear hc H0 hAD
  go_enter Tryd.func58, Tryd.ntmps58
  go_wp2_with (go_at_call 77; refine H.out.mono ?_; rintro e w1 ⟨rfl, hb1⟩)
  go_ret
  exact ⟨rfl, hb1⟩
end Go.Proofs.YtdlahabeegmjiaaDoor

namespace Go.Proofs.YtdlahabeegmjiaaDoor
open Go.RowKit

set_option maxHeartbeats 400000 in
theorem specCheck_none (a : Option Addr) (c : Nat) (w : World) :
    Calls Tryd.prog 77 #[.slice a 0 c] w fun e w' => e = .returned (.tuple #[.int .i64 0, .int .i64 0]) ∧ Below w.heap.size w w' := by
  go_enter Tryd.func77, Tryd.ntmps77
  go_wp2
  go_loopw [4] (fun i wr => i = .int .i64 0 ∧ wr = w) (fun _ _ => 0)
  case atStart => exact ⟨rfl, rfl⟩
  case round =>
    obtain ⟨rfl, rfl⟩ := hrel
    go_wp2
    go_ret2
    exact ⟨rfl, Below.refl _ _⟩

set_option maxHeartbeats 400000 in
theorem good_bs {w : World} {v : Value} {s : ByteArray} (hs : s.size ≤ 1048576) (h : BS w v s) :
    Calls Tryd.prog 58 #[v] w fun e w' => e = .returned (.bool (((chk s).1 : Int) == 0)) ∧ Below w.heap.size w w' := by
  obtain ⟨a, b, o, c, rfl, ha, hc⟩ := h
  by_cases h0 : 0 < s.size
  · obtain rfl := ha h0
    exact good_any b o c s w hs hc
  · have e : s = ByteArray.empty := ext_bytes (show s.size = 0 by omega) (fun j hj => by omega)
    subst e
    have H := hide (specCheck_none a c w)
    have e2 : (((chk ByteArray.empty).1 : Int) == 0) = true := by decide
    rw [e2]
    have e3 : ByteArray.empty.size = 0 := rfl
    rw [e3]
    clear ha hc h0 e2 e3 hs
    go_enter Tryd.func58, Tryd.ntmps58
    go_wp2_with (go_at_call 77; refine H.out.mono ?_; rintro e w1 ⟨rfl, hb1⟩)
    go_ret
    exact ⟨rfl, hb1⟩
end Go.Proofs.YtdlahabeegmjiaaDoor

namespace Go.Proofs.YtdlahabeegmjiaaDoor
open Go.RowKit

set_option maxHeartbeats 400000 in
set_option maxRecDepth 1000000 in
theorem letter_any (c : Nat) (w : World) (hc : c < 256) :
    Calls Tryd.prog 74 #[.int .u8 c] w fun e w' => e = .returned (.bool (isL c)) ∧ w' = w := by
  go_enter Tryd.func74, Tryd.ntmps74
  go_wp2
  all_goals go_ret
  all_goals exact ⟨ret_bool (by unfold isL; symm; first | (rw [decide_eq_true_iff]; omega) | (rw [decide_eq_false_iff_not]; omega) | (rw [Bool.eq_iff_iff]; simp; omega)), rfl⟩

set_option maxHeartbeats 400000 in
set_option maxRecDepth 1000000 in
theorem number_any (c : Nat) (w : World) (hc : c < 256) :
    Calls Tryd.prog 87 #[.int .u8 c] w fun e w' => e = .returned (.bool (isD c)) ∧ w' = w := by
  go_enter Tryd.func87, Tryd.ntmps87
  go_wp2
  all_goals go_ret
  all_goals exact ⟨ret_bool (by unfold isD; symm; first | (rw [decide_eq_true_iff]; omega) | (rw [decide_eq_false_iff_not]; omega) | (rw [decide_eq_decide]; omega)), rfl⟩

set_option maxHeartbeats 1000000 in
set_option maxRecDepth 1000000 in
theorem run_any (b off cap p : Nat) (s : ByteArray) (w : World) (hs : s.size ≤ 1048576) (hp : p ≤ s.size) (hc : ∀ j, j < s.size → w.cell? ⟨b, off + j, none⟩ = some (bts s j)) :
    Calls Tryd.prog 75 #[.slice (some ⟨b, off, none⟩) s.size cap, .int .i64 p] w fun e w' => e = .returned (.int .i64 (run s p)) ∧ w' = w := by
  have HC := hide hc
  clear hc
  go_enter Tryd.func75, Tryd.ntmps75
  go_wp2
  go_loopw [5] (fun ix wr => ∃ n : Nat, ix = .int .i64 n ∧ p + n ≤ s.size ∧ (∀ j, j < n → isR (s.get! (p + j)).toNat = true) ∧ wr = w) (fun ix _ => s.size - (intOf ix).toNat)
  case atStart => exact ⟨0, rfl, hp, fun j hj => absurd hj (Nat.not_lt_zero _), rfl⟩
  case round =>
    obtain ⟨n, rfl, hn, hall, rfl⟩ := hrel
    have HALL := hide hall
    clear hall
    by_cases hlt : p + n < s.size
    · have t0 : decide ((p : Int) + (n : Int) < (s.size : Int)) = true := decide_eq_true (by omega)
      have g1 : wr.cell? ⟨b, off + (p + n), none⟩ = some (.int .u8 ((s.get! (p + n)).toNat : Int)) := HC.out (p + n) hlt
      have b1 : (s.get! (p + n)).toNat < 256 := (s.get! (p + n)).toNat_lt
      obtain ⟨y, hy⟩ : ∃ y : Nat, (s.get! (p + n)).toNat = y := ⟨_, rfl⟩
      have HY := hide hy
      rw [hy] at g1 b1
      clear hy
      have HL := hide (fun w => letter_any y w b1)
      have HN := hide (fun w => number_any y w b1)
      cases hl : isL y with
      | true =>
        rw [hl] at HL
        have HR : Hid (isR (s.get! (p + n)).toNat = true) := by show _ = _; rw [HY.out, isR_iff]; exact .inl hl
        clear hl
        go_wp2_with fail
        refine (HL.out _).mono ?_
        rintro e w' ⟨rfl, rfl⟩
        go_wp2
        go_roundw
        case rel => exact ⟨n + 1, by go_num, by omega, fun j hj => by
          by_cases e : j = n
          · rw [e]; exact HR.out
          · exact HALL.out j (by omega), by first | rfl | trivial⟩
        case measure => simp [intOf]; omega
      | false =>
        rw [hl] at HL
        cases hd : isD y with
        | true =>
          rw [hd] at HN
          have HR : Hid (isR (s.get! (p + n)).toNat = true) := by show _ = _; rw [HY.out, isR_iff]; exact .inr hd
          clear hl hd
          go_wp2_with fail
          refine (HL.out _).mono ?_
          rintro e w' ⟨rfl, rfl⟩
          go_wp2_with fail
          refine (HN.out _).mono ?_
          rintro e w' ⟨rfl, rfl⟩
          go_wp2
          go_roundw
          case rel => exact ⟨n + 1, by go_num, by omega, fun j hj => by
            by_cases e : j = n
            · rw [e]; exact HR.out
            · exact HALL.out j (by omega), by first | rfl | trivial⟩
          case measure => simp [intOf]; omega
        | false =>
          rw [hd] at HN
          have HR : Hid (run s p = n) := run_is hn HALL.out (fun g => by
            rw [HY.out, isR_iff, hl, hd] at g
            rcases g.2 with h | h <;> cases h)
          clear hl hd
          go_wp2_with fail
          refine (HL.out _).mono ?_
          rintro e w' ⟨rfl, rfl⟩
          go_wp2_with fail
          refine (HN.out _).mono ?_
          rintro e w' ⟨rfl, rfl⟩
          go_wp2
          go_ret
          exact ⟨by rw [HR.out]; rfl, by first | rfl | trivial⟩
    · have t0 : decide ((p : Int) + (n : Int) < (s.size : Int)) = false := decide_eq_false (by omega)
      have HR : Hid (run s p = n) := run_is hn HALL.out (fun g => hlt g.1)
      go_wp2
      go_ret
      exact ⟨by rw [HR.out]; rfl, by first | rfl | trivial⟩
end Go.Proofs.YtdlahabeegmjiaaDoor

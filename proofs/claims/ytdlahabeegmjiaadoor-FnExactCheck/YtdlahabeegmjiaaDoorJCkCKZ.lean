/-
  Statements and blocks of spec.Check, all depths.
  The walk of spec.Check, by what spec.ValidTree answers and what a defined word does.
-/
import Derived.Test.YtdlahabeegmjiaaDoorJCkCKS
namespace Go.Proofs.YtdlahabeegmjiaaDoor
open Go.RowKit

theorem ck_all {w0 : World} {C : Nat} {tv : Value} {L : List Nd} (hT : vT L = true) (hl : L.length ≤ 4000) (hN : NS w0 tv L) : ∀ f, f ≤ 60 → CsC w0 C tv L f ∧ CbC w0 C tv L f
  | 0, _ => ⟨fun F i c vv U V _ hg => by obtain ⟨g, h⟩ := hg.pos; omega, fun F i c vv U V _ hg => by obtain ⟨g, h⟩ := hg.pos; omega⟩
  | f + 1, hf => by
    have ih := ck_all (C := C) hT hl hN f (by omega)
    exact ⟨ck_stat hT hl hN hf ih.1 ih.2, ck_block hl hN hf ih.1⟩
end Go.Proofs.YtdlahabeegmjiaaDoor

namespace Go.Proofs.YtdlahabeegmjiaaDoor
open Go.RowKit

/-- What a defined word does. -/
def CmC (w0 : World) (C : Nat) (tv : Value) (L : List Nd) : Prop := ∀ i c vv U V, Gd L 59 i → (ndA L i).kind = 1 → CkA w0 V C tv c vv U → c.vars.length ≤ 10000 → Calls Tryd.prog 12 #[.pointer (some ⟨C, 0, none⟩), .int .i64 (i : Nat)] V (StQ w0 C tv vv V (ckM L c i))
theorem ckTop_vars (L : List Nd) (c : Ck) (k : Nat) : ∃ t, (ckTop L c k).vars = c.vars ++ t ∧ t.length ≤ 1 := by
  unfold ckTop
  split
  · exact ⟨[], by rw [List.append_nil]; rfl, by simp⟩
  · exact ckS_vars L 61 c k

set_option maxHeartbeats 8000000 in
set_option maxRecDepth 1000000 in
theorem check_gen {w0 : World} {tv : Value} {L : List Nd} (hN : NS w0 tv L)
    (hV : Calls Tryd.prog 10 #[tv] w0 fun r w' => r = .returned (.bool (vT L)) ∧ Below w0.heap.size w0 w') (hM : ∀ C, vT L = true → CmC w0 C tv L) :
    Calls Tryd.prog 5 #[tv] w0 fun r w' => r = .returned (.tuple #[.int .i64 (if vT L then ckF L else (1, 0)).1, .int .i64 (if vT L then ckF L else (1, 0)).2]) ∧ Below w0.heap.size w0 w' := by
  obtain ⟨ta, tb, tq, tc, htv, hta, _⟩ := id hN
  subst htv
  have HN := hide hN
  have HV := hide hV
  have HM := hide hM
  cases hT : vT L with
  | false =>
    rw [hT] at HV
    clear hN hV hM hT hta
    go_enter Tryd.func5, Tryd.ntmps5
    go_wp2_with fail
    refine HV.out.mono ?_
    rintro r V ⟨rfl, hb⟩
    have HB := hide hb
    clear hb
    go_wp2
    go_ret2
    exact ⟨rfl, HB.out⟩
  | true =>
    rw [hT] at HV
    obtain ⟨hL0, hL4, hk0, hG⟩ := vT_good hT
    obtain rfl := hta (by omega)
    have HC := hide (fun (C : Nat) => ck_all (C := C) hT hL4 hN 59 (by omega))
    have HMT : Hid (∀ C, CmC w0 C (.slice (some ⟨tb, tq, none⟩) L.length tc) L) := fun C => HM.out C hT
    have hkg := (hG.step (by omega)).2.2.2.2
    have HGD : Hid (∀ (j k : Nat), (kidsOf L 0)[j]? = some k → Gd L 59 k ∧ j + 1 ≤ k ∧ k < L.length) := fun j k h => ⟨(hkg j k h).1, by have := (hG.kge (by omega) h).1; omega, (hG.kge (by omega) h).2⟩
    have HK := hide (fun (W : World) (hb : Below w0.heap.size w0 W) => kids_own (by omega) (by omega) hG (hN.below hb))
    have hKL := kds_le (by omega) hG
    have HE : Hid (ckF L = if 0 ≤ (ckAll (ckTop L) (kidsOf L 0) ⟨[], -1, -1⟩).names then (5, (ckAll (ckTop L) (kidsOf L 0) ⟨[], -1, -1⟩).names) else if 0 ≤ (ckAll (ckTop L) (kidsOf L 0) ⟨[], -1, -1⟩).types then (6, (ckAll (ckTop L) (kidsOf L 0) ⟨[], -1, -1⟩).types) else (0, 0)) := rfl
    obtain ⟨X, hX⟩ : ∃ X, kidsOf L 0 = X := ⟨_, rfl⟩
    obtain ⟨R, hR⟩ : ∃ R, ckAll (ckTop L) X ⟨[], -1, -1⟩ = R := ⟨_, rfl⟩
    rw [hX] at HGD hKL HE
    simp only [hX] at HK
    rw [hR] at HE
    have HR := hide hR
    simp only [if_true]
    obtain ⟨FF, hFF⟩ : ∃ x, ckF L = x := ⟨_, rfl⟩
    rw [hFF] at HE ⊢
    clear hN hV hM hT hta hG hkg hX hR hk0 HM hFF
    go_enter Tryd.func5, Tryd.ntmps5
    go_wp2_with fail
    refine HV.out.mono ?_
    rintro r V ⟨rfl, hb⟩
    have HB := hide hb
    obtain ⟨V2, hV2⟩ : ∃ W, World.alloc V (.cells #[.slice (some ⟨tb, tq, none⟩) L.length tc, .slice none 0 0, .int .i64 (-1), .int .i64 (-1)] 40) = W := ⟨_, rfl⟩
    have hb2 : Below w0.heap.size w0 V2 := by rw [← hV2]; exact hb.alloc hb.size _
    have HA2 : Hid (CkA w0 V2 V.heap.size (.slice (some ⟨tb, tq, none⟩) L.length tc) ⟨[], -1, -1⟩ (.slice none 0 0) []) := ⟨by rw [← hV2]; exact Blk.new _ _ _, VO.nil _ _ _, hb2, hb.size⟩
    have HKV := hide (HK.out V2 hb2)
    clear hb hb2
    go_wp2_with fail
    refine HKV.out.mono ?_
    rintro r V3 ⟨kv, rfl, hks, hb3⟩
    have hA3 := HA2.out.below hb3
    obtain ⟨ka, kc, rfl⟩ := own_sl hks
    have HKS := hide hks
    have HA3 := hide hA3
    obtain ⟨C, hC⟩ : ∃ C, V.heap.size = C := ⟨_, rfl⟩
    have HC2 : Hid (C < V2.heap.size) := by show _ < _; rw [← hC]; exact HA2.out.blk.lt
    rw [hC] at HA3 ⊢
    have HB3 : Hid (Below w0.heap.size w0 V3) := hA3.bl
    have HCL : Hid (w0.heap.size ≤ C) := HA3.out.lo
    clear hks hb3 hA3 HKV HA2 hV2 hC
    go_wp2_with fail
    go_loopw [6] (fun ix wr => ∃ k : Nat, k ≤ X.length ∧ ix = .int .i64 k ∧ ∃ cc vr Ur, Hid (ckAll (ckTop L) (X.drop k) cc = R ∧ cc.vars.length ≤ k ∧ CkA w0 wr C (.slice (some ⟨tb, tq, none⟩) L.length tc) cc vr Ur ∧ Gw (CkX C (.slice none 0 0)) V3 wr ∧ CkM V3 (.slice none 0 0) vr)) (fun ix _ => X.length - (intOf ix).toNat)
    case atStart => exact ⟨0, Nat.zero_le _, rfl, ⟨[], -1, -1⟩, _, _, by rw [List.drop_zero]; exact HR.out, Nat.le_refl _, HA3.out, Gw.refl _ _, CkM.refl _ _⟩
    case round =>
      obtain ⟨k, hk, rfl, cc, vr, Ur, HI⟩ := hrel
      rename World => V4
      by_cases hlt : k < X.length
      · have hlti : (k : Int) < (X.length : Int) := by omega
        obtain ⟨i', hi⟩ : ∃ i, X[k]? = some i := ⟨X[k], List.getElem?_eq_getElem hlt⟩
        obtain ⟨g, kc', e1, hgB, hcells⟩ := kid_at HKS.out (by omega)
        injection e1 with e1 _ e2
        subst e1 e2
        have hcell := HI.out.2.2.2.1.cell (hcells k i' hi) (fun q => by
          have h2 := HC2.out
          rcases q with q | q
          · have q : g = C := q
            omega
          · cases q)
        obtain ⟨hgd, hge, hil'⟩ := HGD.out k i' hi
        obtain ⟨b', o', c', vt', vn', vy', e2, hNC, _⟩ := HN.out.nod hil'
        injection e2 with e2 _ e3
        injection e2 with e2
        injection e2 with e2 e4
        subst e2 e3 e4
        have n0 := (hNC.below HI.out.2.2.1.bl).kind
        have hili' : (i' : Int) < (L.length : Int) := by omega
        have HS : Hid (∀ V5 vr' Ur', CkA w0 V5 C (.slice (some ⟨tb, tq, none⟩) L.length tc) (ckTop L cc i') vr' Ur' → Gw (CkX C vr) V4 V5 → CkM V4 vr vr' → ckAll (ckTop L) (X.drop (k + 1)) (ckTop L cc i') = R ∧ (ckTop L cc i').vars.length ≤ k + 1 ∧ CkA w0 V5 C (.slice (some ⟨tb, tq, none⟩) L.length tc) (ckTop L cc i') vr' Ur' ∧ Gw (CkX C (.slice none 0 0)) V3 V5 ∧ CkM V3 (.slice none 0 0) vr') := fun V5 vr' Ur' hA5 hG5 hM5 => by
          obtain ⟨h1, hvl, hA4, hG4, hM4⟩ := HI.out
          rw [ckAll_step hi] at h1
          obtain ⟨t', ht', htl'⟩ := ckTop_vars L cc i'
          exact ⟨h1, by rw [ht', List.length_append]; omega, hA5, CkX.trans hG4 hM4 hG5, hM4.trans hM5 hG4.size⟩
        have hvl := HI.out.2.1
        by_cases q1 : (ndA L i').kind = 1
        · have HCL2 := hide (HMT.out C i' cc vr Ur V4 hgd q1 HI.out.2.2.1 (by omega))
          have e7 : ckTop L cc i' = ckM L cc i' := by unfold ckTop; rw [if_pos q1]
          rw [← e7] at HCL2
          rw [q1] at n0
          clear hi hcells hgd hge hNC q1 e7 hvl
          go_wp2_with fail
          refine HCL2.out.mono ?_
          rintro r V5 ⟨rfl, vr', Ur', hA5, hG5, hM5⟩
          have HR' := hide (HS.out V5 vr' Ur' hA5 hG5 hM5)
          clear hA5 hG5 hM5 HI HS HCL2
          go_wp2
          go_roundw
          case rel => exact ⟨k + 1, by omega, by go_num, _, _, _, HR'⟩
          case measure => simp [intOf]; omega
        · have HCL2 := hide ((HC.out C).1 61 i' cc vr Ur V4 (by omega) hgd HI.out.2.2.1 (by omega))
          have e7 : ckTop L cc i' = ckS L 61 cc i' := by unfold ckTop; rw [if_neg q1]
          rw [← e7] at HCL2
          have t1 : ((ndA L i').kind == 1) = false := by rw [beq_eq_false_iff_ne]; exact q1
          obtain ⟨kk, hkk⟩ : ∃ x, (ndA L i').kind = x := ⟨_, rfl⟩
          rw [hkk] at n0 t1
          clear hi hcells hgd hge hNC q1 e7 hvl hkk
          go_wp2_with fail
          refine HCL2.out.mono ?_
          rintro r V5 ⟨rfl, vr', Ur', hA5, hG5, hM5⟩
          have HR' := hide (HS.out V5 vr' Ur' hA5 hG5 hM5)
          clear hA5 hG5 hM5 HI HS HCL2
          go_wp2
          go_roundw
          case rel => exact ⟨k + 1, by omega, by go_num, _, _, _, HR'⟩
          case measure => simp [intOf]; omega
      · obtain rfl : k = X.length := by omega
        have hge : ¬ (X.length : Int) < (X.length : Int) := by omega
        have h1 := HI.out.1
        rw [List.drop_length, ckAll] at h1
        subst h1
        have g2 := HI.out.2.2.1.blk.cell 2
        have g3 := HI.out.2.2.1.blk.cell 3
        simp only [List.getElem?_toArray, List.getElem?_cons_succ, List.getElem?_cons_zero] at g2 g3
        have HF := hide HI.out.2.2.1.bl
        by_cases q1 : 0 ≤ cc.names
        · have HQ1 : Hid (FF = (5, cc.names)) := by show _ = _; rw [HE.out, if_pos q1]
          go_wp2_with fail
          go_quiet (fail)
          go_wp2
          go_ret2
          exact ⟨by rw [HQ1.out]; rfl, below_drewN HF.out _⟩
        · have q1' : cc.names < 0 := by omega
          by_cases q2 : 0 ≤ cc.types
          · have HQ1 : Hid (FF = (6, cc.types)) := by show _ = _; rw [HE.out, if_neg q1, if_pos q2]
            go_wp2_with fail
            go_quiet (fail)
            go_wp2
            go_ret2
            exact ⟨by rw [HQ1.out]; rfl, below_drewN HF.out _⟩
          · have HQ1 : Hid (FF = (0, 0)) := by show _ = _; rw [HE.out, if_neg q1, if_neg q2]
            have q2' : cc.types < 0 := by omega
            go_wp2
            go_ret2
            exact ⟨by rw [HQ1.out]; rfl, HF.out⟩
end Go.Proofs.YtdlahabeegmjiaaDoor

/-
  Plainly and in memory: what statements bind; rows of variables cut short.
  The walk of spec.l3checkBlock, by what its statements do.
  Appends of variables, by their cells.
  Statements of spec.Check: what their walk needs.
  Goals that are alike, closed once.
-/
import Derived.Test.YtdlahabeegmjiaaDoorJCkCKX
import Derived.Test.YtdlahabeegmjiaaDoorJCkT
namespace Go.Proofs.YtdlahabeegmjiaaDoor
open Go.RowKit

theorem kds_ge {L : List Nd} {f : Nat} (hf : f ≤ 60) : ∀ c a e, sLoop (sE L.length (cn L) f) c a = some e → ∀ j k, (kds L c a)[j]? = some k → a + j ≤ k ∧ k < L.length
  | 0, _, _, _, j, k, h => by simp [kds] at h
  | c + 1, a, e, h1, j, k, h => by
    rw [sLoop] at h1
    cases hx : sE L.length (cn L) f a with
    | none => rw [hx] at h1; cases h1
    | some q =>
      rw [hx] at h1
      have hbr := sE_br _ _ _ _ _ hx
      have hlt := hbr.lt
      have hle := hbr.le
      cases j with
      | zero =>
        obtain rfl : a = k := by simpa [kds] using h
        exact ⟨Nat.le_refl _, by omega⟩
      | succ j =>
        have h3 : (kds L c q)[j]? = some k := by
          rw [kds] at h
          have e1 : nxT L.length (fun j => (ndA L j).count) a = q := nx_of hf hx
          rw [e1] at h
          simpa using h
        have := kds_ge hf c q e h1 j k h3
        exact ⟨by omega, this.2⟩
theorem Gd.kge {L : List Nd} {f i : Nat} (h : Gd L (f + 1) i) (hf : f + 1 ≤ 60) {j k : Nat} (hj : (kidsOf L i)[j]? = some k) : i + 1 + j ≤ k ∧ k < L.length := by
  obtain ⟨_, _, _, ⟨e, h4⟩, _⟩ := h.step hf
  exact kds_ge (by omega) _ _ e h4 j k hj
theorem tyAll_vars (L : List Nd) (f : Nat) : ∀ X c ts, (tyAll L f X c ts).2.vars = c.vars
  | [], _, _ => rfl
  | k :: X, c, ts => by
    rw [tyAll]
    split
    · rw [tyAll_vars L f X, tyO_vars]
    · rw [tyAll_vars L f X]
theorem ckT_vars (L : List Nd) (c : Ck) (i : Nat) (ts : List Int) : (ckT L c i ts).vars = c.vars := by
  unfold ckT
  repeat' split
  all_goals rfl
/-- A statement binds at most one more. -/
theorem ckS_vars (L : List Nd) : ∀ f c i, ∃ t, (ckS L f c i).vars = c.vars ++ t ∧ t.length ≤ 1
  | 0, c, i => ⟨[], by rw [ckS, List.append_nil], by simp⟩
  | f + 1, c, i => by
    rw [ckS]
    simp only
    split
    · exact ⟨[_], by rw [tyAll_vars], by simp⟩
    · split
      · exact ⟨[], by show (ckT L _ i _).vars = _; rw [ckT_vars, tyAll_vars, List.append_nil], by simp⟩
      · split
        · have e1 : ∀ k, (ckB L (ckS L f) (ckT L (tyAll L 61 (kidsOf L i) c []).2 i (tyAll L 61 (kidsOf L i) c []).1) k).vars = c.vars := fun k => by
            show (ckT L _ i _).vars = _
            rw [ckT_vars, tyAll_vars]
          split
          · obtain ⟨t, h1, h2⟩ := ckS_vars L f (ckB L (ckS L f) (ckT L (tyAll L 61 (kidsOf L i) c []).2 i (tyAll L 61 (kidsOf L i) c []).1) ((kidsOf L i).getD 1 0)) ((kidsOf L i).getD 2 0)
            exact ⟨t, by rw [h1, e1], h2⟩
          · split
            · exact ⟨[], by rw [List.append_nil]; exact e1 ((kidsOf L i).getD 1 0), by simp⟩
            · exact ⟨[], by rw [e1, List.append_nil], by simp⟩
        · exact ⟨[], by rw [ckT_vars, tyAll_vars, List.append_nil], by simp⟩
theorem ckAll_vars (L : List Nd) (f : Nat) : ∀ X c, ∃ t, (ckAll (ckS L f) X c).vars = c.vars ++ t ∧ t.length ≤ X.length
  | [], c => ⟨[], by rw [ckAll, List.append_nil], by simp⟩
  | k :: X, c => by
    rw [ckAll]
    obtain ⟨t1, h1, h2⟩ := ckS_vars L f c k
    obtain ⟨t2, h3, h4⟩ := ckAll_vars L f X (ckS L f c k)
    exact ⟨t1 ++ t2, by rw [h3, h1, List.append_assoc], by rw [List.length_append, List.length_cons]; omega⟩
theorem ckAll_step {st : Ck → Nat → Ck} {X : List Nat} {k i : Nat} {c : Ck} (h : X[k]? = some i) : ckAll st (X.drop k) c = ckAll st (X.drop (k + 1)) (st c i) := by
  have hlt : k < X.length := by
    rcases Nat.lt_or_ge k X.length with g | g
    · exact g
    · rw [List.getElem?_eq_none g] at h; cases h
  rw [List.drop_eq_getElem_cons hlt]
  have e : X[k] = i := by rw [List.getElem?_eq_getElem hlt] at h; injection h
  rw [e, ckAll]
theorem vrcs_take : ∀ (U : List Value) (vs : List Vr) (m : Nat), U.length = vs.length → (vrcs U vs).take (m * 5) = vrcs (U.take m) (vs.take m)
  | [], [], m, _ => by simp [vrcs]
  | u :: U, x :: vs, 0, _ => by simp [vrcs]
  | u :: U, x :: vs, m + 1, h => by
    have ih := vrcs_take U vs m (by simpa using h)
    show (x.cs u ++ vrcs U vs).take ((m + 1) * 5) = x.cs u ++ vrcs (U.take m) (vs.take m)
    rw [List.take_append, List.take_of_length_le (by show 5 ≤ _; omega), show (m + 1) * 5 - (x.cs u).length = m * 5 by show _ - 5 = _; omega, ih]
  | [], _ :: _, _, h => by simp at h
  | _ :: _, [], _, h => by simp at h
/-- A row of variables, cut short. -/
theorem VO.trunc {w0 V : World} {B n cap : Nat} {va : Option Addr} {vs : List Vr} {U : List Value} (h : VO w0 V B (.slice va n cap) vs U) {m : Nat} (hm : m ≤ vs.length) : VO w0 V B (.slice va m cap) (vs.take m) (U.take m) := by
  have hml : (vs.take m).length = m := by rw [List.length_take]; omega
  have hul : (U.take m).length = m := by rw [List.length_take, h.len]; omega
  refine ⟨?_, by rw [hml, hul], fun j x hj => ?_⟩
  · refine ⟨by rw [vrcs_len _ _ (by rw [hml, hul])], ?_⟩
    rw [hml]
    rcases h.own.2 with ⟨hv, h0⟩ | ⟨g, cap', cur, hv, hB, hg, hn, hc, hs, ht⟩
    · injection hv with e1 e2 e3
      left
      have : m = 0 := by omega
      subst this
      exact ⟨by rw [e1, e3], rfl⟩
    · injection hv with e1 e2 e3
      subst e3
      refine .inr ⟨g, cap, cur, by rw [e1], hB, hg, by omega, hc, hs, ?_⟩
      rw [← vrcs_take U vs m h.len, ← ht, List.take_take, Nat.min_eq_left (by omega)]
  · have hjl : j < m := by
      rcases Nat.lt_or_ge j m with q | q
      · exact q
      · rw [List.getElem?_eq_none (by rw [hml]; exact q)] at hj; cases hj
    rw [List.getElem?_take_of_lt hjl] at hj
    obtain ⟨u, h1, h2⟩ := h.nam j x hj
    exact ⟨u, by rw [List.getElem?_take_of_lt hjl]; exact h1, h2⟩
/-- What may change while statements are checked. -/
def CkX (C : Nat) (vv : Value) (k : Nat) : Prop := k = C ∨ vv.ownBlock = some k
/-- Where the variables' row may lie behind it. -/
def CkM (V : World) (vv vv' : Value) : Prop := vv'.ownBlock = vv.ownBlock ∨ ∃ k, vv'.ownBlock = some k ∧ V.heap.size ≤ k
theorem CkM.refl (V : World) (vv : Value) : CkM V vv vv := .inl rfl
theorem CkX.trans {C : Nat} {vv vv' : Value} {V V' V'' : World} (h : Gw (CkX C vv) V V') (m : CkM V vv vv') (k : Gw (CkX C vv') V' V'') : Gw (CkX C vv) V V'' :=
  h.trans k (fun j hj q => by
    rcases q with q | q
    · exact .inl q
    · rcases m with m | ⟨b, m, hb⟩
      · exact .inr (by rw [← m]; exact q)
      · rw [m] at q; injection q with q; omega)
theorem CkM.trans {V V' : World} {a b c : Value} (h : CkM V a b) (k : CkM V' b c) (hs : V.heap.size ≤ V'.heap.size) : CkM V a c := by
  rcases k with k | ⟨j, k, hj⟩
  · rcases h with h | ⟨i, h, hi⟩
    · exact .inl (by rw [k, h])
    · exact .inr ⟨i, by rw [k, h], hi⟩
  · exact .inr ⟨j, k, by omega⟩
theorem Gw.ckx {C : Nat} {vv : Value} {V V' : World} (h : Gw (· = C) V V') : Gw (CkX C vv) V V' := h.mono (fun _ _ q => .inl q)
/-- What a checking function leaves. -/
def StQ (w0 : World) (C : Nat) (tv : Value) (vv : Value) (V : World) (c : Ck) (r : Ending) (V' : World) : Prop :=
  r = .returned (.tuple #[]) ∧ ∃ vv' U', CkA w0 V' C tv c vv' U' ∧ Gw (CkX C vv) V V' ∧ CkM V vv vv'
/-- The variables' row is cut back to what was seen. -/
theorem CkA.cut {w0 V : World} {C : Nat} {tv : Value} {c : Ck} {va : Option Addr} {n cap : Nat} {U : List Value} (h : CkA w0 V C tv c (.slice va n cap) U) {vs : List (ByteArray × Int)} {t : List (ByteArray × Int)} (hv : c.vars = vs ++ t) : CkA w0 (V.setCell ⟨C, 1, none⟩ (.slice va vs.length cap)) C tv { c with vars := vs } (.slice va vs.length cap) (U.take vs.length) := by
  have h1 := h.vo.trunc (m := vs.length) (by rw [List.length_map, hv, List.length_append]; omega)
  have e1 : (c.vars.map vrOf).take vs.length = vs.map vrOf := by rw [hv, List.map_append, List.take_left' (by rw [List.length_map])]
  rw [e1] at h1
  exact ⟨h.blk.set 1 _, h1.gw (Gw.set V C 1 _) (fun k hk q => by have := (h1.own.lt k hk).1; omega), h.bl.setCell h.lo _, h.lo⟩
theorem own_cut {va : Option Addr} {n m cap : Nat} : (Value.slice va m cap).ownBlock = (Value.slice va n cap).ownBlock := by cases va <;> rfl
end Go.Proofs.YtdlahabeegmjiaaDoor

namespace Go.Proofs.YtdlahabeegmjiaaDoor
open Go.RowKit

/-- What a statement does; what a block does. -/
def CsC (w0 : World) (C : Nat) (tv : Value) (L : List Nd) (f : Nat) : Prop := ∀ F i c vv U V, f ≤ F → Gd L f i → CkA w0 V C tv c vv U → c.vars.length + 4000 ≤ 10000 + i → Calls Tryd.prog 13 #[.pointer (some ⟨C, 0, none⟩), .int .i64 (i : Nat)] V (StQ w0 C tv vv V (ckS L F c i))
def CbC (w0 : World) (C : Nat) (tv : Value) (L : List Nd) (f : Nat) : Prop := ∀ F i c vv U V, f ≤ F + 1 → Gd L f i → CkA w0 V C tv c vv U → c.vars.length + 4000 ≤ 10000 + i → Calls Tryd.prog 29 #[.pointer (some ⟨C, 0, none⟩), .int .i64 (i : Nat)] V (StQ w0 C tv vv V (ckB L (ckS L F) c i))
theorem CkA.own {w0 V : World} {C : Nat} {tv : Value} {c : Ck} {vv : Value} {U : List Value} (h : CkA w0 V C tv c vv U) : ∃ va cap, vv = .slice va c.vars.length cap ∧ c.vars.length ≤ cap ∧ ∀ k, vv.ownBlock = some k → C < k ∧ k < V.heap.size := by
  obtain ⟨a, cp, e⟩ := own_sl h.vo.own
  rw [List.length_map] at e
  refine ⟨a, cp, e, ?_, fun k hk => ?_⟩
  · have := h.vo.own.2
    rw [List.length_map] at this
    rcases this with ⟨h1, h0⟩ | ⟨g, cap, cur, hv, _, _, hn, _⟩
    · omega
    · rw [e] at hv; injection hv with _ _ hv; omega
  · have := h.vo.own.lt k hk
    omega
theorem kds_le {L : List Nd} {f i : Nat} (hf : f + 1 ≤ 60) (hg : Gd L (f + 1) i) : (kidsOf L i).length ≤ L.length := by
  obtain ⟨h1, _, _, ⟨e, h4⟩, _⟩ := hg.step hf
  rcases Nat.eq_zero_or_pos (kidsOf L i).length with q | q
  · omega
  · have hj : (kidsOf L i)[(kidsOf L i).length - 1]? = some ((kidsOf L i)[(kidsOf L i).length - 1]'(by omega)) := List.getElem?_eq_getElem (by omega)
    have := hg.kge hf hj
    omega

set_option maxHeartbeats 8000000 in
set_option maxRecDepth 1000000 in
theorem ck_block {w0 : World} {C : Nat} {tv : Value} {L : List Nd} {f : Nat} (hl : L.length ≤ 4000) (hN : NS w0 tv L) (hf : f + 1 ≤ 60) (IH : CsC w0 C tv L f) : CbC w0 C tv L (f + 1) := by
  intro F i c vv U V hF hg hA hv
  have hil := (hg.step hf).1
  have hkg := (hg.step hf).2.2.2.2
  have HGD : Hid (∀ (j k : Nat), (kidsOf L i)[j]? = some k → Gd L f k ∧ i + 1 + j ≤ k) := fun j k h => ⟨(hkg j k h).1, (hg.kge hf h).1⟩
  obtain ⟨tb, to, tc, _, _, _, htv, _, _⟩ := hN.nod hil
  subst htv
  obtain ⟨va, cap, hvv, hcap, hob⟩ := hA.own
  subst hvv
  have HK := hide (kids_own (by omega) hf hg (hN.below hA.bl))
  have hKL := kds_le hf hg
  have g0 := hA.blk.cell 0
  have g1 := hA.blk.cell 1
  simp only [List.getElem?_toArray, List.getElem?_cons_succ, List.getElem?_cons_zero] at g0 g1
  have hCl := hA.blk.lt
  obtain ⟨X, hX⟩ : ∃ X, kidsOf L i = X := ⟨_, rfl⟩
  rw [hX] at HK HGD hKL
  have HE : Hid (ckB L (ckS L F) c i = { ckAll (ckS L F) X c with vars := c.vars }) := by show _ = _; unfold ckB; rw [hX]
  obtain ⟨R, hR⟩ : ∃ R, ckAll (ckS L F) X c = R := ⟨_, rfl⟩
  rw [hR] at HE
  have HR0 := hide hR
  have HA := hide hA
  have HOB := hide hob
  have HIH := hide IH
  have HV := hide hv
  have HF := hide hF
  have hl2 : (c.vars.length : Int) ≤ 10000 := by omega
  obtain ⟨n, hn⟩ : ∃ n, c.vars.length = n := ⟨_, rfl⟩
  rw [hn] at hcap HA HOB HV g1 hl2 ⊢
  rw [HE.out]
  have HNN := hide hn
  clear hN hg hkg hA hX hR hob IH hv hF hn HE
  go_enter Tryd.func29, Tryd.ntmps29
  go_wp2_with fail
  refine HK.out.mono ?_
  rintro r V1 ⟨kv, rfl, hks, hb1⟩
  have hA1 := HA.out.below hb1
  obtain ⟨ka, kc, rfl⟩ := own_sl hks
  have HKS := hide hks
  have HB1 := hide hb1
  have HA1 := hide hA1
  clear hks hb1 HK HA hA1
  go_wp2_with fail
  go_loopw [6] (fun ix wr => ∃ k : Nat, k ≤ X.length ∧ ix = .int .i64 k ∧ ∃ cc vr Ur, Hid (ckAll (ckS L F) (X.drop k) cc = R ∧ (∃ t, cc.vars = c.vars ++ t ∧ t.length ≤ k) ∧ CkA w0 wr C (.slice (some ⟨tb, to, none⟩) L.length tc) cc vr Ur ∧ Gw (CkX C (.slice va n cap)) V1 wr ∧ CkM V1 (.slice va n cap) vr)) (fun ix _ => X.length - (intOf ix).toNat)
  case atStart => exact ⟨0, Nat.zero_le _, rfl, c, _, _, by rw [List.drop_zero]; exact HR0.out, ⟨[], by rw [List.append_nil], by simp⟩, HA1.out, Gw.refl _ _, CkM.refl _ _⟩
  case round =>
    obtain ⟨k, hk, rfl, cc, vr, Ur, HR⟩ := hrel
    rename World => V2
    by_cases hlt : k < X.length
    · have hlti : (k : Int) < (X.length : Int) := by omega
      obtain ⟨i', hi⟩ : ∃ i, X[k]? = some i := ⟨X[k], List.getElem?_eq_getElem hlt⟩
      obtain ⟨g, kc', e1, hgB, hcells⟩ := kid_at HKS.out (by omega)
      injection e1 with e1 _ e2
      subst e1 e2
      have hcell := HR.out.2.2.2.1.cell (hcells k i' hi) (fun q => by
        rcases q with q | q
        · have q : g = C := q
          omega
        · have := HOB.out _ q
          have : g < (World.heap V).size := this.2
          omega)
      obtain ⟨hgd, hge⟩ := HGD.out k i' hi
      have HS : Hid (Calls Tryd.prog 13 #[.pointer (some ⟨C, 0, none⟩), .int .i64 (i' : Nat)] V2 (StQ w0 C (.slice (some ⟨tb, to, none⟩) L.length tc) vr V2 (ckS L F cc i'))) := by
        obtain ⟨_, ⟨t, ht, htl⟩, hA2, _, _⟩ := HR.out
        refine HIH.out F i' cc vr Ur V2 (by have := HF.out; omega) hgd hA2 ?_
        rw [ht, List.length_append, HNN.out]
        have := HV.out
        omega
      have HI := hide hi
      clear hi hcells hgd hge
      go_wp2_with fail
      refine HS.out.mono ?_
      rintro r V3 ⟨rfl, vr', Ur', hA3, hG3, hM3⟩
      have HR' : Hid (ckAll (ckS L F) (X.drop (k + 1)) (ckS L F cc i') = R ∧ (∃ t, (ckS L F cc i').vars = c.vars ++ t ∧ t.length ≤ k + 1) ∧ CkA w0 V3 C (.slice (some ⟨tb, to, none⟩) L.length tc) (ckS L F cc i') vr' Ur' ∧ Gw (CkX C (.slice va n cap)) V1 V3 ∧ CkM V1 (.slice va n cap) vr') := by
        obtain ⟨h1, ⟨t, ht, htl⟩, hA2, hG2, hM2⟩ := HR.out
        rw [ckAll_step HI.out] at h1
        obtain ⟨t', ht', htl'⟩ := ckS_vars L F cc i'
        exact ⟨h1, ⟨t ++ t', by rw [ht', ht, List.append_assoc], by rw [List.length_append]; omega⟩, hA3, CkX.trans hG2 hM2 hG3, hM2.trans hM3 hG2.size⟩
      clear hA3 hG3 hM3 HR HS
      go_wp2
      go_roundw
      case rel => exact ⟨k + 1, by omega, by go_num, _, _, _, HR'⟩
      case measure => simp [intOf]; omega
    · obtain rfl : k = X.length := by omega
      have hge : ¬ (X.length : Int) < (X.length : Int) := by omega
      have HQ := HR.out
      obtain ⟨h1, ⟨t, ht, htl⟩, hA2, hG2, hM2⟩ := HQ
      rw [List.drop_length, ckAll] at h1
      subst h1
      obtain ⟨va', cap', hvv', hcap', _⟩ := hA2.own
      subst hvv'
      have g1' := hA2.blk.cell 1
      have f1' := hA2.blk.frozen 1
      simp only [List.getElem?_toArray, List.getElem?_cons_succ, List.getElem?_cons_zero] at g1'
      have hcut := hA2.cut ht
      have hnl : n ≤ cc.vars.length := by rw [ht, List.length_append, HNN.out]; omega
      have hnc : (n : Int) ≤ (cap' : Int) := by omega
      rw [HNN.out] at hcut
      have HC := hide hcut
      have HG := hide hG2
      have HM := hide hM2
      obtain ⟨m, hm⟩ : ∃ m, cc.vars.length = m := ⟨_, rfl⟩
      rw [hm] at g1' HM
      clear hcut hG2 hM2 hA2 ht htl hm hnl HR
      go_wp2
      refine bodyPost_ret (results_none rfl _ _ _) rfl ?_
      refine ⟨rfl, _, _, HC.out, ?_, ?_⟩
      · exact (Gw.of_below HB1.out).trans (Gw.trans HG.out (Gw.ckx (Gw.set V2 C 1 _)) (fun _ _ q => q)) (fun _ _ q => q)
      · rcases HM.out with q | ⟨b, q, hb⟩
        · exact .inl (by rw [← q]; exact own_cut)
        · exact .inr ⟨b, by rw [← q]; exact own_cut, by have := HB1.out.size; omega⟩
end Go.Proofs.YtdlahabeegmjiaaDoor

namespace Go.Proofs.YtdlahabeegmjiaaDoor
open Go.RowKit

theorem Tryd.infoGVr : (Tryd.prog.info? 67).map (fun i => (i.zero, i.size, i.bytes)) = some (some (.agg #[.slice none 0 0, .int .i64 0, .int .i64 0, .int .i64 0, .string .empty]), 5, 64) := by kernel_rfl
theorem wp_appGVr {ops : Array Oper} {rest : List Oper} {o : Oper} {a : Act} {Q : Exit → Act → World → Prop} {w : World} (hgd : o.guard = none) (s x : Operand)
    (ho : o.op = .call { callee := .builtin .append, args := #[s, x], argTypes := #[38, 38] }) (B : Nat) (v : Value) (n : Nat) (xs : List Value) (hs : a.eval s = v) (hown : w.ownsRow B 67 5 v n xs)
    (g f c m : Nat) (ys : List Value) (hx : a.eval x = .slice (some ⟨g, f, none⟩) m c) (hy : ys.length = m * 5) (hnews : ∀ j u, ys[j]? = some u → w.cell? ⟨g, f + j, none⟩ = some u) (hone : ∀ u ∈ ys, u.oneCell' = true) (hlen : n + m ≤ 10000000) (hbase : B ≤ w.heap.size)
    (h : ∀ v' w', w'.ownsRow B 67 5 v' (n + m) (xs ++ ys) → w.grownBy w' v.ownBlock → (v'.ownBlock = v.ownBlock ∨ v'.ownBlock = some w.heap.size) → wpList Tryd.prog ops Q rest (a.put o.dst v') w') : wpList Tryd.prog ops Q (o :: rest) a w := by
  obtain ⟨i0, hi, hz0, hz1, hz2⟩ := info_partsG Tryd.infoGVr
  refine wpList_append_own_at _ hgd s x 38 ho B 67 i0 _ 5 64 Tryd.underlying38 hi hz0 hz1 hz2 rfl (by decide) v n xs hs hown ⟨g, f, none⟩ m c ys hx hy (fun j u hj => ?_) hone (by unfold maxLen; omega) (by omega) hbase (fun v' w' h1 h2 _ h4 => h v' w' h1 h2 h4)
  have e : (⟨g, f, none⟩ : Addr).add j = ⟨g, f + j, none⟩ := by unfold Addr.add; split <;> simp_all
  rw [e]; exact hnews j u hj
theorem step_appGVr {ops : Array Oper} {o : Oper} {a : Act} {w : World} {K : Act → World → Prop} {Q : Exit → Act → World → Prop} {E : Prop} (hgd : o.guard = none) (s x : Operand)
    (ho : o.op = .call { callee := .builtin .append, args := #[s, x], argTypes := #[38, 38] }) (B : Nat) (v : Value) (n : Nat) (xs : List Value) (hs : a.eval s = v) (hown : w.ownsRow B 67 5 v n xs)
    (g f c m : Nat) (ys : List Value) (hx : a.eval x = .slice (some ⟨g, f, none⟩) m c) (hy : ys.length = m * 5) (hnews : ∀ j u, ys[j]? = some u → w.cell? ⟨g, f + j, none⟩ = some u) (hone : ∀ u ∈ ys, u.oneCell' = true) (hlen : n + m ≤ 10000000) (hbase : B ≤ w.heap.size)
    (h : ∀ v' w', w'.ownsRow B 67 5 v' (n + m) (xs ++ ys) → w.grownBy w' v.ownBlock → (v'.ownBlock = v.ownBlock ∨ v'.ownBlock = some w.heap.size) → K (a.put o.dst v') w') :
    if Region.wanted o (yielded ops a.tmps) = true then Oper.wp Tryd.prog o a w K Q else E := by
  have hw : Region.wanted o (yielded ops a.tmps) = true := by simp [Region.wanted, hgd]
  rw [if_pos hw]
  obtain ⟨i0, hi, hz0, hz1, hz2⟩ := info_partsG Tryd.infoGVr
  obtain ⟨v', w', hr, h2, h3, h4, h5⟩ := run_append_own_at (P := Tryd.prog) w B 38 o.type 67 i0 _ 5 64 Tryd.underlying38 hi hz0 hz1 hz2 rfl (by decide) v n xs hown ⟨g, f, none⟩ m c ys hy (fun j u hj => by
    have e : (⟨g, f, none⟩ : Addr).add j = ⟨g, f + j, none⟩ := by unfold Addr.add; split <;> simp_all
    rw [e]; exact hnews j u hj) hone (by unfold maxLen; omega) (by omega) hbase
  unfold Oper.wp execOp
  simp only [ho, resolve, invoke, builtin, Sem.run_bind, Sem.run_pure, Result.andThen_ok, List.map_toArray, List.map_cons, List.map_nil, hs, hx, hr]
  exact h v' w' h2 h3 h5
end Go.Proofs.YtdlahabeegmjiaaDoor

namespace Go.Proofs.YtdlahabeegmjiaaDoor
open Go.RowKit

theorem vrcs_snoc : ∀ (U : List Value) (vs : List Vr) (u : Value) (x : Vr), U.length = vs.length → vrcs (U ++ [u]) (vs ++ [x]) = vrcs U vs ++ x.cs u
  | [], [], u, x, _ => by simp [vrcs]
  | a :: U, b :: vs, u, x, h => by
    show b.cs a ++ vrcs (U ++ [u]) (vs ++ [x]) = (b.cs a ++ vrcs U vs) ++ x.cs u
    rw [vrcs_snoc U vs u x (by simpa using h), List.append_assoc]
  | [], _ :: _, _, _, h => by simp at h
  | _ :: _, [], _, _, h => by simp at h
/-- A checker, where other blocks change. -/
theorem CkA.gw2 {w0 V V' : World} {C : Nat} {tv : Value} {c : Ck} {vv : Value} {U : List Value} {P : Nat → Prop} (h : CkA w0 V C tv c vv U) (hg : Gw P V V') (hC : ¬ P C) (hv : ∀ k, vv.ownBlock = some k → ¬ P k) (h0 : ∀ k, k < w0.heap.size → ¬ P k) : CkA w0 V' C tv c vv U :=
  ⟨hg.blk h.blk hC, h.vo.gw hg hv, hg.below h.bl h.bl.size h0, h.lo⟩
/-- One more variable. -/
theorem CkA.app {w0 V V' : World} {C n : Nat} {tv : Value} {c : Ck} {vv v' u : Value} {U : List Value} (h : CkA w0 V C tv c vv U) (hn : c.vars.length = n) {x : ByteArray × Int} (hu : BS w0 u x.1) (hx : x.1.size ≤ 1048576) (ho : V'.ownsRow (C + 1) 67 5 v' (n + 1) (vrcs U (c.vars.map vrOf) ++ (vrOf x).cs u)) (hg : V.grownBy V' vv.ownBlock) :
    CkA w0 (V'.setCell ⟨C, 1, none⟩ v') C tv { c with vars := c.vars ++ [x] } v' (U ++ [u]) := by
  have hG : Gw (fun k => vv.ownBlock = some k) V V' := Gw.of_grown hg (fun _ hk _ => hk)
  have hlt := fun k hk => (h.vo.own.lt k hk).1
  refine ⟨(hG.blk h.blk (fun q => by have := hlt _ q; omega)).set 1 _, ⟨?_, ?_, fun j y hj => ?_⟩, (hG.below h.bl h.bl.size (fun k hk q => by have := hlt _ q; have := h.lo; omega)).setCell h.lo _, h.lo⟩
  · have e1 : (c.vars ++ [x]).map vrOf = c.vars.map vrOf ++ [vrOf x] := by rw [List.map_append]; rfl
    show World.ownsRow _ _ _ _ _ ((c.vars ++ [x]).map vrOf).length _
    rw [e1, vrcs_snoc _ _ _ _ h.vo.len, List.length_append, List.length_map, hn]
    exact (Gw.set V' C 1 v').own ho (fun k hk q => by have := (ho.lt k hk).1; omega)
  · show _ = ((c.vars ++ [x]).map vrOf).length
    rw [List.length_map, List.length_append, List.length_append, h.vo.len, List.length_map]; rfl
  · have hj : ((c.vars ++ [x]).map vrOf)[j]? = some y := hj
    rw [List.map_append] at hj
    have hl := h.vo.len
    rcases Nat.lt_or_ge j (c.vars.map vrOf).length with q | q
    · rw [List.getElem?_append_left q] at hj
      obtain ⟨z, h1, h2⟩ := h.vo.nam j y hj
      exact ⟨z, by rw [List.getElem?_append_left (by omega)]; exact h1, h2⟩
    · rw [List.getElem?_append_right q] at hj
      have hj0 : j - (c.vars.map vrOf).length = 0 := by
        rcases Nat.eq_zero_or_pos (j - (c.vars.map vrOf).length) with z | z
        · exact z
        · rw [List.getElem?_eq_none (by show 1 ≤ _; omega)] at hj; cases hj
      rw [hj0] at hj
      have hy : y = vrOf x := by
        have : ([x].map vrOf)[0]? = some (vrOf x) := rfl
        rw [this] at hj; injection hj with hj; exact hj.symm
      subst hy
      exact ⟨u, by rw [List.getElem?_append_right (by omega), show j - U.length = 0 by omega]; rfl, hu, hx⟩
theorem tyAll_step {L : List Nd} {f : Nat} {X : List Nat} {k i : Nat} {c : Ck} {ts : List Int} (h : X[k]? = some i) : tyAll L f (X.drop k) c ts = if isExpr (ndA L i).kind = true then tyAll L f (X.drop (k + 1)) (tyO L f c i).2 (ts ++ [(tyO L f c i).1]) else tyAll L f (X.drop (k + 1)) c ts := by
  have hlt : k < X.length := by
    rcases Nat.lt_or_ge k X.length with g | g
    · exact g
    · rw [List.getElem?_eq_none g] at h; cases h
  rw [List.drop_eq_getElem_cons hlt]
  have e : X[k] = i := by rw [List.getElem?_eq_getElem hlt] at h; injection h
  rw [e, tyAll]
  by_cases q : isExpr (ndA L i).kind = true
  · have q' := q
    unfold isExpr at q
    rw [Bool.and_eq_true, decide_eq_true_eq, decide_eq_true_eq] at q
    rw [if_pos q, if_pos q']
  · have q' := q
    unfold isExpr at q
    rw [Bool.and_eq_true, decide_eq_true_eq, decide_eq_true_eq] at q
    rw [if_neg q, if_neg q']
theorem tyAll_le (L : List Nd) (f : Nat) : ∀ X c ts, ts.length ≤ (tyAll L f X c ts).1.length
  | [], _, _ => Nat.le_refl _
  | k :: X, c, ts => by
    rw [tyAll]
    split
    · have := tyAll_le L f X (tyO L f c k).2 (ts ++ [(tyO L f c k).1])
      rw [List.length_append] at this
      omega
    · exact tyAll_le L f X c ts
/-- Where the first kid is an expression, there is a type. -/
theorem tyAll_pos {L : List Nd} {f k : Nat} {X : List Nat} {c : Ck} (h : X[0]? = some k) (hk : isExpr (ndA L k).kind = true) : 0 < (tyAll L f X c []).1.length := by
  have := tyAll_step (L := L) (f := f) (c := c) (ts := []) h
  rw [List.drop_zero, if_pos hk] at this
  rw [this]
  have := tyAll_le L f (X.drop (0 + 1)) (tyO L f c k).2 ([] ++ [(tyO L f c k).1])
  simp only [List.nil_append, List.length_singleton] at this
  exact this
/-- The kids of the statements that have some of their own. -/
theorem Gd.first {L : List Nd} {f i : Nat} (h : Gd L (f + 1) i) (hf : f + 1 ≤ 60) (hk : (ndA L i).kind = 3 ∨ (ndA L i).kind = 6 ∨ (ndA L i).kind = 14 ∨ (ndA L i).kind = 15) : ∃ k, (kidsOf L i)[0]? = some k ∧ isExpr (ndA L k).kind = true := by
  have h1 := (h.fld hf).1
  have hl : 0 < (kidsOf L i).length := by
    rw [kids_len]
    unfold vCnt at h1
    rcases hk with c | c | c | c
    all_goals (rw [c] at h1; simp at h1; omega)
  refine ⟨(kidsOf L i)[0], List.getElem?_eq_getElem hl, ?_⟩
  have h2 := ((h.step hf).2.2.2.2 0 _ (List.getElem?_eq_getElem hl)).2
  have h3 : mSt (ndA L i).kind (0 : Nat) (ndA L ((kidsOf L i)[0])).kind = true := h2
  unfold mSt at h3
  rcases hk with c | c | c | c
  all_goals (rw [c] at h3; simpa using h3)
theorem Gd.nmle {L : List Nd} {f i : Nat} (h : Gd L f i) (hf : f ≤ 60) : ∀ nm ∈ (ndA L i).names, nm.size ≤ 30 := by
  obtain ⟨g, rfl⟩ := h.pos
  have h1 := (h.step hf).2.1
  unfold okN vFd vNs at h1
  simp only [Bool.and_eq_true, decide_eq_true_eq, beq_iff_eq] at h1
  have h2 := h1.1.2.2.2.2.2
  rw [List.all_eq_true] at h2
  intro nm hnm
  have := h2 nm hnm
  unfold vNm at this
  simp only [Bool.and_eq_true, decide_eq_true_eq] at this
  exact this.1
theorem Gd.nm0le {L : List Nd} {f i : Nat} (h : Gd L f i) (hf : f ≤ 60) (h0 : 0 < (ndA L i).names.length) : ((ndA L i).names.getD 0 .empty).size ≤ 1048576 := by
  have e : (ndA L i).names.getD 0 .empty = (ndA L i).names[0] := by rw [List.getD_eq_getElem?_getD, List.getElem?_eq_getElem h0]; rfl
  rw [e]
  have := h.nmle hf _ (List.getElem_mem h0)
  omega
theorem Gd.for3 {L : List Nd} {f i : Nat} (h : Gd L f i) (hf : f ≤ 60) (hk : (ndA L i).kind = 5) : (kidsOf L i).length = 3 := by
  have h1 := (h.fld hf).1
  rw [kids_len]
  unfold vCnt at h1
  rw [hk] at h1; simp at h1; omega
theorem Gd.if23 {L : List Nd} {f i : Nat} (h : Gd L f i) (hf : f ≤ 60) (hk : (ndA L i).kind = 6) : (kidsOf L i).length = 2 ∨ (kidsOf L i).length = 3 := by
  have h1 := (h.fld hf).1
  rw [kids_len]
  unfold vCnt at h1
  rw [hk] at h1; simp at h1; omega
end Go.Proofs.YtdlahabeegmjiaaDoor

namespace Go.Proofs.YtdlahabeegmjiaaDoor
open Go.RowKit

theorem key_rest {T G : Prop} (rest : Hid T → G) (key : T) : G := rest (hide key)
end Go.Proofs.YtdlahabeegmjiaaDoor

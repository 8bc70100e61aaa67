/-
  The walk of impl's block, by what statements do.
  The walk of impl's branches.
-/
import Derived.Test.YtdlahabeegmjiaaDoorJCkIKY
namespace Go.Proofs.YtdlahabeegmjiaaDoor
open Go.RowKit

theorem xI_vars (L : List Nd) (F : Nat) (s : Ci) (i : Nat) : (xI L F s i).2.vars = s.vars := (xI_keep L F s i).1
theorem fitI_vars (L : List Nd) (F : Nat) (s : Ci) (i : Nat) (X : List Nat) : (fitI L (xI L F) s i X).2.vars = s.vars := (fitI_keep L F s i X).1
/-- A statement binds at most one more, and all is short. -/
theorem iS_vars {L : List Nd} : ∀ f, f ≤ 60 → ∀ F i s, f ≤ F → Gd L f i → ∃ t, (iS L F s i).vars = s.vars ++ t ∧ t.length ≤ 1 ∧ ∀ v ∈ t, v.1.size ≤ 1000
  | 0, _, F, i, s, _, hg => by obtain ⟨g, h⟩ := hg.pos; omega
  | f + 1, hf, F0, i, s, hF, hg => by
    obtain ⟨F, rfl⟩ : ∃ F, F0 = F + 1 := ⟨F0 - 1, by omega⟩
    rw [iS]
    by_cases q3 : (ndA L i).kind = 3
    · rw [if_pos q3]
      refine ⟨[_], by show _ ++ _ = _; rw [xI_vars], by simp, fun v hv => ?_⟩
      rw [List.mem_singleton.1 hv]
      have hnl := hg.name hf (.inl q3)
      have := hg.nmle hf ((ndA L i).names.getD 0 .empty) (by rw [List.getD_eq_getElem?_getD, List.getElem?_eq_getElem (by omega)]; exact List.getElem_mem _)
      show ((ndA L i).names.getD 0 .empty).size ≤ 1000
      omega
    rw [if_neg q3]
    by_cases q4 : (ndA L i).kind = 4
    · rw [if_pos q4]
      refine ⟨[], ?_, by simp, fun v hv => by cases hv⟩
      rw [fitI_vars, List.append_nil]
      split <;> rfl
    rw [if_neg q4]
    by_cases q5 : (ndA L i).kind = 5
    · rw [if_pos q5]
      exact ⟨[], by show (fitI L (xI L 61) s i _).2.vars = _; rw [fitI_vars, List.append_nil], by simp, fun v hv => by cases hv⟩
    rw [if_neg q5]
    by_cases q6 : (ndA L i).kind = 6
    · rw [if_pos q6]
      have hmem := hg.mem hf
      have hl23 := hg.if23 hf q6
      match hk : kidsOf L i, hl23 with
      | [k0, k1], _ =>
        rw [hk] at hmem
        have m1 := hmem 1 k1 rfl
        rw [q6] at m1
        have x1 : (ndA L k1).kind = 2 := by have := m1.2; unfold mSt at this; simpa using this
        refine ⟨[], ?_, by simp, fun v hv => by cases hv⟩
        show (iBr L (iS L F) (fitI L (xI L 61) s i [k0]).2 k1).vars = _
        unfold iBr
        rw [if_neg (by rw [x1]; omega)]
        show (fitI L (xI L 61) s i [k0]).2.vars = _
        rw [fitI_vars, List.append_nil]
      | [k0, k1, k2], _ =>
        rw [hk] at hmem
        have m1 := hmem 1 k1 rfl
        have m2 := hmem 2 k2 rfl
        rw [q6] at m1
        have x1 : (ndA L k1).kind = 2 := by have := m1.2; unfold mSt at this; simpa using this
        show ∃ t, (iBr L (iS L F) (iBr L (iS L F) (fitI L (xI L 61) s i [k0]).2 k1) k2).vars = _ ∧ _
        have e1 : (iBr L (iS L F) (fitI L (xI L 61) s i [k0]).2 k1).vars = s.vars := by
          unfold iBr
          rw [if_neg (by rw [x1]; omega)]
          show (fitI L (xI L 61) s i [k0]).2.vars = _
          rw [fitI_vars]
        generalize iBr L (iS L F) (fitI L (xI L 61) s i [k0]).2 k1 = s1 at e1
        unfold iBr
        split
        · obtain ⟨t, h1, h2⟩ := iS_vars f (by omega) F k2 s1 (by omega) m2.1
          exact ⟨t, by rw [h1, e1], h2⟩
        · exact ⟨[], by show s1.vars = _; rw [e1, List.append_nil], by simp, fun v hv => by cases hv⟩
    rw [if_neg q6]
    exact ⟨[], by rw [fitI_vars, List.append_nil], by simp, fun v hv => by cases hv⟩
theorem iAll_step {st : Ci → Nat → Ci} {X : List Nat} {k i : Nat} {s : Ci} (h : X[k]? = some i) : iAll st (X.drop k) s = iAll st (X.drop (k + 1)) (st s i) := by
  have hlt : k < X.length := by
    rcases Nat.lt_or_ge k X.length with g | g
    · exact g
    · rw [List.getElem?_eq_none g] at h; cases h
  rw [List.drop_eq_getElem_cons hlt]
  have e : X[k] = i := by rw [List.getElem?_eq_getElem hlt] at h; injection h
  rw [e, iAll]
/-- What a function that may bind leaves; b bounds its bindings. -/
def SQ (w1 : World) (tv : Value) (L : List Nd) (B MM C S M : Nat) (bv : Value) (V : World) (s : Ci) (b : Nat) (r : Ending) (V' : World) : Prop :=
  r = .returned (.tuple #[]) ∧ ∃ bv' n', CiA w1 V' tv L B MM C S M s bv' n' ∧ n' + s.vars.length ≤ b ∧ Gw (CiX C S M bv) V V' ∧ CkM V bv bv'
/-- What a statement does; what a block does. -/
def IsC (w1 : World) (tv : Value) (L : List Nd) (B MM C f : Nat) : Prop := ∀ F i e S M s bv n V K, f ≤ F → Gd L f i → sE L.length (cn L) f i = some e → 3 ≤ (ndA L i).kind → (ndA L i).kind ≤ 15 → CiA w1 V tv L B MM C S M s bv n → n + s.vars.length ≤ 2 * i + K → K ≤ 1000 →
  Calls Tryd.prog 40 #[.pointer (some ⟨C, 0, none⟩), .int .i64 (i : Nat)] V (SQ w1 tv L B MM C S M bv V (iS L F s i) (2 * e + K))
def IbC (w1 : World) (tv : Value) (L : List Nd) (B MM C f : Nat) : Prop := ∀ F i e S M s bv n V K un ut ps ts, f ≤ F + 1 → Gd L f i → sE L.length (cn L) f i = some e → (ndA L i).kind = 2 → CiA w1 V tv L B MM C S M s bv n → (∀ W', Gw (ScX S M bv) V W' → SS W' un ps ∧ IS W' ut ts) → (∀ p ∈ ps, p.size ≤ 1000) → ps.length = ts.length → n + s.vars.length + 2 * ps.length ≤ 2 * i + K → K ≤ 1000 →
  Calls Tryd.prog 52 #[.pointer (some ⟨C, 0, none⟩), .int .i64 (i : Nat), un, ut] V (SQ w1 tv L B MM C S M bv V (iB L (iS L F) s i (ps.zip ts)) (2 * e + K))
/-- Names were bound. -/
theorem CiA.bound {w1 V V' : World} {tv : Value} {L : List Nd} {B MM C S M n n' : Nat} {s : Ci} {bv bv' : Value} {vs : List (ByteArray × Int)} (h : CiA w1 V tv L B MM C S M s bv n) (hs : ScA V' S M bv' vs n') (hg : Gw (ScX S M bv) V V') (hm : CkM V bv bv') : CiA w1 V' tv L B MM C S M { s with vars := vs } bv' n' := by
  refine ⟨hg.blk h.blk (fun q => h.cx _ q rfl), hs, hg.below h.bl h.bl.size (fun k hk q => by have := (h.xlt k (.inr q)).1; omega), h.lm, h.lc, fun k hk q => ?_⟩
  rcases hk with hk | hk | hk
  · exact h.cx k (.inl hk) q
  · exact h.cx k (.inr (.inl hk)) q
  · rcases hm with m | ⟨b, m, hb⟩
    · exact h.cx k (.inr (.inr (by rw [← m]; exact hk))) q
    · rw [m] at hk
      injection hk with hk
      have := h.blk.lt
      omega
theorem CiX.trans {C S M : Nat} {bv bv' : Value} {V V' V'' : World} (h : Gw (CiX C S M bv) V V') (m : CkM V bv bv') (k : Gw (CiX C S M bv') V' V'') : Gw (CiX C S M bv) V V'' :=
  h.trans k (fun j hj q => by
    rcases q with q | q | q | q
    · exact .inl q
    · exact .inr (.inl q)
    · exact .inr (.inr (.inl q))
    · rcases m with m | ⟨b, m, hb⟩
      · exact .inr (.inr (.inr (by rw [← m]; exact q)))
      · rw [m] at q; injection q with q; omega)
theorem Gw.cix {C S M : Nat} {bv : Value} {V V' : World} (h : Gw (ScX S M bv) V V') : Gw (CiX C S M bv) V V' := h.mono (fun _ _ q => .inr q)
theorem Gw.cic {C S M : Nat} {bv : Value} {V V' : World} (h : Gw (· = C) V V') : Gw (CiX C S M bv) V V' := h.mono (fun _ _ q => .inl q)

/-- A block under way. -/
structure BlI (w1 : World) (tv : Value) (L : List Nd) (B MM C S M f F e K : Nat) (bv : Value) (V : World) (s : Ci) (X : List Nat) (R : Ci) (k a : Nat) (s' : Ci) (bv' : Value) (n' : Nat) (wr : World) : Prop where
  run : iAll (iS L F) (X.drop k) s' = R
  pos : Lk L f (X.drop k) a e
  vars : ∃ t, s'.vars = s.vars ++ t ∧ ∀ v ∈ t, v.1.size ≤ 1000
  chk : CiA w1 wr tv L B MM C S M s' bv' n'
  bud : n' + s'.vars.length ≤ 2 * a + K
  gw : Gw (CiX C S M bv) V wr
  ckm : CkM V bv bv'

set_option maxHeartbeats 4000000 in
set_option maxRecDepth 1000000 in
theorem i_block {w1 : World} {tv : Value} {L : List Nd} {B MM C f : Nat} (hR : OlR w1 tv L B MM) (hf : f + 1 ≤ 60) (IH : IsC w1 tv L B MM C f) : IbC w1 tv L B MM C (f + 1) := by
  intro F i e S M s bv n V K un ut ps ts hF hg he hk2 hA hs hp hpt hb hK
  have hil := (hg.step hf).1
  have hili : (i : Int) < (L.length : Int) := by omega
  have hL4 := (vT_good hR.vt).2.1
  have hlk := Gd.lk hf he
  have hel := (sE_br _ _ _ _ _ he).le
  have HEN := hide (enter_any hA.sc hs hp (by omega) (by omega))
  have c3 := hA.blk.cell 3
  simp only [List.getElem?_toArray, List.getElem?_cons_succ, List.getElem?_cons_zero] at c3
  have HA := hide hA
  have HR := hide hR
  have HIH := hide IH
  have HG := hide hg
  obtain ⟨⟨_, _, _, _, hun, _, _⟩, ⟨_, _, _, _, hut, _, _⟩⟩ := hs V (Gw.refl _ _)
  subst hun hut
  have HPT := hide hpt
  have hkg := (HG.out.step hf).2.2.2.2
  have HGD : Hid (∀ (j k : Nat), (kidsOf L i)[j]? = some k → Gd L f k ∧ 3 ≤ (ndA L k).kind ∧ (ndA L k).kind ≤ 15) := fun j k h => by
    obtain ⟨h1, h2⟩ := HG.out.mem hf j k h
    rw [hk2] at h2
    exact ⟨h1, mSt_st h2⟩
  obtain ⟨ka, kc, hk1, hkI, _⟩ := HR.out.row hil
  have hX4 : (kidsOf L i).length ≤ 4000 := Nat.le_trans (kds_le hf HG.out) hL4
  obtain ⟨X, hX⟩ : ∃ X, kidsOf L i = X := ⟨_, rfl⟩
  have HX := hide hX
  rw [hX] at HGD hk1 hkI hlk hX4
  have HLK := hide hlk
  have HZP : Hid (∀ v ∈ ps.zip ts, v.1.size ≤ 1000) := fun v hv => hp v.1 (List.of_mem_zip hv).1
  have HZL : Hid ((ps.zip ts).length = ps.length) := by show _ = _; rw [List.length_zip]; omega
  have HE : Hid (iB L (iS L F) s i (ps.zip ts) = { iAll (iS L F) X { s with vars := s.vars ++ ps.zip ts } with vars := s.vars }) := by show _ = _; unfold iB; rw [hX]
  rw [HE.out]
  obtain ⟨Z, hZ⟩ : ∃ Z, ps.zip ts = Z := ⟨_, rfl⟩
  rw [hZ] at HEN HZP HZL
  rw [hZ]
  obtain ⟨R, hRR⟩ : ∃ R, iAll (iS L F) X { s with vars := s.vars ++ Z } = R := ⟨_, rfl⟩
  have HRR := hide hRR
  rw [hRR]
  clear hA hR IH hs hg hpt hX hkg hk2 hlk hp HE hZ hRR he
  go_enter Tryd.func52, Tryd.ntmps52
  go_wp2_with fail
  refine HEN.out.mono ?_
  rintro r V1 ⟨rfl, bv1, hS1, hG1, hM1⟩
  have hA1 := HA.out.bound hS1 hG1 hM1
  have d1 := hA1.blk.cell 1
  have d3 := hA1.blk.cell 3
  simp only [List.getElem?_toArray, List.getElem?_cons_succ, List.getElem?_cons_zero] at d1 d3
  have k1 := cell_kept hk1 hA1.bl
  have HA1 := hide hA1
  have HG1 : Hid (Gw (CiX C S M bv) V V1) := hG1.cix
  have HM1 := hide hM1
  obtain ⟨ka', kb, ko, kc', e1, hka, hkc⟩ := hkI
  rw [List.length_map] at e1 hka hkc
  injection e1 with e1 _ e2
  subst e1 e2
  have HKC := hide hkc
  have HST : Hid (BlI w1 tv L B MM C S M f F e K bv V s X R 0 (i + 1) { s with vars := s.vars ++ Z } bv1 (n + ps.length) V1) := ⟨by rw [List.drop_zero]; exact HRR.out, by rw [List.drop_zero]; exact HLK.out, ⟨Z, rfl, HZP.out⟩, HA1.out, by show _ + (s.vars ++ Z).length ≤ _; rw [List.length_append, HZL.out]; omega, HG1.out, HM1.out⟩
  clear hS1 hG1 hM1 hA1 HEN hk1 hkc c3 d3 HA1 HG1 HM1
  go_wp2_with fail
  go_loopw [10, 27] (fun _ ix wr => ∃ k : Nat, k ≤ X.length ∧ ix = .int .i64 k ∧ ∃ a s' bv' n', Hid (BlI w1 tv L B MM C S M f F e K bv V s X R k a s' bv' n' wr)) (fun _ ix _ => X.length - (intOf ix).toNat)
  case atStart => exact ⟨0, Nat.zero_le _, rfl, _, _, _, _, HST⟩
  case round =>
    obtain ⟨k, hk, rfl, a, s', bv', n', HI⟩ := hrel
    rename World => V2
    by_cases hlt : k < X.length
    · have hlti : (k : Int) < (X.length : Int) := by omega
      have hpos := HI.out.pos
      rw [List.drop_eq_getElem_cons hlt] at hpos
      obtain ⟨hak, q, hq, hpos2⟩ := hpos
      have hak2 : X[k]? = some a := by rw [List.getElem?_eq_getElem hlt, ← hak]
      rw [← hak] at hq
      obtain ⟨hg, h3, h15⟩ := HGD.out k a hak2
      obtain rfl := hka (by omega)
      have x0 := cell_kept (HKC.out k hlt) HI.out.chk.bl
      have e1 : (X.map fun (k : Nat) => (k : Int)).getD k 0 = (a : Int) := by rw [List.getD_eq_getElem?_getD, List.getElem?_map, hak2]; rfl
      rw [e1] at x0
      have HCL := hide (HIH.out F a q S M s' bv' n' V2 K (by omega) hg hq h3 h15 HI.out.chk HI.out.bud hK)
      have HNX : Hid (∀ V3 bv3 n3, CiA w1 V3 tv L B MM C S M (iS L F s' a) bv3 n3 → n3 + (iS L F s' a).vars.length ≤ 2 * q + K → Gw (CiX C S M bv') V2 V3 → CkM V2 bv' bv3 → BlI w1 tv L B MM C S M f F e K bv V s X R (k + 1) q (iS L F s' a) bv3 n3 V3) := fun V3 bv3 n3 hA3 hb3 hG3 hM3 => by
        obtain ⟨t, ht, htz⟩ := HI.out.vars
        obtain ⟨t2, ht2, _, htz2⟩ := iS_vars f (by omega) F a s' (by omega) hg
        exact ⟨by rw [← iAll_step hak2]; exact HI.out.run, hpos2, ⟨t ++ t2, by rw [ht2, ht, List.append_assoc], fun v hv => (List.mem_append.1 hv).elim (htz v) (htz2 v)⟩, hA3, hb3, CiX.trans HI.out.gw HI.out.ckm hG3, HI.out.ckm.trans hM3 HI.out.gw.size⟩
      obtain ⟨y, hy⟩ : ∃ y, iS L F s' a = y := ⟨_, rfl⟩
      rw [hy] at HCL HNX
      clear hak hak2 hpos2 hq hg h3 h15 e1 hy
      go_wp2_with fail
      refine HCL.out.mono ?_
      rintro r V3 ⟨rfl, bv3, n3, hA3, hb3, hG3, hM3⟩
      have HR3 := hide (HNX.out V3 bv3 n3 hA3 hb3 hG3 hM3)
      clear hA3 hb3 hG3 hM3 HNX HCL HI
      go_wp2
      go_roundw
      case rel => exact ⟨k + 1, by omega, by go_num, _, _, _, _, HR3⟩
      case measure => simp [intOf]; omega
    · obtain rfl : k = X.length := by omega
      have hge : ¬ (X.length : Int) < (X.length : Int) := by omega
      have hrun := HI.out.run
      have hpos := HI.out.pos
      rw [List.drop_length] at hrun hpos
      have hae : a = e := hpos
      have hrun : s' = R := hrun
      subst hae hrun
      obtain ⟨t, ht, htz⟩ := HI.out.vars
      have hbud := HI.out.bud
      have hSC := HI.out.chk.sc
      rw [ht] at hSC
      rw [ht, List.length_append] at hbud
      have HLV := hide (leave_any hSC htz (by omega))
      have f3 := HI.out.chk.blk.cell 3
      simp only [List.getElem?_toArray, List.getElem?_cons_succ, List.getElem?_cons_zero] at f3
      clear hrun hpos ht htz hSC
      go_wp2_with fail
      refine HLV.out.mono ?_
      rintro r V3 ⟨rfl, bv3, hS3, hG3, hM3⟩
      have HA3 := hide (HI.out.chk.bound hS3 hG3 hM3)
      have HG3 : Hid (Gw (CiX C S M bv) V V3) := CiX.trans HI.out.gw HI.out.ckm hG3.cix
      have HM3 := hide (HI.out.ckm.trans hM3 HI.out.gw.size)
      clear hS3 hG3 hM3
      go_wp2
      go_end0
      exact ⟨rfl, _, _, HA3.out, by show _ + s.vars.length ≤ _; omega, HG3.out, HM3.out⟩
end Go.Proofs.YtdlahabeegmjiaaDoor

namespace Go.Proofs.YtdlahabeegmjiaaDoor
open Go.RowKit

/-- Branches under way. -/
structure BrI (w1 : World) (tv : Value) (L : List Nd) (B MM C S M f F e K : Nat) (bv : Value) (V : World) (X : List Nat) (R : Ci) (k a : Nat) (s' : Ci) (bv' : Value) (n' : Nat) (wr : World) : Prop where
  run : iAll (iBr L (iS L F)) (X.drop k) s' = R
  pos : Lk L f (X.drop k) a e
  chk : CiA w1 wr tv L B MM C S M s' bv' n'
  bud : n' + s'.vars.length ≤ 2 * a + K
  gw : Gw (CiX C S M bv) V wr
  ckm : CkM V bv bv'
theorem ss_nil (w : World) : SS w (.slice none 0 0) [] := ⟨none, 0, 0, 0, rfl, fun h => absurd h (Nat.lt_irrefl _), fun _ hj => absurd hj (Nat.not_lt_zero _)⟩
theorem is_nil0 (w : World) : IS w (.slice none 0 0) [] := ⟨none, 0, 0, 0, rfl, fun h => absurd h (Nat.lt_irrefl _), fun _ hj => absurd hj (Nat.not_lt_zero _)⟩

set_option maxHeartbeats 4000000 in
set_option maxRecDepth 1000000 in
theorem br_any {w1 V : World} {tv u : Value} {L : List Nd} {B MM C S M n : Nat} {s : Ci} {bv : Value} {f F a0 e K : Nat} {X : List Nat} (hR : OlR w1 tv L B MM) (hf : f ≤ 60) (IH : IsC w1 tv L B MM C f) (IB : IbC w1 tv L B MM C f) (hF : f ≤ F) (hX : IS w1 u (X.map fun (k : Nat) => (k : Int))) (hXg : ∀ k ∈ X, Gd L f k ∧ ((ndA L k).kind = 2 ∨ (ndA L k).kind = 6)) (hXl : X.length ≤ 4000) (hlk : Lk L f X a0 e)
    (hA : CiA w1 V tv L B MM C S M s bv n) (hb : n + s.vars.length ≤ 2 * a0 + K) (hK : K ≤ 1000) :
    Calls Tryd.prog 56 #[.pointer (some ⟨C, 0, none⟩), u] V (SQ w1 tv L B MM C S M bv V (iAll (iBr L (iS L F)) X s) (2 * e + K)) := by
  obtain ⟨R, hRR⟩ : ∃ R, iAll (iBr L (iS L F)) X s = R := ⟨_, rfl⟩
  rw [hRR]
  obtain ⟨ua, ub, uo, uc, hu, hua, huc⟩ := hX
  rw [List.length_map] at hu hua huc
  subst hu
  have HST : Hid (BrI w1 tv L B MM C S M f F e K bv V X R 0 a0 s bv n V) := ⟨by rw [List.drop_zero]; exact hRR, by rw [List.drop_zero]; exact hlk, hA, hb, Gw.refl _ _, CkM.refl _ _⟩
  have HIH := hide IH
  have HIB := hide IB
  have HXG := hide hXg
  have HUC := hide huc
  have HR := hide hR
  have HTV : Hid (∀ j, j < L.length → ∃ tb tq tc, tv = .slice (some ⟨tb, tq, none⟩) L.length tc) := fun j hj => by
    obtain ⟨tb, tq, tc, _, _, _, h, _⟩ := hR.ns.nod hj
    exact ⟨tb, tq, tc, h⟩
  have hL0 := (vT_good hR.vt).1
  obtain ⟨tb, tq, tc, htv⟩ := HTV.out 0 hL0
  subst htv
  clear hA hRR hXg IH IB huc hR hlk HTV hb
  go_enter Tryd.func56, Tryd.ntmps56
  go_wp2_with fail
  go_loopw [5, 8] (fun _ ix wr => ∃ k : Nat, k ≤ X.length ∧ ix = .int .i64 k ∧ ∃ a s' bv' n', Hid (BrI w1 (.slice (some ⟨tb, tq, none⟩) L.length tc) L B MM C S M f F e K bv V X R k a s' bv' n' wr)) (fun _ ix _ => X.length - (intOf ix).toNat)
  case atStart => exact ⟨0, Nat.zero_le _, rfl, _, _, _, _, HST⟩
  case round =>
    obtain ⟨k, hk, rfl, a, s', bv', n', HI⟩ := hrel
    rename World => V2
    by_cases hlt : k < X.length
    · have hlti : (k : Int) < (X.length : Int) := by omega
      have hpos := HI.out.pos
      rw [List.drop_eq_getElem_cons hlt] at hpos
      obtain ⟨hak, q, hq, hpos2⟩ := hpos
      have hak2 : X[k]? = some a := by rw [List.getElem?_eq_getElem hlt, ← hak]
      rw [← hak] at hq
      obtain ⟨hg, hkd⟩ := HXG.out a (List.mem_of_getElem? hak2)
      obtain rfl := hua (by omega)
      have x0 := cell_kept (HUC.out k hlt) HI.out.chk.bl
      have e1 : (X.map fun (k : Nat) => (k : Int)).getD k 0 = (a : Int) := by rw [List.getD_eq_getElem?_getD, List.getElem?_map, hak2]; rfl
      rw [e1] at x0
      obtain ⟨g, hg2⟩ := hg.pos
      have hal : a < L.length := by
        subst hg2
        exact (hg.step hf).1
      have hali : (a : Int) < (L.length : Int) := by omega
      have c0 := HI.out.chk.blk.cell 0
      simp only [List.getElem?_toArray, List.getElem?_cons_zero] at c0
      obtain ⟨b', o', c', vt', vn', vy', e2, hNC, _⟩ := HR.out.ns.nod hal
      injection e2 with e2 _ e3
      injection e2 with e2
      injection e2 with e2 e4
      subst e2 e3 e4
      have n0 := (hNC.below HI.out.chk.bl).kind
      have HNX : Hid (∀ V3 bv3 n3, CiA w1 V3 (.slice (some ⟨tb, tq, none⟩) L.length tc) L B MM C S M (iBr L (iS L F) s' a) bv3 n3 → n3 + (iBr L (iS L F) s' a).vars.length ≤ 2 * q + K → Gw (CiX C S M bv') V2 V3 → CkM V2 bv' bv3 → BrI w1 (.slice (some ⟨tb, tq, none⟩) L.length tc) L B MM C S M f F e K bv V X R (k + 1) q (iBr L (iS L F) s' a) bv3 n3 V3) := fun V3 bv3 n3 hA3 hb3 hG3 hM3 =>
        ⟨by rw [← iAll_step hak2]; exact HI.out.run, hpos2, hA3, hb3, CiX.trans HI.out.gw HI.out.ckm hG3, HI.out.ckm.trans hM3 HI.out.gw.size⟩
      by_cases q6 : (ndA L a).kind = 6
      · have HCL := hide (HIH.out F a q S M s' bv' n' V2 K hF hg hq (by omega) (by omega) HI.out.chk HI.out.bud hK)
        have e7 : iBr L (iS L F) s' a = iS L F s' a := by unfold iBr; rw [if_pos q6]
        rw [e7] at HNX
        rw [q6] at n0
        obtain ⟨y, hy⟩ : ∃ y, iS L F s' a = y := ⟨_, rfl⟩
        rw [hy] at HCL HNX
        clear hak hak2 hpos2 hq hg e1 hy e7 q6 hkd hNC
        go_wp2_with fail
        refine HCL.out.mono ?_
        rintro r V3 ⟨rfl, bv3, n3, hA3, hb3, hG3, hM3⟩
        have HR3 := hide (HNX.out V3 bv3 n3 hA3 hb3 hG3 hM3)
        clear hA3 hb3 hG3 hM3 HNX HCL HI
        go_wp2
        go_roundw
        case rel => exact ⟨k + 1, by omega, by go_num, _, _, _, _, HR3⟩
        case measure => simp [intOf]; omega
      · have hk2 : (ndA L a).kind = 2 := hkd.resolve_right q6
        have HCL := hide (HIB.out F a q S M s' bv' n' V2 K (.slice none 0 0) (.slice none 0 0) [] [] (by omega) hg hq hk2 HI.out.chk (fun W' _ => ⟨ss_nil W', is_nil0 W'⟩) (fun p hp => (by cases hp)) rfl HI.out.bud hK)
        have e7 : iBr L (iS L F) s' a = iB L (iS L F) s' a (([] : List ByteArray).zip ([] : List Int)) := by unfold iBr; rw [if_neg q6]; rfl
        rw [e7] at HNX
        rw [hk2] at n0
        obtain ⟨y, hy⟩ : ∃ y, iB L (iS L F) s' a (([] : List ByteArray).zip ([] : List Int)) = y := ⟨_, rfl⟩
        rw [hy] at HCL HNX
        clear hak hak2 hpos2 hq hg e1 hy e7 q6 hkd hNC hk2
        go_wp2_with fail
        refine HCL.out.mono ?_
        rintro r V3 ⟨rfl, bv3, n3, hA3, hb3, hG3, hM3⟩
        have HR3 := hide (HNX.out V3 bv3 n3 hA3 hb3 hG3 hM3)
        clear hA3 hb3 hG3 hM3 HNX HCL HI
        go_wp2
        go_roundw
        case rel => exact ⟨k + 1, by omega, by go_num, _, _, _, _, HR3⟩
        case measure => simp [intOf]; omega
    · obtain rfl : k = X.length := by omega
      have hge : ¬ (X.length : Int) < (X.length : Int) := by omega
      have hrun := HI.out.run
      have hpos := HI.out.pos
      rw [List.drop_length] at hrun hpos
      have hae : a = e := hpos
      have hrun : s' = R := hrun
      subst hae hrun
      go_wp2
      go_end0
      exact ⟨rfl, _, _, HI.out.chk, HI.out.bud, HI.out.gw, HI.out.ckm⟩
end Go.Proofs.YtdlahabeegmjiaaDoor

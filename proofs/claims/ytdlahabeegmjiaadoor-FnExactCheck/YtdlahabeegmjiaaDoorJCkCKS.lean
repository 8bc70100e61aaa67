/-
  The walk of spec.l3checkStat.
-/
import Derived.Test.YtdlahabeegmjiaaDoorJCkCKY
import Derived.Test.YtdlahabeegmjiaaDoorJCkCKY
import Derived.Deep.CutRange
namespace Go.Proofs.YtdlahabeegmjiaaDoor
open Go.RowKit

/-- The statement's loop over its expressions. -/
structure Sl (w0 V3 : World) (C n : Nat) (tv vv : Value) (U : List Value) (L : List Nd) (X : List Nat) (R : List Int × Ck) (k : Nat) (v6 : Value) (b : Bool) (cc : Ck) (ts : List Int) (wr : World) : Prop where
  run : tyAll L 61 (X.drop k) cc ts = R
  own : wr.ownsRow V3.heap.size 3 1 v6 ts.length (inv ts)
  typed : b = !ts.contains 3
  chk : CkA w0 wr C tv cc vv U
  gw : Gw (· = C) V3 wr
  len : ts.length ≤ k
  vars : cc.vars.length = n
theorem ckT_none {L : List Nd} {c : Ck} {i : Nat} {ts : List Int} (h : takesT L i ts.length = none) : ckT L c i ts = c.badN i := by unfold ckT; rw [h]
theorem ckT_some {L : List Nd} {c : Ck} {i : Nat} {ts W : List Int} (h : takesT L i ts.length = some W) : ckT L c i ts = if ts.contains 3 then c else if W = ts then c else c.badT i := by unfold ckT; rw [h]
theorem typed_snoc (ts : List Int) (x : Int) : (!(ts ++ [x]).contains 3) = ((!ts.contains 3) && (x != 3)) := by
  by_cases q : x = 3
  · subst q; simp
  · have q2 : ¬ 3 = x := fun h => q h.symm
    simp [q, q2]
theorem Gw.bl2 {R : Nat} {a b c : World} (h : Gw (· = R) a b) (k : Below b.heap.size b c) : Gw (· = R) a c := h.trans (Gw.of_below k (P := fun _ => False)) (fun _ _ g => g.elim)
theorem Sl.skip {w0 V3 : World} {C n : Nat} {tv vv : Value} {U : List Value} {L : List Nd} {X : List Nat} {R : List Int × Ck} {k : Nat} {v6 : Value} {b : Bool} {cc : Ck} {ts : List Int} {wr wr' : World} (h : Sl w0 V3 C n tv vv U L X R k v6 b cc ts wr) {i : Nat} (hi : X[k]? = some i) (hk : isExpr (ndA L i).kind = false) (hb : Below wr.heap.size wr wr') : Sl w0 V3 C n tv vv U L X R (k + 1) v6 b cc ts wr' := by
  have h1 := h.run
  rw [tyAll_step hi, if_neg (by rw [hk]; exact fun q => (by cases q))] at h1
  exact ⟨h1, (Gw.of_below (P := fun _ => False) hb).own h.own (fun _ _ q => q), h.typed, h.chk.below hb, h.gw.bl2 hb, by have := h.len; omega, h.vars⟩
theorem Sl.take {w0 V3 : World} {C n : Nat} {tv vv : Value} {U : List Value} {L : List Nd} {X : List Nat} {R : List Int × Ck} {k : Nat} {v6 : Value} {b : Bool} {cc : Ck} {ts : List Int} {wr wa wr' : World} (h : Sl w0 V3 C n tv vv U L X R k v6 b cc ts wr) (hC : C < V3.heap.size) (hob : ∀ k, vv.ownBlock = some k → k < V3.heap.size) {i : Nat} (hi : X[k]? = some i) (hk : isExpr (ndA L i).kind = true) (hA : CkA w0 wa C tv (tyO L 61 cc i).2 vv U) (hg : Gw (· = C) wr wa)
    {v' : Value} {B0 : World} (hB : Below wa.heap.size wa B0) (ho : wr'.ownsRow V3.heap.size 3 1 v' (ts.length + 1) (inv ts ++ [Value.int .i64 (tyO L 61 cc i).1])) (hgr : B0.grownBy wr' v6.ownBlock) {b' : Bool} (hb' : b' = (b && ((tyO L 61 cc i).1 != 3))) : Sl w0 V3 C n tv vv U L X R (k + 1) v' b' (tyO L 61 cc i).2 (ts ++ [(tyO L 61 cc i).1]) wr' := by
  have h1 := h.run
  rw [tyAll_step hi, if_pos hk] at h1
  have hlo := fun j hj => (h.own.lt j hj).1
  have hs3 := h.gw.size
  have hw0 : w0.heap.size ≤ V3.heap.size := by have := h.chk.lo; omega
  have hG : Gw (fun j => v6.ownBlock = some j) B0 wr' := Gw.of_grown hgr (fun _ hk _ => hk)
  refine ⟨h1, ?_, ?_, (hA.below hB).gw2 hG (fun q => by have := hlo _ q; omega) (fun j hj q => by have := hlo _ q; have := hob j hj; omega) (fun j hj q => by have := hlo _ q; omega), ?_, by rw [List.length_append]; have := h.len; show _ + 1 ≤ _; omega, by rw [tyO_vars]; exact h.vars⟩
  · have e : inv (ts ++ [(tyO L 61 cc i).1]) = inv ts ++ [Value.int .i64 (tyO L 61 cc i).1] := by unfold inv; rw [List.map_append]; rfl
    rw [e, List.length_append]
    exact ho
  · rw [hb', h.typed]
    exact (typed_snoc _ _).symm
  · exact ((h.gw.trans hg (fun _ _ q => q)).bl2 hB).trans hG (fun j hj q => by have := hlo _ q; omega)

set_option maxHeartbeats 8000000 in
set_option maxRecDepth 1000000 in
theorem ck_stat {w0 : World} {C : Nat} {tv : Value} {L : List Nd} {f : Nat} (hT : vT L = true) (hl : L.length ≤ 4000) (hN : NS w0 tv L) (hf : f + 1 ≤ 60) (IS : CsC w0 C tv L f) (IB : CbC w0 C tv L f) : CsC w0 C tv L (f + 1) := by
  intro F0 i c vv U V hF hg hA hv
  obtain ⟨F, rfl⟩ : ∃ F, F0 = F + 1 := ⟨F0 - 1, by omega⟩
  have hil := (hg.step hf).1
  have hkg := (hg.step hf).2.2.2.2
  obtain ⟨tb, tq, tc, vt, vn, vy, htv, hNC, hNV⟩ := hN.nod hil
  have HN := hide hN
  subst htv
  have hNCr := hNC.below hA.bl
  have HNV := hide hNV
  obtain ⟨a1, c1, a2, c2, a3, c3, rfl, rfl, rfl⟩ := hNV.slc
  have g0 := hA.blk.cell 0
  simp only [List.getElem?_toArray, List.getElem?_cons_zero] at g0
  have hili : (i : Int) < (L.length : Int) := by omega
  have HGD : Hid (∀ (j k : Nat), (kidsOf L i)[j]? = some k → Gd L f k ∧ i + 1 + j ≤ k ∧ k < L.length) := fun j k h => ⟨(hkg j k h).1, (hg.kge hf h).1, (hg.kge hf h).2⟩
  obtain ⟨va, cap, hvv, hcap, hob⟩ := hA.own
  subst hvv
  have hKL := kds_le hf hg
  have HG := hide hg
  have HA := hide hA
  have HOB := hide hob
  have HIS := hide IS
  have HIB := hide IB
  have HV := hide hv
  have HF := hide hF
  have HTY := hide (fun i' cc W (h : Gd L f i') (h16 : 16 ≤ (ndA L i').kind) (h22 : (ndA L i').kind ≤ 22) => ty_all (C := C) hl hN f (by omega) 61 i' cc (.slice va c.vars.length cap) U W (by omega) h h16 h22)
  obtain ⟨X, hX⟩ : ∃ X, kidsOf L i = X := ⟨_, rfl⟩
  obtain ⟨R, hR⟩ : ∃ R, tyAll L 61 X c [] = R := ⟨_, rfl⟩
  have HX := hide hX
  have HR := hide hR
  have HT := hide hT
  obtain ⟨n, hn⟩ : ∃ n, c.vars.length = n := ⟨_, rfl⟩
  have HNN := hide hn
  obtain ⟨d, hd⟩ : ∃ d, ndA L i = d := ⟨_, rfl⟩
  have HD := hide hd
  rw [hX] at HGD hKL
  rw [hn] at HA HOB HV HTY hcap ⊢
  rw [hd] at hNCr HNV
  obtain ⟨n0, n1, n2, n3, n4, n5⟩ := hNCr
  obtain ⟨Va, hVa⟩ : ∃ W, World.alloc V (.cells #[.int .i64 0, .int .i64 0, .slice none 0 0, .slice none 0 0, .slice none 0 0, .int .i64 0] 42) = W := ⟨_, rfl⟩
  have hOb : Blk Va (World.heap V).size 42 #[.int .i64 0, .int .i64 0, .slice none 0 0, .slice none 0 0, .slice none 0 0, .int .i64 0] := by rw [← hVa]; exact Blk.new _ _ _
  have o0 := hOb.cell 0
  have of0 := hOb.frozen 0
  have o1 := hOb.cell 1
  have of1 := hOb.frozen 1
  have o2 := hOb.cell 2
  have of2 := hOb.frozen 2
  have o3 := hOb.cell 3
  have of3 := hOb.frozen 3
  have o4 := hOb.cell 4
  have of4 := hOb.frozen 4
  have o5 := hOb.cell 5
  have of5 := hOb.frozen 5
  simp only [List.getElem?_toArray, List.getElem?_cons_succ, List.getElem?_cons_zero] at o0 o1 o2 o3 o4 o5
  obtain ⟨V2, hV2⟩ : ∃ W, set6w Va (World.heap V).size (.int .i64 (d).kind) (.int .i64 (d).n) (.slice a1 (d).text.size c1) (.slice a2 (d).names.length c2) (.slice a3 (d).types.length c3) (.int .i64 (d).count) = W := ⟨_, rfl⟩
  have hCp : Blk V2 (World.heap V).size 42 #[.int .i64 (d).kind, .int .i64 (d).n, .slice a1 (d).text.size c1, .slice a2 (d).names.length c2, .slice a3 (d).types.length c3, .int .i64 (d).count] := by rw [← hV2]; exact hOb.set6w _ _ _ _ _ _
  have hBl : Below (World.heap V).size V V2 := by
    have hA : Below (World.heap V).size V Va := by rw [← hVa]; exact (Below.refl _ _).alloc (Nat.le_refl _) _
    rw [← hV2]
    exact (((((hA.setCell (Nat.le_refl _) _).setCell (Nat.le_refl _) _).setCell (Nat.le_refl _) _).setCell (Nat.le_refl _) _).setCell (Nat.le_refl _) _).setCell (Nat.le_refl _) _
  unfold set6w at hV2
  have HBl := hide hBl
  have HCp := hide hCp
  have hA2 := HA.out.below hBl
  have HA2 := hide hA2
  have p0 := hA2.blk.cell 0
  simp only [List.getElem?_toArray, List.getElem?_cons_zero] at p0
  have HK := hide (kids_own (by omega) hf HG.out (HN.out.below hA2.bl))
  rw [hX] at HK
  have HCV : Hid (C < V.heap.size) := HA.out.blk.lt
  have HV2 : Hid (V.heap.size < V2.heap.size) := hCp.lt
  clear hN hNC hNV hg hkg hA hX hR hob IS IB hv hF hn hd hT hCp hBl hA2
  go_enter Tryd.func13, Tryd.ntmps13
  go_wp2_with fail
  refine HK.out.mono ?_
  rintro r V3 ⟨kv, rfl, hks, hb3⟩
  have hA3 := HA2.out.below hb3
  obtain ⟨ka, kc, rfl⟩ := own_sl hks
  have HKS := hide hks
  have HB3 := hide hb3
  have HA3 := hide hA3
  have HC3 := hide (HCp.out.below hb3)
  clear hks hb3 HK hA3 g0 n0 n1 n2 n3 n4 n5 hVa hV2 o0 of0 o1 of1 o2 of2 o3 of3 o4 of4 o5 of5 p0
  go_wp2_with fail
  go_loopw [6, 7, 8, 9] (fun v6 v7 v8 _ wr => ∃ k : Nat, k ≤ X.length ∧ v8 = .int .i64 k ∧ ∃ b cc ts, v7 = .bool b ∧ Hid (Sl w0 V3 C n (.slice (some ⟨tb, tq, none⟩) L.length tc) (.slice va n cap) U L X R k v6 b cc ts wr)) (fun _ _ v8 _ _ => X.length - (intOf v8).toNat)
  case atStart => exact ⟨0, Nat.zero_le _, rfl, true, c, [], rfl, by rw [List.drop_zero]; exact HR.out, World.ownsRow_nil _ _ _ _, rfl, HA3.out, Gw.refl _ _, Nat.le_refl _, HNN.out⟩
  case round =>
    obtain ⟨k, hk, rfl, b, cc, ts, rfl, HS⟩ := hrel
    rename World => V4
    have hcl : C < V3.heap.size := by have := HCV.out; have := HV2.out; have := HB3.out.size; omega
    obtain ⟨ya, yc, rfl⟩ := own_sl HS.out.own
    by_cases hlt : k < X.length
    · have hlti : (k : Int) < (X.length : Int) := by omega
      obtain ⟨i', hi⟩ : ∃ i, X[k]? = some i := ⟨X[k], List.getElem?_eq_getElem hlt⟩
      obtain ⟨g, kc', e1, hgB, hcells⟩ := kid_at HKS.out (by omega)
      injection e1 with e1 _ e2
      subst e1 e2
      have hcell := HS.out.gw.cell (hcells k i' hi) (fun q => by
        have q : g = C := q
        have := HV2.out
        have := HCV.out
        omega)
      obtain ⟨hgd, hge, hil'⟩ := HGD.out k i' hi
      have p0 := HS.out.chk.blk.cell 0
      simp only [List.getElem?_toArray, List.getElem?_cons_zero] at p0
      obtain ⟨b', o', c', vt', vn', vy', e2, hNC, _⟩ := HN.out.nod hil'
      injection e2 with e2 _ e3
      injection e2 with e2
      injection e2 with e2 e4
      subst e2 e3 e4
      have n0 := (hNC.below HS.out.chk.bl).kind
      have HXP := hide (fun W => specExpr_any (ndA L i').kind W)
      have hili' : (i' : Int) < (L.length : Int) := by omega
      obtain ⟨E, hE⟩ : ∃ E, isExpr (ndA L i').kind = E := ⟨_, rfl⟩
      rw [hE] at HXP
      have HE := hide hE
      have HI := hide hi
      have HGI := hide hgd
      clear hNC hi hcells hgd hge hE
      cases E with
      | false =>
        go_wp2_with fail
        go_quiet ((go_at_call 30; exact Calls.quiet_of_same (HXP.out _)))
        go_wp2
        go_roundw
        case rel => exact ⟨k + 1, by omega, by go_num, b, cc, ts, rfl, HS.out.skip HI.out HE.out (below_drewN (Below.refl _ _) _)⟩
        case measure => simp [intOf]; omega
      | true =>
        go_wp2_with fail
        go_quiet ((go_at_call 30; exact Calls.quiet_of_same (HXP.out _)))
        go_wp2_with fail
        have h1622 := HE.out
        unfold isExpr at h1622
        rw [Bool.and_eq_true, decide_eq_true_eq, decide_eq_true_eq] at h1622
        refine (HTY.out i' cc _ HGI.out h1622.1 h1622.2 (HS.out.chk.below (below_drewN (Below.refl _ _) _)) (by rw [HS.out.vars]; have := HV.out; omega)).mono ?_
        rintro r V5 ⟨rfl, hA5, hG5⟩
        have HA5 := hide hA5
        have HG5 := hide (Gw.trans (Gw.of_below (P := (· = C)) (below_drewN (Below.refl _ _) _)) hG5 (fun _ _ q => q))
        have hlo5 := HS.out.own.lt
        have HO5 := hide (((HG5.out.own HS.out.own (fun k hk q => by have := (hlo5 k hk).1; omega))).alloc (.cells #[.int .i64 (tyO L 61 cc i').1] 3))
        have hs5 : V3.heap.size ≤ V5.heap.size := Nat.le_trans HS.out.gw.size HG5.out.size
        have HSZ : Hid (V3.heap.size ≤ (V5.alloc (.cells #[.int .i64 (tyO L 61 cc i').1] 3)).heap.size) := by
          show _ ≤ _
          rw [World.size_alloc]; omega
        have HBk := hide (Cs.of_blk (Blk.new V5 3 #[.int .i64 (tyO L 61 cc i').1]))
        have htl : ts.length + 1 ≤ 10000000 := by have := HS.out.len; omega
        clear hA5 hG5 hlo5 hs5 h1622
        obtain ⟨x, hx⟩ : ∃ x, (tyO L 61 cc i').1 = x := ⟨_, rfl⟩
        have HXX := hide hx
        rw [hx] at HO5 HSZ HBk ⊢
        clear hx
        go_wp2_with (at_builtin; refine wp_appGIn rfl (.tmp 51) (.tmp 53) rfl V3.heap.size _ _ _ rfl HO5.out V5.heap.size 0 1 1 [.int .i64 x] rfl rfl (fun j u hj => by rw [Nat.zero_add]; exact HBk.out j u hj) (fun u hu => by rw [List.mem_singleton.1 hu]; rfl) htl HSZ.out ?_)
        intro v' V6 hown hg hat
        have HGR := hide hg
        have HOW := hide hown
        obtain ⟨ya6, yc6, rfl⟩ := own_sl hown
        have HS7 : Hid (∀ b', b' = (b && (x != 3)) → Sl w0 V3 C n (.slice (some ⟨tb, tq, none⟩) L.length tc) (.slice va n cap) U L X R (k + 1) (.slice ya6 (ts.length + 1) yc6) b' (tyO L 61 cc i').2 (ts ++ [(tyO L 61 cc i').1]) V6) := fun b' hb' =>
          HS.out.take hcl (fun k hk => by have := HOB.out k hk; have := HV2.out; have := HB3.out.size; omega) HI.out HE.out HA5.out HG5.out ((Below.refl _ _).alloc (Nat.le_refl _) _) (by rw [HXX.out]; exact HOW.out) HGR.out (by rw [HXX.out]; exact hb')
        clear hown hg hat HO5 HSZ HBk htl HA5 HG5
        cases b with
        | true =>
          go_wp2
          go_roundw
          case rel => exact ⟨k + 1, by omega, by go_num, _, _, _, rfl, HS7.out _ (by simp)⟩
          case measure => simp [intOf]; omega
        | false =>
          go_wp2
          go_roundw
          case rel => exact ⟨k + 1, by omega, by go_num, _, _, _, rfl, HS7.out _ (by simp)⟩
          case measure => simp [intOf]; omega
    · obtain rfl : k = X.length := by omega
      have hge : ¬ (X.length : Int) < (X.length : Int) := by omega
      have hrun := HS.out.run
      rw [List.drop_length, tyAll] at hrun
      subst hrun
      have hC4 := HS.out.gw.blk HC3.out (fun q => by have q : V.heap.size = C := q; have := HCV.out; omega)
      have m0 := hC4.cell 0
      have m3 := hC4.cell 3
      simp only [List.getElem?_toArray, List.getElem?_cons_succ, List.getElem?_cons_zero] at m0 m3
      have HC4 := hide hC4
      have HG4 : Hid (Gw (CkX C (.slice va n cap)) V V4) := (Gw.of_below (HBl.out.trans (HB3.out.mono HBl.out.size))).trans (Gw.ckx HS.out.gw) (fun _ _ q => q)
      have v1 := HS.out.chk.blk.cell 1
      have vf1 := HS.out.chk.blk.frozen 1
      simp only [List.getElem?_toArray, List.getElem?_cons_succ, List.getElem?_cons_zero] at v1
      clear hC4
      by_cases q3 : d.kind = 3
      · have hgf := HG.out.first hf (.inl (by rw [HD.out]; exact q3))
        have htp : 0 < ts.length := by
          obtain ⟨k1, h1, h2⟩ := hgf
          rw [HX.out] at h1
          have := tyAll_pos (f := 61) (c := c) h1 h2
          rw [HR.out] at this
          exact this
        have hnl := HG.out.name (by omega) (.inl (by rw [HD.out]; exact q3))
        have hnz := HG.out.nm0le (by omega) (by rw [hnl]; exact Nat.one_pos)
        rw [HD.out] at hnl hnz
        obtain ⟨nb, no, nc, nu, e5, hnu, hbs⟩ := HNV.out.nm0 (by rw [hnl]; exact Nat.one_pos)
        injection e5 with e5 _ e6
        subst e5 e6
        have hnur := cell_kept hnu HS.out.chk.bl
        have HBS := hide hbs
        obtain ⟨na', nb', no', nc', rfl, _, _⟩ := hbs
        obtain ⟨yg, rfl, hy0⟩ : ∃ yg, ya = some ⟨yg, 0, none⟩ ∧ V4.cell? ⟨yg, 0, none⟩ = some (.int .i64 (ts.getD 0 0)) := by
          rcases HS.out.own.2 with ⟨hv, h0⟩ | ⟨g, cap', cur, hv, hB, hg, _⟩
          · omega
          · injection hv with hv _ hc
            subst hv
            have hcl := HS.out.own.cells (g := g) rfl 0 (.int .i64 (ts.getD 0 0)) (by unfold inv; rw [List.getElem?_map, List.getElem?_eq_getElem (by omega)]; simp [List.getD, htp])
            exact ⟨g, rfl, hcl⟩
        have HE : Hid (ckS L (F + 1) c i = { cc with vars := cc.vars ++ [(d.names.getD 0 .empty, ts.getD 0 0)] }) := by
          show _ = _
          rw [ckS, HX.out, HR.out, HD.out]
          simp only
          rw [if_pos q3]
        obtain ⟨x0, hx0⟩ : ∃ x, ts.getD 0 0 = x := ⟨_, rfl⟩
        rw [hx0] at hy0 HE
        obtain ⟨nm, hnm⟩ : ∃ y, d.names.getD 0 .empty = y := ⟨_, rfl⟩
        rw [hnm] at HBS hnz hnur HE
        rw [q3] at m0
        have hnl1 : 0 < d.names.length := by omega
        have htpi : (0 : Int) < (ts.length : Int) := by omega
        have HNZ := hide hnz
        have hygl := (HS.out.own.lt yg rfl)
        have hnbl : nb < w0.heap.size := World.block_lt_of_cell? _ _ hnu
        have hlo := HS.out.chk.lo
        have HNE : Hid (∀ k, Value.ownBlock (.slice va n cap) = some k → V.heap.size ≠ k ∧ nb ≠ k ∧ yg ≠ k) := fun k hk => by
          have h1 := HOB.out k hk
          have := HV2.out
          have := HB3.out.size
          omega
        have HNC : Hid (V.heap.size ≠ C ∧ nb ≠ C ∧ yg ≠ C) := by
          show _ ∧ _
          have := HCV.out
          have := HV2.out
          have := HB3.out.size
          omega
        have v1a := cell_kept v1 ((Below.refl V4.heap.size V4).alloc (Nat.le_refl _) (.cells #[.slice na' nm.size nc', .int .i64 x0, .int .i64 0, .int .i64 0, .string ⟨#[]⟩] 67))
        clear hygl hnbl hlo
        clear hgf hnz hnl hx0 hnm q3 hnu
        go_wp2_with fail
        refine wp_region_held_drew (S := fun W => Hid (W.cell? ⟨V.heap.size, 3, none⟩ = some (.slice (some ⟨nb, no, none⟩) d.names.length c2) ∧ W.cell? ⟨nb, no, none⟩ = some (.slice na' nm.size nc') ∧ W.cell? ⟨yg, 0, none⟩ = some (.int .i64 x0))) (by kernel_rfl) (⟨m3, hnur, hy0⟩) (fun hHeld => ?_)
        refine wpAnyH_take (i := 0) (v := ?_) rfl (by kernel_rfl) (by kernel_rfl) (by kernel_rfl) (fun _ _ _ h => h) (Or.inl ⟨by rfl, ?_⟩) hHeld ?_
        rotate_left 1
        · intro Wx hSW; simp only [List.getElem_toArray, List.getElem_cons_zero]; go_simp; try with_reducible rfl
        try simp only [Act.put, List.getElem_toArray, List.getElem_cons_zero, List.setIfInBounds_toArray, List.set_cons_zero, List.set_cons_succ]
        refine wpAnyH_take (i := 1) (v := ?_) rfl (by kernel_rfl) (by kernel_rfl) (by kernel_rfl) (fun _ _ _ h => h) (Or.inl ⟨by rfl, ?_⟩) hHeld ?_
        rotate_left 1
        · intro Wx hSW; simp only [List.getElem_toArray, List.getElem_cons_zero, List.getElem_cons_succ]; go_simp; try with_reducible rfl
        try simp only [Act.put, List.getElem_toArray, List.getElem_cons_zero, List.getElem_cons_succ, List.setIfInBounds_toArray, List.set_cons_zero, List.set_cons_succ]
        refine wpAnyH_take (i := 2) (v := ?_) rfl (by kernel_rfl) (by kernel_rfl) (by kernel_rfl) (fun _ _ _ h => h) (Or.inl ⟨by rfl, ?_⟩) hHeld ?_
        rotate_left 1
        · intro Wx hSW; simp only [List.getElem_toArray, List.getElem_cons_zero, List.getElem_cons_succ]; go_simp; try with_reducible rfl
        try simp only [Act.put, List.getElem_toArray, List.getElem_cons_zero, List.getElem_cons_succ, List.setIfInBounds_toArray, List.set_cons_zero, List.set_cons_succ]
        refine wpAnyH_take (i := 3) (v := ?_) rfl (by kernel_rfl) (by kernel_rfl) (by kernel_rfl) (fun _ _ _ h => h) (Or.inl ⟨by rfl, ?_⟩) hHeld ?_
        rotate_left 1
        · intro Wx hSW; simp only [List.getElem_toArray, List.getElem_cons_zero, List.getElem_cons_succ]; go_simp; try with_reducible rfl
        try simp only [Act.put, List.getElem_toArray, List.getElem_cons_zero, List.getElem_cons_succ, List.setIfInBounds_toArray, List.set_cons_zero, List.set_cons_succ]
        refine wpAnyH_take (i := 5) (v := ?_) rfl (by kernel_rfl) (by kernel_rfl) (by kernel_rfl) (fun _ _ _ h => h) (Or.inl ⟨by rfl, ?_⟩) hHeld ?_
        rotate_left 1
        · intro Wx hSW; simp only [List.getElem_toArray, List.getElem_cons_zero, List.getElem_cons_succ]; go_simp; try with_reducible rfl
        try simp only [Act.put, List.getElem_toArray, List.getElem_cons_zero, List.getElem_cons_succ, List.setIfInBounds_toArray, List.set_cons_zero, List.set_cons_succ]
        refine wpAnyH_take (i := 6) (v := ?_) rfl (by kernel_rfl) (by kernel_rfl) (by kernel_rfl) (fun _ _ _ h => h) (Or.inl ⟨by rfl, ?_⟩) hHeld ?_
        rotate_left 1
        · intro Wx hSW; simp only [List.getElem_toArray, List.getElem_cons_zero, List.getElem_cons_succ]; obtain ⟨s1, s2, s3⟩ := hSW.out; go_simp; try with_reducible rfl
        try simp only [Act.put, List.getElem_toArray, List.getElem_cons_zero, List.getElem_cons_succ, List.setIfInBounds_toArray, List.set_cons_zero, List.set_cons_succ]
        refine wpAnyH_take (i := 7) (v := ?_) rfl (by kernel_rfl) (by kernel_rfl) (by kernel_rfl) (fun _ _ _ h => h) (Or.inl ⟨by rfl, ?_⟩) hHeld ?_
        rotate_left 1
        · intro Wx hSW; simp only [List.getElem_toArray, List.getElem_cons_zero, List.getElem_cons_succ]; obtain ⟨s1, s2, s3⟩ := hSW.out; go_simp; try with_reducible rfl
        try simp only [Act.put, List.getElem_toArray, List.getElem_cons_zero, List.getElem_cons_succ, List.setIfInBounds_toArray, List.set_cons_zero, List.set_cons_succ]
        refine wpAnyH_take (i := 8) (v := ?_) rfl (by kernel_rfl) (by kernel_rfl) (by kernel_rfl) (fun _ _ _ h => h) (Or.inl ⟨by rfl, ?_⟩) hHeld ?_
        rotate_left 1
        · intro Wx hSW; simp only [List.getElem_toArray, List.getElem_cons_zero, List.getElem_cons_succ]; obtain ⟨s1, s2, s3⟩ := hSW.out; go_simp; try with_reducible rfl
        try simp only [Act.put, List.getElem_toArray, List.getElem_cons_zero, List.getElem_cons_succ, List.setIfInBounds_toArray, List.set_cons_zero, List.set_cons_succ]
        refine wpAnyH_take (i := 9) (v := ?_) rfl (by kernel_rfl) (by kernel_rfl) (by kernel_rfl) (fun _ _ _ h => h) (Or.inl ⟨by rfl, ?_⟩) hHeld ?_
        rotate_left 1
        · intro Wx hSW; simp only [List.getElem_toArray, List.getElem_cons_zero, List.getElem_cons_succ]; go_simp; try with_reducible rfl
        try simp only [Act.put, List.getElem_toArray, List.getElem_cons_zero, List.getElem_cons_succ, List.setIfInBounds_toArray, List.set_cons_zero, List.set_cons_succ]
        refine wpAnyH_take (i := 10) (v := ?_) rfl (by kernel_rfl) (by kernel_rfl) (by kernel_rfl) (fun _ _ _ h => h) (Or.inl ⟨by rfl, ?_⟩) hHeld ?_
        rotate_left 1
        · intro Wx hSW; simp only [List.getElem_toArray, List.getElem_cons_zero, List.getElem_cons_succ]; obtain ⟨s1, s2, s3⟩ := hSW.out; go_simp; try with_reducible rfl
        try simp only [Act.put, List.getElem_toArray, List.getElem_cons_zero, List.getElem_cons_succ, List.setIfInBounds_toArray, List.set_cons_zero, List.set_cons_succ]
        refine wpAnyH_take (i := 11) (v := ?_) rfl (by kernel_rfl) (by kernel_rfl) (by kernel_rfl) (fun _ _ _ h => h) (Or.inl ⟨by rfl, ?_⟩) hHeld ?_
        rotate_left 1
        · intro Wx hSW; simp only [List.getElem_toArray, List.getElem_cons_zero, List.getElem_cons_succ]; obtain ⟨s1, s2, s3⟩ := hSW.out; go_simp; try with_reducible rfl
        try simp only [Act.put, List.getElem_toArray, List.getElem_cons_zero, List.getElem_cons_succ, List.setIfInBounds_toArray, List.set_cons_zero, List.set_cons_succ]
        refine wpAnyH_take (i := 12) (v := ?_) rfl (by kernel_rfl) (by kernel_rfl) (by kernel_rfl) (fun _ _ _ h => h) (Or.inl ⟨by rfl, ?_⟩) hHeld ?_
        rotate_left 1
        · intro Wx hSW; simp only [List.getElem_toArray, List.getElem_cons_zero, List.getElem_cons_succ]; go_simp; try with_reducible rfl
        try simp only [Act.put, List.getElem_toArray, List.getElem_cons_zero, List.getElem_cons_succ, List.setIfInBounds_toArray, List.set_cons_zero, List.set_cons_succ]
        apply key_rest
        · intro HKEY
          refine wpAnyH_ready (rs := [4, 13]) (by kernel_rfl) (by simp) ?_
          refine AllReadyH.cons rfl (fun K hK => ?_) (AllReadyH.cons rfl (fun K hK => ?_) AllReadyH.nil)
          · go_simp
            refine hK.out _ _ (hHeld) (fun hHeld => ?_)
            clear hK K
            try simp only [Act.put, List.getElem_toArray, List.getElem_cons_zero, List.getElem_cons_succ, List.setIfInBounds_toArray, List.set_cons_zero, List.set_cons_succ]
            refine wpAnyH_ready (rs := [13]) (by kernel_rfl) (by simp) ?_
            refine AllReadyH.cons rfl (fun K hK => ?_) AllReadyH.nil
            go_simp
            refine hK.out _ _ (⟨cell_kept hHeld.out.1 ((Below.refl _ _).alloc (Nat.le_refl _) _), cell_kept hHeld.out.2.1 ((Below.refl _ _).alloc (Nat.le_refl _) _), cell_kept hHeld.out.2.2 ((Below.refl _ _).alloc (Nat.le_refl _) _)⟩) (fun hHeld => ?_)
            clear hK K
            try simp only [Act.put, List.getElem_toArray, List.getElem_cons_zero, List.getElem_cons_succ, List.setIfInBounds_toArray, List.set_cons_zero, List.set_cons_succ]
            exact HKEY.out
          · go_simp
            refine hK.out _ _ (⟨cell_kept hHeld.out.1 ((Below.refl _ _).alloc (Nat.le_refl _) _), cell_kept hHeld.out.2.1 ((Below.refl _ _).alloc (Nat.le_refl _) _), cell_kept hHeld.out.2.2 ((Below.refl _ _).alloc (Nat.le_refl _) _)⟩) (fun hHeld => ?_)
            clear hK K
            try simp only [Act.put, List.getElem_toArray, List.getElem_cons_zero, List.getElem_cons_succ, List.setIfInBounds_toArray, List.set_cons_zero, List.set_cons_succ]
            refine wpAnyH_ready (rs := [4]) (by kernel_rfl) (by simp) ?_
            refine AllReadyH.cons rfl (fun K hK => ?_) AllReadyH.nil
            go_simp
            refine hK.out _ _ (hHeld) (fun hHeld => ?_)
            clear hK K
            try simp only [Act.put, List.getElem_toArray, List.getElem_cons_zero, List.getElem_cons_succ, List.setIfInBounds_toArray, List.set_cons_zero, List.set_cons_succ]
            exact HKEY.out
        obtain ⟨W5, hW5⟩ : ∃ W, (World.alloc V4 (.cells #[.slice na' nm.size nc', .int .i64 x0, .int .i64 0, .int .i64 0, .string ⟨#[]⟩] 67)).drew = W := ⟨_, rfl⟩
        have hb5 : Below V4.heap.size V4 W5 := by rw [← hW5]; exact ((Below.refl _ _).alloc (Nat.le_refl _) _).drew
        have hA5 := HS.out.chk.below hb5
        have HA5 := hide hA5
        have hO5 := hA5.vo.own
        rw [List.length_map, HS.out.vars] at hO5
        have HO5 := hide hO5
        have hbk : Blk W5 V4.heap.size 67 #[.slice na' nm.size nc', .int .i64 x0, .int .i64 0, .int .i64 0, .string ⟨#[]⟩] := by rw [← hW5]; exact Blk.new _ _ _
        have HBk := hide (Cs.of_blk hbk)
        have hsz : C + 1 ≤ W5.heap.size := by have := hA5.blk.lt; omega
        have hn10 : n + 1 ≤ 10000000 := by have := HV.out; omega
        have HB5 := hide hb5
        have HX1 := hide (And.intro (cell_kept m3 hb5) (And.intro (cell_kept hnur hb5) (cell_kept hy0 hb5)))
        rw [hW5]
        clear hA5 hO5 hbk hb5 hW5 hHeld
        refine wpAnyH_ready (rs := [14]) (by kernel_rfl) (by simp) ?_
        refine AllReadyH.cons rfl (fun K hK => ?_) AllReadyH.nil
        refine step_appGVr rfl (.tmp 67) (.tmp 76) rfl (C + 1) _ _ _ rfl HO5.out V4.heap.size 0 1 1 ((vrOf (nm, x0)).cs (.slice na' nm.size nc')) rfl rfl (fun j u hj => by rw [Nat.zero_add]; exact HBk.out j u hj) (fun u hu => ?_) hn10 hsz ?_
        · rcases List.mem_cons.1 hu with rfl | hu
          · rfl
          · rcases List.mem_cons.1 hu with rfl | hu
            · rfl
            · rcases List.mem_cons.1 hu with rfl | hu
              · rfl
              · rcases List.mem_cons.1 hu with rfl | hu
                · rfl
                · rw [List.mem_singleton.1 hu]; rfl
        intro v' V6 hown hgr hat
        obtain ⟨v6a, v6c, rfl⟩ := own_sl hown
        have HA7 := hide (HA5.out.app HS.out.vars HBS.out HNZ.out hown hgr)
        have hG6 : Gw (fun k => Value.ownBlock (.slice va n cap) = some k) W5 V6 := Gw.of_grown hgr (fun _ hk _ => hk)
        have hbl6 := hG6.blk HA5.out.blk (fun q => by have := (HA5.out.vo.own.lt _ q).1; omega)
        have w1 := hbl6.cell 1
        have wf1 := hbl6.frozen 1
        simp only [List.getElem?_toArray, List.getElem?_cons_succ, List.getElem?_cons_zero] at w1
        have HG6 := hide hG6
        have HAT := hide hat
        clear hown hgr hat hG6 hbl6 HO5 HBk hsz hn10
        refine hK.out _ _ (⟨HG6.out.cell HX1.out.1 (fun q => (HNE.out _ q).1 rfl), HG6.out.cell HX1.out.2.1 (fun q => (HNE.out _ q).2.1 rfl), HG6.out.cell HX1.out.2.2 (fun q => (HNE.out _ q).2.2 rfl)⟩) (fun hHeld => ?_)
        clear hK K
        try simp only [Act.put, List.getElem_toArray, List.getElem_cons_zero, List.getElem_cons_succ, List.setIfInBounds_toArray, List.set_cons_zero, List.set_cons_succ]
        refine wpAnyH_take (i := 15) (v := ?_) rfl (by kernel_rfl) (by kernel_rfl) (by kernel_rfl) (fun _ _ _ h => h) (Or.inl ⟨by rfl, ?_⟩) hHeld ?_
        rotate_left 1
        · intro Wx hSW; simp only [List.getElem_toArray, List.getElem_cons_zero, List.getElem_cons_succ]; go_simp; try with_reducible rfl
        try simp only [Act.put, List.getElem_toArray, List.getElem_cons_zero, List.getElem_cons_succ, List.setIfInBounds_toArray, List.set_cons_zero, List.set_cons_succ]
        refine wpAnyH_take (i := 16) (v := ?_) rfl (by kernel_rfl) (by kernel_rfl) (by kernel_rfl) (fun _ _ _ h => h) (Or.inl ⟨by rfl, ?_⟩) hHeld ?_
        rotate_left 1
        · intro Wx hSW; simp only [List.getElem_toArray, List.getElem_cons_zero, List.getElem_cons_succ]; go_simp; try with_reducible rfl
        try simp only [Act.put, List.getElem_toArray, List.getElem_cons_zero, List.getElem_cons_succ, List.setIfInBounds_toArray, List.set_cons_zero, List.set_cons_succ]
        refine wpAnyH_ready (rs := [17]) (by kernel_rfl) (by simp) ?_
        refine AllReadyH.cons rfl (fun K hK => ?_) AllReadyH.nil
        go_simp
        refine hK.out _ _ (⟨(Gw.set _ _ _ _).cell hHeld.out.1 HNC.out.1, (Gw.set _ _ _ _).cell hHeld.out.2.1 HNC.out.2.1, (Gw.set _ _ _ _).cell hHeld.out.2.2 HNC.out.2.2⟩) (fun hHeld => ?_)
        clear hK K
        try simp only [Act.put, List.getElem_toArray, List.getElem_cons_zero, List.getElem_cons_succ, List.setIfInBounds_toArray, List.set_cons_zero, List.set_cons_succ]
        refine wpAnyH_done (by kernel_rfl) ?_ _
        go_wp2
        refine bodyPost_ret (results_none rfl _ _ _) rfl ?_
        rw [HE.out]
        refine ⟨rfl, _, _, HA7.out, ?_, ?_⟩
        · exact ((HG4.out.trans (Gw.of_below HB5.out (P := CkX C (.slice va n cap))) (fun _ _ q => q)).trans HG6.out (fun _ _ q => .inr q)).trans (Gw.set _ _ _ _) (fun _ _ q => .inl q)
        · rcases HAT.out with q | q
          · exact .inl q
          · exact .inr ⟨_, q, by have := HB5.out.size; have := HG4.out.size; omega⟩
      · have t3 : (d.kind == 3) = false := by rw [beq_eq_false_iff_ne]; exact q3
        have hts : ts.length ≤ 100000 := by have := HS.out.len; omega
        have HTA : Hid (Calls Tryd.prog 32 #[.pointer (some ⟨C, 0, none⟩), .int .i64 (i : Nat), .int .i64 (ts.length : Nat)] V4 (TaQ w0 C (.slice (some ⟨tb, tq, none⟩) L.length tc) (.slice va n cap) U V4 cc i (takesT L i ts.length))) := by
          show Calls _ _ _ _ _
          by_cases q4 : (ndA L i).kind = 4
          · exact ta_call HN.out hf HG.out HS.out.chk HT.out q4
          · refine ta_list HN.out hf HG.out HS.out.chk q4 hts (fun q => ?_)
            obtain ⟨k1, h1, h2⟩ := HG.out.first hf (.inr q)
            rw [HX.out] at h1
            have := tyAll_pos (f := 61) (c := c) h1 h2
            rw [HR.out] at this
            exact this
        have HE1 : Hid (ckS L (F + 1) c i = (if d.kind = 5 then { ckB L (ckS L F) { ckT L cc i ts with vars := (ckT L cc i ts).vars ++ [(d.names.getD 0 .empty, 0)] } (X.getD 2 0) with vars := (ckT L cc i ts).vars }
            else if d.kind = 6 then (if X.length = 3 ∧ (ndA L (X.getD 2 0)).kind = 6 then ckS L F (ckB L (ckS L F) (ckT L cc i ts) (X.getD 1 0)) (X.getD 2 0) else if X.length = 3 then ckB L (ckS L F) (ckB L (ckS L F) (ckT L cc i ts) (X.getD 1 0)) (X.getD 2 0) else ckB L (ckS L F) (ckT L cc i ts) (X.getD 1 0)) else ckT L cc i ts)) := by
          show _ = _
          rw [ckS, HX.out, HR.out, HD.out]
          simp only
          rw [if_neg q3]
        obtain ⟨kd, hkd⟩ : ∃ x, d.kind = x := ⟨_, rfl⟩
        rw [hkd] at m0 t3 HE1
        have HKD := hide hkd
        clear hkd q3
        go_wp2_with fail
        refine HTA.out.mono ?_
        rintro r V5 ⟨u, bb, rfl, hG5, hnone, hsome⟩
        have HG5 := hide hG5
        have m0' := hG5.cell m0 (fun q => by have q : V.heap.size = C := q; have := HCV.out; omega)
        have HQ : Hid ((takesT L i ts.length = none → bb = false ∧ u = .slice none 0 0 ∧ CkA w0 V5 C (.slice (some ⟨tb, tq, none⟩) L.length tc) (cc.badN i) (.slice va n cap) U) ∧ ∀ W, takesT L i ts.length = some W → bb = true ∧ IS V5 u W ∧ CkA w0 V5 C (.slice (some ⟨tb, tq, none⟩) L.length tc) cc (.slice va n cap) U) := ⟨hnone, hsome⟩
        clear hG5 hnone hsome HTA
        go_upto_region 14 with fail
        go_cut [91] from 88 to 90 (fun s91 wx => s91 = .bool (bb && b) ∧ wx = V5)
        case first =>
          cases bb with
          | false =>
            go_wp2_with fail
            go_meet
            exact ⟨rfl, rfl⟩
          | true =>
            go_wp2_with fail
            go_meet
            exact ⟨rfl, rfl⟩
        case rest =>
          obtain ⟨rfl, hwc⟩ := hcut
          subst hwc
          go_upto_if 91 with fail
          go_cut [12, 13] from 88 to 119 (fun _ _ wx => Hid (CkA w0 wx C (.slice (some ⟨tb, tq, none⟩) L.length tc) (ckT L cc i ts) (.slice va n cap) U ∧ Gw (· = C) V4 wx))
          case first =>
            cases hax : takesT L i ts.length with
            | none =>
              obtain ⟨rfl, rfl, hA5⟩ := HQ.out.1 hax
              have hck := ckT_none (c := cc) hax
              have HA6 := hide hA5
              have HCK := hide hck
              clear hA5 hck hax HQ
              simp only [Bool.false_and]
              go_wp2_with fail
              go_meet
              exact ⟨by rw [HCK.out]; exact HA6.out, HG5.out⟩
            | some W =>
              obtain ⟨rfl, his, hA5⟩ := HQ.out.2 W hax
              have hck := ckT_some (c := cc) hax
              have HA6 := hide hA5
              have HCK := hide hck
              have HTP := hide HS.out.typed
              clear hA5 hck hax HQ
              cases b with
              | false =>
                obtain ⟨ua, ub, uo, uc, rfl, hua, huc⟩ := his
                clear hua huc
                go_wp2_with fail
                go_meet
                refine ⟨?_, HG5.out⟩
                rw [HCK.out]
                have hc := HTP.out
                have hc : ts.contains 3 = true := by cases h : ts.contains 3 with | true => rfl | false => rw [h] at hc; cases hc
                simp only [hc, if_true]
                exact HA6.out
              | true =>
                obtain ⟨ua, ub, uo, uc, rfl, hua, huc⟩ := his
                have HUA := hide hua
                have HUC := hide huc
                have HTC : Hid (ts.contains 3 = false) := by
                  show _ = _
                  have hc := HTP.out
                  cases h : ts.contains 3 with | false => rfl | true => rw [h] at hc; cases hc
                have hO5 := HG5.out.own HS.out.own (fun k hk q => by have := (HS.out.own.lt k hk).1; omega)
                have hIT := RwG.is (l := ts) (RwG.of_own (G := fun _ => True) hO5 (fun _ _ => trivial))
                obtain ⟨_, tb2, to2, tc2, e9, hta, htc⟩ := hIT
                injection e9 with e9 _ e10
                subst e9 e10
                have HTA2 := hide hta
                have HTC2 := hide htc
                have HTL : Hid (ts.length ≤ 100000) := hts
                clear hua huc hta htc hO5
                obtain ⟨V5, hV5⟩ : ∃ W, W = wc := ⟨_, rfl⟩
                subst hV5
                go_wp2_with fail
                go_loopw [12, 13] (fun v12 v13 wr => ∃ k : Nat, k ≤ ts.length ∧ v13 = .int .i64 k ∧ ∃ sm, v12 = .bool sm ∧ Hid ((sm = true → W.length = ts.length ∧ W.take k = ts.take k) ∧ (sm = false → W ≠ ts) ∧ Below V5.heap.size V5 wr)) (fun _ v13 _ => ts.length - (intOf v13).toNat)
                case atStart =>
                  refine ⟨0, Nat.zero_le _, rfl, _, rfl, fun h => ⟨?_, by simp⟩, fun h q => ?_, Below.refl _ _⟩
                  · have h := eq_of_beq h
                    omega
                  · rw [q] at h; simp at h
                case round =>
                  obtain ⟨k, hk, rfl, sm, rfl, HI⟩ := hrel
                  rename World => V6
                  cases sm with
                  | true =>
                    have HW := hide (HI.out.1 rfl)
                    by_cases hlt : k < ts.length
                    · have hlti : (k : Int) < (ts.length : Int) := by omega
                      have hwl : W.length = ts.length := HW.out.1
                      obtain rfl := HUA.out (by omega)
                      obtain rfl := HTA2.out (by omega)
                      have x1 := cell_kept (HUC.out k (by omega)) HI.out.2.2
                      have x2 := cell_kept (HTC2.out k hlt) HI.out.2.2
                      have hlw : (k : Int) < (W.length : Int) := by omega
                      have HWL := hide hwl
                      obtain ⟨y1, hy1⟩ : ∃ y, W.getD k 0 = y := ⟨_, rfl⟩
                      obtain ⟨y2, hy2⟩ : ∃ y, ts.getD k 0 = y := ⟨_, rfl⟩
                      rw [hy1] at x1
                      rw [hy2] at x2
                      have HY1 := hide hy1
                      have HY2 := hide hy2
                      clear hwl hy1 hy2
                      go_wp2_with fail
                      go_quiet (fail)
                      go_wp2
                      go_roundw
                      case rel =>
                        refine ⟨k + 1, by omega, by go_num, _, rfl, fun h => ⟨HWL.out, ?_⟩, fun h q => ?_, below_drewN HI.out.2.2 _⟩
                        · have h := eq_of_beq h
                          have hw := HWL.out
                          rw [List.take_add_one, List.take_add_one, HW.out.2]
                          congr 1
                          rw [List.getElem?_eq_getElem (by omega), List.getElem?_eq_getElem hlt]
                          rw [← HY1.out, ← HY2.out, List.getD_eq_getElem?_getD, List.getD_eq_getElem?_getD, List.getElem?_eq_getElem (by omega), List.getElem?_eq_getElem hlt] at h
                          rw [show W[k] = ts[k] from h]
                        · have h := ne_of_beq_false h
                          exact h (by rw [← HY1.out, ← HY2.out, q])
                      case measure => simp [intOf]; omega
                    · obtain rfl : k = ts.length := by omega
                      have hge2 : ¬ (ts.length : Int) < (ts.length : Int) := by omega
                      have hW : W = ts := by
                        have h1 := HW.out
                        rw [List.take_of_length_le (by omega), List.take_of_length_le (Nat.le_refl _)] at h1
                        exact h1.2
                      have HWT := hide hW
                      clear hW
                      go_wp2_with fail
                      go_meet
                      refine ⟨?_, HG5.out.bl2 HI.out.2.2⟩
                      rw [HCK.out]
                      simp only [HTC.out, HWT.out]
                      simp only [Bool.false_eq_true, if_false, if_true]
                      exact HA6.out.below HI.out.2.2
                  | false =>
                    have HW := hide (HI.out.2.1 rfl)
                    have HTF := hide (fun W hW => l3typeFault_any (HA6.out.below (V' := W) hW) i)
                    go_wp2_with fail
                    refine (HTF.out _ HI.out.2.2).mono ?_
                    rintro r V7 ⟨rfl, hA7, hG7⟩
                    have HA7 := hide hA7
                    have HG7 := hide hG7
                    clear hA7 hG7
                    go_wp2_with fail
                    go_meet
                    refine ⟨?_, (HG5.out.bl2 HI.out.2.2).trans HG7.out (fun _ _ q => q)⟩
                    rw [HCK.out]
                    simp only [HTC.out]
                    rw [if_neg (by decide), if_neg HW.out]
                    exact HA7.out
          case rest =>
            obtain ⟨V7, hV7⟩ : ∃ W, W = wc := ⟨_, rfl⟩
            subst hV7
            have HA7 := hide hcut.out.1
            have HG7 : Hid (Gw (CkX C (.slice va n cap)) V V7) := HG4.out.trans (Gw.ckx hcut.out.2) (fun _ _ q => q)
            have HCV7 : Hid (Gw (· = C) V3 V7) := HS.out.gw.trans hcut.out.2 (fun _ _ q => q)
            have hC7 := HCV7.out.blk HC3.out (fun q => by have q : V.heap.size = C := q; have := HCV.out; omega)
            have l0 := hC7.cell 0
            have l3 := hC7.cell 3
            simp only [List.getElem?_toArray, List.getElem?_cons_succ, List.getElem?_cons_zero] at l0 l3
            rw [HKD.out] at l0
            have h1v : (ckT L cc i ts).vars = cc.vars := ckT_vars L cc i ts
            have HVN : Hid ((ckT L cc i ts).vars.length = n) := by show _ = _; rw [h1v]; exact HS.out.vars
            have HKC : Hid (∀ (j k : Nat) (V' : World), X[j]? = some k → (∃ g kc', Value.slice ka X.length kc = .slice (some ⟨g, 0, none⟩) X.length kc' ∧ V2.heap.size ≤ g ∧ V7.cell? ⟨g, j, none⟩ = some (.int .i64 (k : Nat)) ∧ ∀ V', Gw (CkX C (.slice va n cap)) V7 V' → V'.cell? ⟨g, j, none⟩ = some (.int .i64 (k : Nat)))) := fun j k V' hj => by
              have hjl : j < X.length := by
                rcases Nat.lt_or_ge j X.length with q | q
                · exact q
                · rw [List.getElem?_eq_none q] at hj; cases hj
              obtain ⟨g, kc', e1, hgB, hcells⟩ := kid_at HKS.out (by omega)
              have hne : ∀ V' , Gw (CkX C (.slice va n cap)) V3 V' → V'.cell? ⟨g, j, none⟩ = some (.int .i64 (k : Nat)) := fun V' hg => hg.cell (hcells j k hj) (fun q => by
                have h1 := HV2.out
                have h2 := HCV.out
                rcases q with q | q
                · have q : g = C := q
                  omega
                · have q : Value.ownBlock _ = some g := q
                  have := HOB.out _ q
                  omega)
              exact ⟨g, kc', e1, hgB, hne V7 (Gw.ckx HCV7.out), fun V' hg => hne V' ((Gw.ckx HCV7.out).trans hg (fun _ _ q => q))⟩
            have HC7 := hide hC7
            obtain ⟨c1, hc1⟩ : ∃ x, ckT L cc i ts = x := ⟨_, rfl⟩
            rw [hc1] at HA7 HVN HE1
            clear hcut hC7 h1v hc1 m0 m3 m0' v1 vf1 HG5
            by_cases q5 : kd = 5
            · subst q5
              rw [if_pos rfl] at HE1
              have hl3 := HG.out.for3 (by omega) (by rw [HD.out]; exact HKD.out)
              rw [HX.out] at hl3
              have hnl := HG.out.name (by omega) (.inr (.inr (.inl (by rw [HD.out]; exact HKD.out))))
              have hnz := HG.out.nm0le (by omega) (by rw [hnl]; exact Nat.one_pos)
              rw [HD.out] at hnl hnz
              obtain ⟨nb, no, nc, nu, e5, hnu, hbs⟩ := HNV.out.nm0 (by rw [hnl]; exact Nat.one_pos)
              injection e5 with e5 _ e6
              subst e5 e6
              have hnur := cell_kept hnu HA7.out.bl
              have HBS := hide hbs
              obtain ⟨na', nb', no', nc', rfl, _, _⟩ := hbs
              obtain ⟨nm, hnm⟩ : ∃ y, d.names.getD 0 .empty = y := ⟨_, rfl⟩
              rw [hnm] at HBS hnz hnur HE1
              have hnl1 : 0 < d.names.length := by omega
              have HNZ := hide hnz
              have v1 := HA7.out.blk.cell 1
              simp only [List.getElem?_toArray, List.getElem?_cons_succ, List.getElem?_cons_zero] at v1
              have hnbl : nb < w0.heap.size := World.block_lt_of_cell? _ _ hnu
              have hlo := HA7.out.lo
              have HNE : Hid (∀ k, Value.ownBlock (.slice va n cap) = some k → V.heap.size ≠ k ∧ nb ≠ k) := fun k hk => by
                have h1 := HOB.out k hk
                omega
              have HNC : Hid (V.heap.size ≠ C ∧ nb ≠ C) := by
                show _ ∧ _
                have := HCV.out
                omega
              have v1a := cell_kept v1 ((Below.refl V7.heap.size V7).alloc (Nat.le_refl _) (.cells #[.slice na' nm.size nc', .int .i64 0, .int .i64 0, .int .i64 0, .string ⟨#[]⟩] 67))
              obtain ⟨k2, hk2⟩ : ∃ k, X[2]? = some k := ⟨X[2]'(by omega), List.getElem?_eq_getElem (by omega)⟩
              have ek2 : X.getD 2 0 = k2 := by rw [List.getD_eq_getElem?_getD, hk2]; rfl
              rw [ek2] at HE1
              obtain ⟨g, kc', e1, hgB, hcl2, hcs2⟩ := HKC.out 2 k2 V7 hk2
              injection e1 with e1 _ e2
              subst e1 e2
              have hgd2 := HGD.out 2 k2 hk2
              have HCS2 := hide hcs2
              have HGD2 := hide hgd2.1
              have HGE2 : Hid (n + 1 + 4000 ≤ 10000 + k2) := by show _ ≤ _; have := HV.out; omega
              have hlx2 : (2 : Int) < (X.length : Int) := by omega
              clear hnbl hlo hnz hnl hnm hnu hcl2 hcs2 hgd2 hk2 ek2 hl3
              go_wp2_with fail
              refine wp_region_held_drew (S := fun W => Hid (W.cell? ⟨V.heap.size, 3, none⟩ = some (.slice (some ⟨nb, no, none⟩) d.names.length c2) ∧ W.cell? ⟨nb, no, none⟩ = some (.slice na' nm.size nc'))) (by kernel_rfl) (⟨l3, hnur⟩) (fun hHeld => ?_)
              refine wpAnyH_take (i := 0) (v := ?_) rfl (by kernel_rfl) (by kernel_rfl) (by kernel_rfl) (fun _ _ _ h => h) (Or.inl ⟨by rfl, ?_⟩) hHeld ?_
              rotate_left 1
              · intro Wx hSW; simp only [List.getElem_toArray, List.getElem_cons_zero]; go_simp; try with_reducible rfl
              try simp only [Act.put, List.getElem_toArray, List.getElem_cons_zero, List.setIfInBounds_toArray, List.set_cons_zero, List.set_cons_succ]
              refine wpAnyH_take (i := 1) (v := ?_) rfl (by kernel_rfl) (by kernel_rfl) (by kernel_rfl) (fun _ _ _ h => h) (Or.inl ⟨by rfl, ?_⟩) hHeld ?_
              rotate_left 1
              · intro Wx hSW; simp only [List.getElem_toArray, List.getElem_cons_zero, List.getElem_cons_succ]; go_simp; try with_reducible rfl
              try simp only [Act.put, List.getElem_toArray, List.getElem_cons_zero, List.getElem_cons_succ, List.setIfInBounds_toArray, List.set_cons_zero, List.set_cons_succ]
              refine wpAnyH_take (i := 2) (v := ?_) rfl (by kernel_rfl) (by kernel_rfl) (by kernel_rfl) (fun _ _ _ h => h) (Or.inl ⟨by rfl, ?_⟩) hHeld ?_
              rotate_left 1
              · intro Wx hSW; simp only [List.getElem_toArray, List.getElem_cons_zero, List.getElem_cons_succ]; go_simp; try with_reducible rfl
              try simp only [Act.put, List.getElem_toArray, List.getElem_cons_zero, List.getElem_cons_succ, List.setIfInBounds_toArray, List.set_cons_zero, List.set_cons_succ]
              refine wpAnyH_take (i := 3) (v := ?_) rfl (by kernel_rfl) (by kernel_rfl) (by kernel_rfl) (fun _ _ _ h => h) (Or.inl ⟨by rfl, ?_⟩) hHeld ?_
              rotate_left 1
              · intro Wx hSW; simp only [List.getElem_toArray, List.getElem_cons_zero, List.getElem_cons_succ]; go_simp; try with_reducible rfl
              try simp only [Act.put, List.getElem_toArray, List.getElem_cons_zero, List.getElem_cons_succ, List.setIfInBounds_toArray, List.set_cons_zero, List.set_cons_succ]
              refine wpAnyH_take (i := 5) (v := ?_) rfl (by kernel_rfl) (by kernel_rfl) (by kernel_rfl) (fun _ _ _ h => h) (Or.inl ⟨by rfl, ?_⟩) hHeld ?_
              rotate_left 1
              · intro Wx hSW; simp only [List.getElem_toArray, List.getElem_cons_zero, List.getElem_cons_succ]; go_simp; try with_reducible rfl
              try simp only [Act.put, List.getElem_toArray, List.getElem_cons_zero, List.getElem_cons_succ, List.setIfInBounds_toArray, List.set_cons_zero, List.set_cons_succ]
              refine wpAnyH_take (i := 6) (v := ?_) rfl (by kernel_rfl) (by kernel_rfl) (by kernel_rfl) (fun _ _ _ h => h) (Or.inl ⟨by rfl, ?_⟩) hHeld ?_
              rotate_left 1
              · intro Wx hSW; simp only [List.getElem_toArray, List.getElem_cons_zero, List.getElem_cons_succ]; obtain ⟨s1, s2⟩ := hSW.out; go_simp; try with_reducible rfl
              try simp only [Act.put, List.getElem_toArray, List.getElem_cons_zero, List.getElem_cons_succ, List.setIfInBounds_toArray, List.set_cons_zero, List.set_cons_succ]
              refine wpAnyH_take (i := 7) (v := ?_) rfl (by kernel_rfl) (by kernel_rfl) (by kernel_rfl) (fun _ _ _ h => h) (Or.inl ⟨by rfl, ?_⟩) hHeld ?_
              rotate_left 1
              · intro Wx hSW; simp only [List.getElem_toArray, List.getElem_cons_zero, List.getElem_cons_succ]; obtain ⟨s1, s2⟩ := hSW.out; go_simp; try with_reducible rfl
              try simp only [Act.put, List.getElem_toArray, List.getElem_cons_zero, List.getElem_cons_succ, List.setIfInBounds_toArray, List.set_cons_zero, List.set_cons_succ]
              refine wpAnyH_take (i := 8) (v := ?_) rfl (by kernel_rfl) (by kernel_rfl) (by kernel_rfl) (fun _ _ _ h => h) (Or.inl ⟨by rfl, ?_⟩) hHeld ?_
              rotate_left 1
              · intro Wx hSW; simp only [List.getElem_toArray, List.getElem_cons_zero, List.getElem_cons_succ]; obtain ⟨s1, s2⟩ := hSW.out; go_simp; try with_reducible rfl
              try simp only [Act.put, List.getElem_toArray, List.getElem_cons_zero, List.getElem_cons_succ, List.setIfInBounds_toArray, List.set_cons_zero, List.set_cons_succ]
              refine wpAnyH_take (i := 9) (v := ?_) rfl (by kernel_rfl) (by kernel_rfl) (by kernel_rfl) (fun _ _ _ h => h) (Or.inl ⟨by rfl, ?_⟩) hHeld ?_
              rotate_left 1
              · intro Wx hSW; simp only [List.getElem_toArray, List.getElem_cons_zero, List.getElem_cons_succ]; go_simp; try with_reducible rfl
              try simp only [Act.put, List.getElem_toArray, List.getElem_cons_zero, List.getElem_cons_succ, List.setIfInBounds_toArray, List.set_cons_zero, List.set_cons_succ]
              apply key_rest
              · intro HKEY
                refine wpAnyH_ready (rs := [4, 10]) (by kernel_rfl) (by simp) ?_
                refine AllReadyH.cons rfl (fun K hK => ?_) (AllReadyH.cons rfl (fun K hK => ?_) AllReadyH.nil)
                · go_simp
                  refine hK.out _ _ (hHeld) (fun hHeld => ?_)
                  clear hK K
                  try simp only [Act.put, List.getElem_toArray, List.getElem_cons_zero, List.getElem_cons_succ, List.setIfInBounds_toArray, List.set_cons_zero, List.set_cons_succ]
                  refine wpAnyH_ready (rs := [10]) (by kernel_rfl) (by simp) ?_
                  refine AllReadyH.cons rfl (fun K hK => ?_) AllReadyH.nil
                  go_simp
                  refine hK.out _ _ (⟨cell_kept hHeld.out.1 ((Below.refl _ _).alloc (Nat.le_refl _) _), cell_kept hHeld.out.2 ((Below.refl _ _).alloc (Nat.le_refl _) _)⟩) (fun hHeld => ?_)
                  clear hK K
                  try simp only [Act.put, List.getElem_toArray, List.getElem_cons_zero, List.getElem_cons_succ, List.setIfInBounds_toArray, List.set_cons_zero, List.set_cons_succ]
                  exact HKEY.out
                · go_simp
                  refine hK.out _ _ (⟨cell_kept hHeld.out.1 ((Below.refl _ _).alloc (Nat.le_refl _) _), cell_kept hHeld.out.2 ((Below.refl _ _).alloc (Nat.le_refl _) _)⟩) (fun hHeld => ?_)
                  clear hK K
                  try simp only [Act.put, List.getElem_toArray, List.getElem_cons_zero, List.getElem_cons_succ, List.setIfInBounds_toArray, List.set_cons_zero, List.set_cons_succ]
                  refine wpAnyH_ready (rs := [4]) (by kernel_rfl) (by simp) ?_
                  refine AllReadyH.cons rfl (fun K hK => ?_) AllReadyH.nil
                  go_simp
                  refine hK.out _ _ (hHeld) (fun hHeld => ?_)
                  clear hK K
                  try simp only [Act.put, List.getElem_toArray, List.getElem_cons_zero, List.getElem_cons_succ, List.setIfInBounds_toArray, List.set_cons_zero, List.set_cons_succ]
                  exact HKEY.out
              obtain ⟨W5, hW5⟩ : ∃ W, (World.alloc V7 (.cells #[.slice na' nm.size nc', .int .i64 0, .int .i64 0, .int .i64 0, .string ⟨#[]⟩] 67)).drew = W := ⟨_, rfl⟩
              have hb5 : Below V7.heap.size V7 W5 := by rw [← hW5]; exact ((Below.refl _ _).alloc (Nat.le_refl _) _).drew
              have hA5 := HA7.out.below hb5
              have HA5 := hide hA5
              have hO5 := hA5.vo.own
              rw [List.length_map, HVN.out] at hO5
              have HO5 := hide hO5
              have hbk : Blk W5 V7.heap.size 67 #[.slice na' nm.size nc', .int .i64 0, .int .i64 0, .int .i64 0, .string ⟨#[]⟩] := by rw [← hW5]; exact Blk.new _ _ _
              have HBk := hide (Cs.of_blk hbk)
              have hsz : C + 1 ≤ W5.heap.size := by have := hA5.blk.lt; omega
              have hn10 : n + 1 ≤ 10000000 := by have := HV.out; omega
              have HB5 := hide hb5
              have HX1 := hide (And.intro (cell_kept l3 hb5) (cell_kept hnur hb5))
              rw [hW5]
              clear hA5 hO5 hbk hb5 hW5 hHeld
              refine wpAnyH_ready (rs := [11]) (by kernel_rfl) (by simp) ?_
              refine AllReadyH.cons rfl (fun K hK => ?_) AllReadyH.nil
              refine step_appGVr rfl (.tmp 127) (.tmp 133) rfl (C + 1) _ _ _ rfl HO5.out V7.heap.size 0 1 1 ((vrOf (nm, 0)).cs (.slice na' nm.size nc')) rfl rfl (fun j u hj => by rw [Nat.zero_add]; exact HBk.out j u hj) (fun u hu => ?_) hn10 hsz ?_
              · rcases List.mem_cons.1 hu with rfl | hu
                · rfl
                · rcases List.mem_cons.1 hu with rfl | hu
                  · rfl
                  · rcases List.mem_cons.1 hu with rfl | hu
                    · rfl
                    · rcases List.mem_cons.1 hu with rfl | hu
                      · rfl
                      · rw [List.mem_singleton.1 hu]; rfl
              intro v' V6 hown hgr hat
              obtain ⟨v6a, v6c, rfl⟩ := own_sl hown
              have HA8 := hide (HA5.out.app HVN.out HBS.out HNZ.out hown hgr)
              have hG6 : Gw (fun k => Value.ownBlock (.slice va n cap) = some k) W5 V6 := Gw.of_grown hgr (fun _ hk _ => hk)
              have hbl6 := hG6.blk HA5.out.blk (fun q => by have := (HA5.out.vo.own.lt _ q).1; omega)
              have w1 := hbl6.cell 1
              have wf1 := hbl6.frozen 1
              simp only [List.getElem?_toArray, List.getElem?_cons_succ, List.getElem?_cons_zero] at w1
              have HG6 := hide hG6
              have HAT := hide hat
              clear hown hgr hat hG6 hbl6 HO5 HBk hsz hn10
              refine hK.out _ _ (⟨HG6.out.cell HX1.out.1 (fun q => (HNE.out _ q).1 rfl), HG6.out.cell HX1.out.2 (fun q => (HNE.out _ q).2 rfl)⟩) (fun hHeld => ?_)
              clear hK K
              try simp only [Act.put, List.getElem_toArray, List.getElem_cons_zero, List.getElem_cons_succ, List.setIfInBounds_toArray, List.set_cons_zero, List.set_cons_succ]
              refine wpAnyH_take (i := 12) (v := ?_) rfl (by kernel_rfl) (by kernel_rfl) (by kernel_rfl) (fun _ _ _ h => h) (Or.inl ⟨by rfl, ?_⟩) hHeld ?_
              rotate_left 1
              · intro Wx hSW; simp only [List.getElem_toArray, List.getElem_cons_zero, List.getElem_cons_succ]; go_simp; try with_reducible rfl
              try simp only [Act.put, List.getElem_toArray, List.getElem_cons_zero, List.getElem_cons_succ, List.setIfInBounds_toArray, List.set_cons_zero, List.set_cons_succ]
              refine wpAnyH_take (i := 13) (v := ?_) rfl (by kernel_rfl) (by kernel_rfl) (by kernel_rfl) (fun _ _ _ h => h) (Or.inl ⟨by rfl, ?_⟩) hHeld ?_
              rotate_left 1
              · intro Wx hSW; simp only [List.getElem_toArray, List.getElem_cons_zero, List.getElem_cons_succ]; go_simp; try with_reducible rfl
              try simp only [Act.put, List.getElem_toArray, List.getElem_cons_zero, List.getElem_cons_succ, List.setIfInBounds_toArray, List.set_cons_zero, List.set_cons_succ]
              refine wpAnyH_ready (rs := [14]) (by kernel_rfl) (by simp) ?_
              refine AllReadyH.cons rfl (fun K hK => ?_) AllReadyH.nil
              go_simp
              refine hK.out _ _ (⟨(Gw.set _ _ _ _).cell hHeld.out.1 HNC.out.1, (Gw.set _ _ _ _).cell hHeld.out.2 HNC.out.2⟩) (fun hHeld => ?_)
              clear hK K
              try simp only [Act.put, List.getElem_toArray, List.getElem_cons_zero, List.getElem_cons_succ, List.setIfInBounds_toArray, List.set_cons_zero, List.set_cons_succ]
              refine wpAnyH_done (by kernel_rfl) ?_ _
              have HG8 : Hid (Gw (CkX C (.slice va n cap)) V7 (V6.setCell ⟨C, 1, none⟩ (.slice v6a (n + 1) v6c))) := ((Gw.of_below HB5.out (P := CkX C (.slice va n cap))).trans HG6.out (fun _ _ q => .inr q)).trans (Gw.set _ _ _ _) (fun _ _ q => .inl q)
              have HM8 : Hid (CkM V (.slice va n cap) (.slice v6a (n + 1) v6c)) := by
                show CkM _ _ _
                rcases HAT.out with q | q
                · exact .inl q
                · exact .inr ⟨_, q, by have := HB5.out.size; have := HG7.out.size; omega⟩
              obtain ⟨V8, hV8⟩ : ∃ W, V6.setCell ⟨C, 1, none⟩ (.slice v6a (n + 1) v6c) = W := ⟨_, rfl⟩
              rw [hV8] at HA8 HG8 ⊢
              have hcl2 := HCS2.out V8 HG8.out
              have HGV : Hid (Gw (CkX C (.slice va n cap)) V V8) := HG7.out.trans HG8.out (fun _ _ q => q)
              have HB2 : Hid (Calls Tryd.prog 29 #[.pointer (some ⟨C, 0, none⟩), .int .i64 (k2 : Nat)] V8 (StQ w0 C (.slice (some ⟨tb, tq, none⟩) L.length tc) (.slice v6a (n + 1) v6c) V8 (ckB L (ckS L F) { c1 with vars := c1.vars ++ [(nm, 0)] } k2))) := HIB.out F k2 _ _ _ V8 (by have := HF.out; omega) HGD2.out HA8.out (by show (c1.vars ++ [(nm, (0 : Int))]).length + 4000 ≤ _; rw [List.length_append, HVN.out]; exact HGE2.out)
              have HVB : Hid ((ckB L (ckS L F) { c1 with vars := c1.vars ++ [(nm, 0)] } k2).vars = c1.vars ++ [(nm, 0)]) := rfl
              have HNE8 : Hid (∀ k, Value.ownBlock (.slice v6a (n + 1) v6c) = some k → V.heap.size ≠ k) := fun k hk => by
                rcases HAT.out with q | q
                · rw [hk] at q
                  exact (HNE.out k q.symm).1
                · rw [hk] at q
                  injection q with q
                  have := HB5.out.size
                  have := HC7.out.lt
                  omega
              have l0' := HG8.out.cell l0 (fun q => by
                rcases q with q | q
                · exact HNC.out.1 q
                · exact (HNE.out _ q).1 rfl)
              clear hV8 w1 wf1 hHeld v1 v1a hnur l3 l0 HA5 HX1 HG6 HAT HB5
              go_wp2_with fail
              refine HB2.out.mono ?_
              rintro r V9 ⟨rfl, vv9, U9, hA9, hG9, hM9⟩
              obtain ⟨c9, hc9⟩ : ∃ x, ckB L (ckS L F) { c1 with vars := c1.vars ++ [(nm, 0)] } k2 = x := ⟨_, rfl⟩
              rw [hc9] at hA9 HVB HE1
              obtain ⟨a9, cap9, hvv9, hcap9, _⟩ := hA9.own
              subst hvv9
              have hl9 : c9.vars.length = n + 1 := by rw [HVB.out, List.length_append, HVN.out]; rfl
              have hcut := hA9.cut HVB.out
              rw [HVN.out] at hcut
              have HCUT := hide hcut
              have y1 := hA9.blk.cell 1
              have yf1 := hA9.blk.frozen 1
              have y0 := hA9.blk.cell 0
              simp only [List.getElem?_toArray, List.getElem?_cons_succ, List.getElem?_cons_zero] at y0 y1
              rw [hl9] at y1 hcap9 hM9
              have m0 := hG9.cell l0' (fun q => by
                rcases q with q | q
                · exact HNC.out.1 q
                · exact HNE8.out _ q rfl)
              have HG9 := hide hG9
              have HM9 := hide hM9
              have hcap9' : ((n : Int)) ≤ (cap9 : Int) := by omega
              have hn1 : ((n + 1 : Nat) : Int) - 1 = (n : Int) := by omega
              have hwn : IntKind.i64.wrap (n : Int) = (n : Int) := by rw [IntKind.wrap_i64]; have := HV.out; omega
              have hn00 : (0 : Int) ≤ (n : Int) := by omega
              clear hA9 hcut hl9 hG9 hM9 hc9 HB2 hcap9
              go_wp2_with fail
              refine wp_region_held_drew (S := fun _ => Hid True) (by kernel_rfl) (trivial) (fun hHeld => ?_)
              refine wpAnyH_take (i := 0) (v := ?_) rfl (by kernel_rfl) (by kernel_rfl) (by kernel_rfl) (fun _ _ _ h => h) (Or.inl ⟨by rfl, ?_⟩) hHeld ?_
              rotate_left 1
              · intro Wx hSW; simp only [List.getElem_toArray, List.getElem_cons_zero]; go_simp; try with_reducible rfl
              try simp only [Act.put, List.getElem_toArray, List.getElem_cons_zero, List.setIfInBounds_toArray, List.set_cons_zero, List.set_cons_succ]
              refine wpAnyH_take (i := 1) (v := ?_) rfl (by kernel_rfl) (by kernel_rfl) (by kernel_rfl) (fun _ _ _ h => h) (Or.inl ⟨by rfl, ?_⟩) hHeld ?_
              rotate_left 1
              · intro Wx hSW; simp only [List.getElem_toArray, List.getElem_cons_zero, List.getElem_cons_succ]; go_simp; try with_reducible rfl
              try simp only [Act.put, List.getElem_toArray, List.getElem_cons_zero, List.getElem_cons_succ, List.setIfInBounds_toArray, List.set_cons_zero, List.set_cons_succ]
              refine wpAnyH_take (i := 2) (v := ?_) rfl (by kernel_rfl) (by kernel_rfl) (by kernel_rfl) (fun _ _ _ h => h) (Or.inl ⟨by rfl, ?_⟩) hHeld ?_
              rotate_left 1
              · intro Wx hSW; simp only [List.getElem_toArray, List.getElem_cons_zero, List.getElem_cons_succ]; go_simp; try with_reducible rfl
              try simp only [Act.put, List.getElem_toArray, List.getElem_cons_zero, List.getElem_cons_succ, List.setIfInBounds_toArray, List.set_cons_zero, List.set_cons_succ]
              refine wpAnyH_take (i := 3) (v := ?_) rfl (by kernel_rfl) (by kernel_rfl) (by kernel_rfl) (fun _ _ _ h => h) (Or.inl ⟨by rfl, ?_⟩) hHeld ?_
              rotate_left 1
              · intro Wx hSW; simp only [List.getElem_toArray, List.getElem_cons_zero, List.getElem_cons_succ]; go_simp; try with_reducible rfl
              try simp only [Act.put, List.getElem_toArray, List.getElem_cons_zero, List.getElem_cons_succ, List.setIfInBounds_toArray, List.set_cons_zero, List.set_cons_succ]
              refine wpAnyH_take (i := 5) (v := ?_) rfl (by kernel_rfl) (by kernel_rfl) (by kernel_rfl) (fun _ _ _ h => h) (Or.inl ⟨by rfl, ?_⟩) hHeld ?_
              rotate_left 1
              · intro Wx hSW; simp only [List.getElem_toArray, List.getElem_cons_zero, List.getElem_cons_succ]; go_simp; try with_reducible rfl
              try simp only [Act.put, List.getElem_toArray, List.getElem_cons_zero, List.getElem_cons_succ, List.setIfInBounds_toArray, List.set_cons_zero, List.set_cons_succ]
              refine wpAnyH_take (i := 6) (v := ?_) rfl (by kernel_rfl) (by kernel_rfl) (by kernel_rfl) (fun _ _ _ h => h) (Or.inl ⟨by rfl, ?_⟩) hHeld ?_
              rotate_left 1
              · intro Wx hSW; simp only [List.getElem_toArray, List.getElem_cons_zero, List.getElem_cons_succ]; go_simp; try with_reducible rfl
              try simp only [Act.put, List.getElem_toArray, List.getElem_cons_zero, List.getElem_cons_succ, List.setIfInBounds_toArray, List.set_cons_zero, List.set_cons_succ]
              refine wpAnyH_take (i := 7) (v := ?_) rfl (by kernel_rfl) (by kernel_rfl) (by kernel_rfl) (fun _ _ _ h => h) (Or.inl ⟨by rfl, ?_⟩) hHeld ?_
              rotate_left 1
              · intro Wx hSW; simp only [List.getElem_toArray, List.getElem_cons_zero, List.getElem_cons_succ]; go_simp; try with_reducible rfl
              try simp only [Act.put, List.getElem_toArray, List.getElem_cons_zero, List.getElem_cons_succ, List.setIfInBounds_toArray, List.set_cons_zero, List.set_cons_succ]
              apply key_rest
              · intro HKEY
                refine wpAnyH_ready (rs := [4, 8]) (by kernel_rfl) (by simp) ?_
                refine AllReadyH.cons rfl (fun K hK => ?_) (AllReadyH.cons rfl (fun K hK => ?_) AllReadyH.nil)
                · go_simp
                  refine hK.out _ _ trivial (fun hHeld => ?_)
                  clear hK K
                  try simp only [Act.put, List.getElem_toArray, List.getElem_cons_zero, List.getElem_cons_succ, List.setIfInBounds_toArray, List.set_cons_zero, List.set_cons_succ]
                  refine wpAnyH_ready (rs := [8]) (by kernel_rfl) (by simp) ?_
                  refine AllReadyH.cons rfl (fun K hK => ?_) AllReadyH.nil
                  go_simp
                  refine hK.out _ _ trivial (fun hHeld => ?_)
                  clear hK K
                  try simp only [Act.put, List.getElem_toArray, List.getElem_cons_zero, List.getElem_cons_succ, List.setIfInBounds_toArray, List.set_cons_zero, List.set_cons_succ]
                  refine wpAnyH_take (i := 9) (v := ?_) rfl (by kernel_rfl) (by kernel_rfl) (by kernel_rfl) (fun _ _ _ h => h) (Or.inl ⟨by rfl, ?_⟩) hHeld ?_
                  rotate_left 1
                  · intro Wx hSW; simp only [List.getElem_toArray, List.getElem_cons_zero, List.getElem_cons_succ]; go_simp; try with_reducible rfl
                  try simp only [Act.put, List.getElem_toArray, List.getElem_cons_zero, List.getElem_cons_succ, List.setIfInBounds_toArray, List.set_cons_zero, List.set_cons_succ]
                  refine wpAnyH_take (i := 10) (v := ?_) rfl (by kernel_rfl) (by kernel_rfl) (by kernel_rfl) (fun _ _ _ h => h) (Or.inl ⟨by rfl, ?_⟩) hHeld ?_
                  rotate_left 1
                  · intro Wx hSW; simp only [List.getElem_toArray, List.getElem_cons_zero, List.getElem_cons_succ]; go_simp; try with_reducible rfl
                  try simp only [Act.put, List.getElem_toArray, List.getElem_cons_zero, List.getElem_cons_succ, List.setIfInBounds_toArray, List.set_cons_zero, List.set_cons_succ]
                  exact HKEY.out
                · go_simp
                  refine hK.out _ _ trivial (fun hHeld => ?_)
                  clear hK K
                  try simp only [Act.put, List.getElem_toArray, List.getElem_cons_zero, List.getElem_cons_succ, List.setIfInBounds_toArray, List.set_cons_zero, List.set_cons_succ]
                  refine wpAnyH_take (i := 9) (v := ?_) rfl (by kernel_rfl) (by kernel_rfl) (by kernel_rfl) (fun _ _ _ h => h) (Or.inl ⟨by rfl, ?_⟩) hHeld ?_
                  rotate_left 1
                  · intro Wx hSW; simp only [List.getElem_toArray, List.getElem_cons_zero, List.getElem_cons_succ]; go_simp; try with_reducible rfl
                  try simp only [Act.put, List.getElem_toArray, List.getElem_cons_zero, List.getElem_cons_succ, List.setIfInBounds_toArray, List.set_cons_zero, List.set_cons_succ]
                  refine wpAnyH_take (i := 10) (v := ?_) rfl (by kernel_rfl) (by kernel_rfl) (by kernel_rfl) (fun _ _ _ h => h) (Or.inl ⟨by rfl, ?_⟩) hHeld ?_
                  rotate_left 1
                  · intro Wx hSW; simp only [List.getElem_toArray, List.getElem_cons_zero, List.getElem_cons_succ]; go_simp; try with_reducible rfl
                  try simp only [Act.put, List.getElem_toArray, List.getElem_cons_zero, List.getElem_cons_succ, List.setIfInBounds_toArray, List.set_cons_zero, List.set_cons_succ]
                  refine wpAnyH_ready (rs := [4]) (by kernel_rfl) (by simp) ?_
                  refine AllReadyH.cons rfl (fun K hK => ?_) AllReadyH.nil
                  go_simp
                  refine hK.out _ _ trivial (fun hHeld => ?_)
                  clear hK K
                  try simp only [Act.put, List.getElem_toArray, List.getElem_cons_zero, List.getElem_cons_succ, List.setIfInBounds_toArray, List.set_cons_zero, List.set_cons_succ]
                  exact HKEY.out
              refine wpAnyH_take (i := 11) (v := ?_) rfl (by kernel_rfl) (by kernel_rfl) (by kernel_rfl) (fun _ _ _ h => h) (Or.inl ⟨by rfl, ?_⟩) hHeld ?_
              rotate_left 1
              · intro Wx hSW; simp only [List.getElem_toArray, List.getElem_cons_zero, List.getElem_cons_succ]; go_simp; try with_reducible rfl
              try simp only [Act.put, List.getElem_toArray, List.getElem_cons_zero, List.getElem_cons_succ, List.setIfInBounds_toArray, List.set_cons_zero, List.set_cons_succ]
              refine wpAnyH_take (i := 12) (v := ?_) rfl (by kernel_rfl) (by kernel_rfl) (by kernel_rfl) (fun _ _ _ h => h) (Or.inl ⟨by rfl, ?_⟩) hHeld ?_
              rotate_left 1
              · intro Wx hSW; simp only [List.getElem_toArray, List.getElem_cons_zero, List.getElem_cons_succ]; go_simp; try with_reducible rfl
              try simp only [Act.put, List.getElem_toArray, List.getElem_cons_zero, List.getElem_cons_succ, List.setIfInBounds_toArray, List.set_cons_zero, List.set_cons_succ]
              refine wpAnyH_take (i := 13) (v := ?_) rfl (by kernel_rfl) (by kernel_rfl) (by kernel_rfl) (fun _ _ _ h => h) (Or.inl ⟨by rfl, ?_⟩) hHeld ?_
              rotate_left 1
              · intro Wx hSW; simp only [List.getElem_toArray, List.getElem_cons_zero, List.getElem_cons_succ]; go_simp; try with_reducible rfl
              try simp only [Act.put, List.getElem_toArray, List.getElem_cons_zero, List.getElem_cons_succ, List.setIfInBounds_toArray, List.set_cons_zero, List.set_cons_succ]
              refine wpAnyH_ready (rs := [14]) (by kernel_rfl) (by simp) ?_
              refine AllReadyH.cons rfl (fun K hK => ?_) AllReadyH.nil
              go_simp
              refine hK.out _ _ (trivial) (fun hHeld => ?_)
              clear hK K
              try simp only [Act.put, List.getElem_toArray, List.getElem_cons_zero, List.getElem_cons_succ, List.setIfInBounds_toArray, List.set_cons_zero, List.set_cons_succ]
              refine wpAnyH_done (by kernel_rfl) ?_ _
              have m0s := (Gw.set V9 C 1 (.slice a9 n cap9)).cell m0 HNC.out.1
              go_wp2
              refine bodyPost_ret (results_none rfl _ _ _) rfl ?_
              rw [HE1.out]
              refine ⟨rfl, _, _, HCUT.out.below (Below.refl _ _).drew, ?_, ?_⟩
              · exact ((CkX.trans HGV.out HM8.out HG9.out).trans (Gw.set _ _ _ _) (fun _ _ q => .inl q)).trans (Gw.of_below (P := CkX C (.slice va n cap)) (Below.refl _ _).drew) (fun _ _ q => q)
              · have hm := HM8.out.trans HM9.out HGV.out.size
                rcases hm with q | ⟨b', q, hb'⟩
                · exact .inl (by rw [← q]; exact own_cut)
                · exact .inr ⟨b', by rw [← q]; exact own_cut, hb'⟩
            · have t5 : (kd == 5) = false := by rw [beq_eq_false_iff_ne]; exact q5
              rw [if_neg q5] at HE1
              by_cases q6 : kd = 6
              · subst q6
                rw [if_pos rfl] at HE1
                have hl23 := HG.out.if23 (by omega) (by rw [HD.out]; exact HKD.out)
                rw [HX.out] at hl23
                obtain ⟨k1, hk1⟩ : ∃ k, X[1]? = some k := ⟨X[1]'(by omega), List.getElem?_eq_getElem (by omega)⟩
                have ek1 : X.getD 1 0 = k1 := by rw [List.getD_eq_getElem?_getD, hk1]; rfl
                rw [ek1] at HE1
                obtain ⟨g, kc', e1, hgB, hcl1, _⟩ := HKC.out 1 k1 V7 hk1
                injection e1 with e1 _ e2
                subst e1 e2
                have hgd1 := HGD.out 1 k1 hk1
                have HB1 : Hid (Calls Tryd.prog 29 #[.pointer (some ⟨C, 0, none⟩), .int .i64 (k1 : Nat)] V7 (StQ w0 C (.slice (some ⟨tb, tq, none⟩) L.length tc) (.slice va n cap) V7 (ckB L (ckS L F) c1 k1))) := HIB.out F k1 c1 _ U V7 (by have := HF.out; omega) hgd1.1 HA7.out (by rw [HVN.out]; have := HV.out; omega)
                have hlx : (1 : Int) < (X.length : Int) := by omega
                have HVB : Hid ((ckB L (ckS L F) c1 k1).vars.length = n) := HVN.out
                clear hgd1 hk1 ek1 hgB q5
                go_wp2_with fail
                refine HB1.out.mono ?_
                rintro r V8 ⟨rfl, vv8, U8, hA8, hG8, hM8⟩
                obtain ⟨c2, hc2⟩ : ∃ x, ckB L (ckS L F) c1 k1 = x := ⟨_, rfl⟩
                rw [hc2] at hA8 HE1 HVB
                have HA8 := hide hA8
                have HG8 := hide hG8
                have HM8 := hide hM8
                have l0' := hG8.cell l0 (fun q => by
                  have h1 := HCV.out
                  rcases q with q | q
                  · have q : V.heap.size = C := q
                    omega
                  · have q : Value.ownBlock _ = some V.heap.size := q
                    have := HOB.out _ q
                    omega)
                have HGV : Hid (Gw (CkX C (.slice va n cap)) V V8) := HG7.out.trans hG8 (fun _ _ q => q)
                have HMV : Hid (CkM V (.slice va n cap) vv8) := (CkM.refl V _).trans hM8 HG7.out.size
                clear hA8 hG8 hM8 HB1 hc2 l0 l3 hcl1
                by_cases q2 : X.length = 2
                · have t2 : ((X.length : Int) == 3) = false := by rw [beq_eq_false_iff_ne]; omega
                  rw [if_neg (fun q => by omega), if_neg (by omega)] at HE1
                  clear q2 hl23
                  go_wp2_with fail
                  go_quiet (fail)
                  go_wp2
                  refine bodyPost_ret (results_none rfl _ _ _) rfl ?_
                  rw [HE1.out]
                  exact ⟨rfl, _, _, HA8.out.below (below_drewN (Below.refl _ _) _), HGV.out.trans (Gw.of_below (P := CkX C (.slice va n cap)) (below_drewN (Below.refl _ _) _)) (fun _ _ q => q), HMV.out⟩
                · have q3 : X.length = 3 := by omega
                  have t2 : ((X.length : Int) == 3) = true := by rw [beq_iff_eq]; omega
                  obtain ⟨k2, hk2⟩ : ∃ k, X[2]? = some k := ⟨X[2]'(by omega), List.getElem?_eq_getElem (by omega)⟩
                  have ek2 : X.getD 2 0 = k2 := by rw [List.getD_eq_getElem?_getD, hk2]; rfl
                  rw [ek2] at HE1
                  obtain ⟨g', kc', e1, _, _, hcs2⟩ := HKC.out 2 k2 V7 hk2
                  injection e1 with e1 _ e2
                  injection e1 with e1
                  injection e1 with e1
                  subst e1 e2
                  have hcl2 := hcs2 V8 HG8.out
                  obtain ⟨hgd2, hge2, hil2⟩ := HGD.out 2 k2 hk2
                  have p0 := HA8.out.blk.cell 0
                  simp only [List.getElem?_toArray, List.getElem?_cons_zero] at p0
                  obtain ⟨b', o', c', vt', vn', vy', e2, hNC2, _⟩ := HN.out.nod hil2
                  injection e2 with e2 _ e3
                  injection e2 with e2
                  injection e2 with e2 e4
                  subst e2 e3 e4
                  have n0 := (hNC2.below HA8.out.bl).kind
                  have hil2' : (k2 : Int) < (L.length : Int) := by omega
                  have hlx2 : (2 : Int) < (X.length : Int) := by omega
                  have HGD2 := hide hgd2
                  have HGE2 : Hid (n + 4000 ≤ 10000 + k2) := by show _ ≤ _; have := HV.out; omega
                  clear hcs2 hgd2 hge2 hNC2 ek2 hk2 hl23 q2
                  obtain ⟨kk, hkk⟩ : ∃ x, (ndA L k2).kind = x := ⟨_, rfl⟩
                  rw [hkk] at n0 HE1
                  clear hkk
                  by_cases q6 : kk = 6
                  · subst q6
                    rw [if_pos ⟨q3, rfl⟩] at HE1
                    have HCL := hide (fun W (hW : Below V8.heap.size V8 W) => HIS.out F k2 c2 vv8 U8 W (by have := HF.out; omega) HGD2.out (HA8.out.below hW) (by rw [HVB.out]; exact HGE2.out))
                    clear q3
                    go_wp2_with fail
                    go_quiet (fail)
                    go_wp2_with fail
                    refine (HCL.out _ (below_drewN (Below.refl _ _) _)).mono ?_
                    rintro r V9 ⟨rfl, vv9, U9, hA9, hG9, hM9⟩
                    have HA9 := hide hA9
                    have HG9 := hide hG9
                    have HM9 := hide hM9
                    clear hA9 hG9 hM9
                    go_wp2
                    refine bodyPost_ret (results_none rfl _ _ _) rfl ?_
                    rw [HE1.out]
                    exact ⟨rfl, _, _, HA9.out, CkX.trans (HGV.out.trans (Gw.of_below (P := CkX C (.slice va n cap)) (below_drewN (Below.refl _ _) _)) (fun _ _ q => q)) HMV.out HG9.out, HMV.out.trans HM9.out (Nat.le_trans HGV.out.size (below_drewN (Below.refl V8.heap.size V8) _).size)⟩
                  · have t6 : (kk == 6) = false := by rw [beq_eq_false_iff_ne]; exact q6
                    rw [if_neg (fun q => q6 q.2), if_pos q3] at HE1
                    have HCL := hide (fun W (hW : Below V8.heap.size V8 W) => HIB.out F k2 c2 vv8 U8 W (by have := HF.out; omega) HGD2.out (HA8.out.below hW) (by rw [HVB.out]; exact HGE2.out))
                    have hcl3 := fun j => cell_kept hcl2 (below_drewN (Below.refl V8.heap.size V8) j)
                    clear q3 q6
                    go_wp2_with fail
                    go_quiet (fail)
                    go_wp2_with fail
                    refine (HCL.out _ (below_drewN (Below.refl _ _) _)).mono ?_
                    rintro r V9 ⟨rfl, vv9, U9, hA9, hG9, hM9⟩
                    have HA9 := hide hA9
                    have HG9 := hide hG9
                    have HM9 := hide hM9
                    clear hA9 hG9 hM9
                    go_wp2
                    refine bodyPost_ret (results_none rfl _ _ _) rfl ?_
                    rw [HE1.out]
                    exact ⟨rfl, _, _, HA9.out, CkX.trans (HGV.out.trans (Gw.of_below (P := CkX C (.slice va n cap)) (below_drewN (Below.refl _ _) _)) (fun _ _ q => q)) HMV.out HG9.out, HMV.out.trans HM9.out (Nat.le_trans HGV.out.size (below_drewN (Below.refl V8.heap.size V8) _).size)⟩
              · have t6 : (kd == 6) = false := by rw [beq_eq_false_iff_ne]; exact q6
                rw [if_neg q6] at HE1
                clear q5 q6
                go_wp2
                refine bodyPost_ret (results_none rfl _ _ _) rfl ?_
                rw [HE1.out]
                exact ⟨rfl, _, _, HA7.out, HG7.out, CkM.refl _ _⟩
end Go.Proofs.YtdlahabeegmjiaaDoor

/-
  The walk of validTargets.
-/
import Derived.Test.YteicpjbeihabnaaDoorJRunFleetSLT
import Derived.Test.YteicpjbeihabnaaDoorJRunFleetIST
import Derived.Test.YteicpjbeihabnaaDoorJRunFleetIST
import Derived.Test.YteicpjbeihabnaaDoorJRunFleetIST
import Derived.BigQuiet
import Derived.Deep.QuietTactic
import Derived.Maps.OwnOps
import Derived.Maps.OwnSet
import Derived.Maps.Views
import Derived.WideShapes
namespace Go.Proofs.YteicpjbeihabnaaDoor
open Go.RowKit

/-- How many of the first k targets stand on a cell. -/
def cntT (L : List Tg) : Nat → Int → Nat
  | 0, _ => 0
  | k + 1, c => cntT L k c + (if (L.getD k .zero).cell = c then 1 else 0)
theorem cntT_le (L : List Tg) (c : Int) : ∀ k, cntT L k c ≤ k
  | 0 => Nat.le_refl _
  | k + 1 => by have := cntT_le L c k; unfold cntT; split <;> omega
theorem cntT_pos (L : List Tg) (c : Int) : ∀ k, 0 < cntT L k c ↔ ∃ i, i < k ∧ (L.getD i .zero).cell = c
  | 0 => by simp [cntT]
  | k + 1 => by
    have ih := cntT_pos L c k
    unfold cntT
    by_cases h : (L.getD k .zero).cell = c
    · rw [if_pos h]
      exact ⟨fun _ => ⟨k, Nat.lt_succ_self _, h⟩, fun _ => by omega⟩
    · rw [if_neg h, Nat.add_zero, ih]
      constructor
      · rintro ⟨i, h1, h2⟩; exact ⟨i, by omega, h2⟩
      · rintro ⟨i, h1, h2⟩
        refine ⟨i, ?_, h2⟩
        by_cases e : i = k
        · subst e; exact absurd h2 h
        · omega
/-- What the map of who stands where reads as. -/
def MapT (W : World) (b n : Nat) (f : Int → Nat) : Prop :=
  ∃ D : DataW Unit, W.ownsMap Tryd.prog 3 (plainElem Tryd.prog 3) b n D ∧ ∀ c, W64 c → D.atKey (.int .i64 c) (.lit (.int .i64 0)) = .lit (.int .i64 (f c : Nat))
theorem MapT.kept {W W' : World} {row : Option Nat} {b n : Nat} {f : Int → Nat} (h : MapT W b n f) (hg : W.grownBy W' row) (hr : row ≠ some b) : MapT W' b n f := by
  obtain ⟨D, h1, h2⟩ := h
  exact ⟨D, h1.kept hg (fun e => hr e.symm), h2⟩
theorem MapT.look {W : World} {b n : Nat} {f : Int → Nat} (h : MapT W b n f) {c : Int} (hc : W64 c) : (Instr.lookup 87 (.map (some b)) (.int .i64 c) false).run Tryd.prog W = .ok (.int .i64 (f c : Nat)) W := by
  obtain ⟨D, h1, h2⟩ := h
  obtain ⟨v, hrun, hat, _⟩ := h1.lookup_int (Maps.int_keyed Tryd.underlying3) Tryd.underlying87 Tryd.underlying3 (Tryd.zeroValue3 _) (Maps.keyOf_int_mk Tryd.underlying3 hc)
  rw [h2 c hc] at hat
  simp at hat
  rw [hrun, hat]
theorem MapT.put {W : World} {b n : Nat} {f : Int → Nat} (h : MapT W b n f) {c : Int} (hc : W64 c) (hn : n < 1000) (hf : f c < 1000) :
    ∃ W', (Instr.mapUpdate 87 (.map (some b)) (.int .i64 c) (.int .i64 ((f c : Nat) + 1))).run Tryd.prog W = .ok () W' ∧ MapT W' b (n + 1) (fun x => f x + (if c = x then 1 else 0)) ∧ W.grownBy W' (some b) := by
  obtain ⟨D, h1, h2⟩ := h
  have hwf : (Lit.int .i64 (((f c : Nat) : Int) + 1)).wf = true := by
    simp [Lit.wf, IntKind.min, IntKind.max, IntKind.signed, IntKind.bits]
    omega
  obtain ⟨W', hrun, ho, hg⟩ := h1.update (Maps.int_keyed Tryd.underlying3) Tryd.underlying87 (by unfold maxLen; omega) (Maps.keyOf_int_mk Tryd.underlying3 hc) (plainElem_int Tryd.underlying3 hwf)
  refine ⟨W', hrun, ⟨_, ho, fun x hx => ?_⟩, hg⟩
  by_cases e : c = x
  · subst e
    rw [Maps.atKey_put_same h1.isMap (by simp [WideAt.IsKeyLit])]
    simp
  · rw [Maps.atKey_put_other (fun he => e (by simpa using he.symm)), h2 x hx]
    simp [e]
theorem MapT.made (w : World) : MapT (w.alloc (.map #[] 0)) w.heap.size 0 (fun _ => 0) :=
  ⟨.map [], World.ownsMap_made w Tryd.prog 3 (plainElem Tryd.prog 3), fun _ _ => rfl⟩

set_option maxHeartbeats 4000000 in
set_option maxRecDepth 1000000 in
theorem validTargets_any (v : Value) (L : List Tg) (cells : Int) (w : World) (hT : Lib.Utf8Tabs 2 3 w) (hb : TgSB L) (hw : ∀ i, i < L.length → W64 (L.getD i .zero).cell) (h : TgS w v L) :
    Calls Tryd.prog 69 #[v, .int .i64 cells] w fun e w' => Ans (TgsOk cells L) e ∧ Below w.heap.size w w' := by
  obtain ⟨a, b, o, c, rfl, ha, hc⟩ := h
  have hl := hb.len
  have HE := hide hb.each
  have HC := hide hc
  have HT := hide hT
  have HWF := hide hw
  have hmm := @run_makeMap Tryd.prog
  clear hc hb hT hw
  by_cases q0 : 30 < (L.length : Int)
  · have t0 : decide ((30 : Int) < (L.length : Int)) = true := decide_eq_true q0
    have HR : Hid (¬ TgsOk cells L) := fun h => by have := h.len; omega
    go_enter Tryd.func69, Tryd.ntmps69
    go_wp2
    go_ret
    exact ⟨Ans.no HR.out, Below.refl _ _⟩
  have t0 : decide ((30 : Int) < (L.length : Int)) = false := decide_eq_false q0
  have hl30 : L.length ≤ 30 := by omega
  go_enter Tryd.func69, Tryd.ntmps69
  go_wp2
  clear t0 q0
  go_loopw [14] (fun ix wr => ∃ k : Nat, k ≤ L.length ∧ ix = .int .i64 k ∧ (∀ i, i < k → TgOk cells (L.getD i .zero)) ∧ (∀ i, i + 1 < k → Go.Op.bytesLess (L.getD i .zero).name.toList (L.getD (i + 1) .zero).name.toList = true) ∧ (∀ i j, j < i → i < k → (L.getD j .zero).cell ≠ (L.getD i .zero).cell) ∧ MapT wr w.heap.size k (cntT L k) ∧ Below w.heap.size w wr) (fun ix _ => L.length - (intOf ix).toNat)
  case atStart => exact ⟨0, Nat.zero_le _, rfl, fun _ h => absurd h (Nat.not_lt_zero _), fun _ h => absurd h (Nat.not_lt_zero _), fun _ _ _ h => absurd h (Nat.not_lt_zero _), MapT.made w, (Below.refl _ _).alloc (Nat.le_refl _) _⟩
  case round =>
    obtain ⟨k, hk, rfl, hec, has, hdf, hmap, hbl⟩ := hrel
    have HEC := hide hec
    have HAS := hide has
    have HDF := hide hdf
    have HB := hide hbl
    have HMP := hide hmap
    have hmz : w.heap.size < wr.heap.size := by obtain ⟨D, h1, _⟩ := hmap; exact h1.lt
    clear hec has hdf hmap
    by_cases hlt : k < L.length
    · have hlti : (k : Int) < (L.length : Int) := by omega
      obtain rfl := ha (by omega)
      obtain ⟨v0, hnc, hnv⟩ := HC.out k hlt
      have hnb := HE.out k hlt
      have hwk := HWF.out k hlt
      obtain ⟨d, hd⟩ : ∃ d, L.getD k .zero = d := ⟨_, rfl⟩
      rw [hd] at hnc hnv hnb hwk
      have HD := hide hd
      obtain ⟨g0, g1, g2⟩ := hnc.below hbl
      obtain ⟨av, cv, hv⟩ := hnv.name.slice
      subst hv
      obtain ⟨W1, hW1⟩ : ∃ W, wr.alloc (.cells #[.slice av d.name.size cv, .int .i64 d.kind, .int .i64 d.cell] 66) = W := ⟨_, rfl⟩
      have hb1 : Below wr.heap.size wr W1 := by rw [← hW1]; exact (Below.refl _ _).alloc (Nat.le_refl _) _
      have hBk : Blk W1 wr.heap.size 66 #[.slice av d.name.size cv, .int .i64 d.kind, .int .i64 d.cell] := by rw [← hW1]; exact Blk.new _ _ _
      have hM1 : MapT W1 w.heap.size k (cntT L k) := HMP.out.kept (below_grown hb1) (by simp)
      have hl1 := hM1.look hwk
      have hN30 := cntT_le L d.cell k
      obtain ⟨W2, hp2, hM2, hg2⟩ := hM1.put hwk (by omega) (by omega)
      obtain ⟨M, hM⟩ : ∃ M, cntT L k d.cell = M := ⟨_, rfl⟩
      rw [hM] at hl1 hp2 hN30
      have HMM := hide hM
      have hBk2 : Blk W2 wr.heap.size 66 #[.slice av d.name.size cv, .int .i64 d.kind, .int .i64 d.cell] := (hg2.block _ hBk.lt (by intro e; simp at e; omega)).trans hBk
      have hbw1 : Below w.heap.size w W1 := HB.out.trans (hb1.mono HB.out.size)
      have HBW : Hid (Below w.heap.size w W2) := hbw1.grown hg2 hbw1.size (fun k e => by cases e; exact Nat.le_refl _)
      have HM2 : Hid (MapT W2 w.heap.size (k + 1) (cntT L (k + 1))) := by
        have e : (fun x => cntT L k x + (if d.cell = x then 1 else 0)) = cntT L (k + 1) := by
          funext x
          show _ = cntT L k x + (if (L.getD k .zero).cell = x then 1 else 0)
          rw [HD.out]
        rw [← e]; exact hM2
      have HF : Hid (cntT L (k + 1) d.cell = M + 1) := by
        show cntT L k d.cell + (if (L.getD k .zero).cell = d.cell then 1 else 0) = _
        rw [HD.out, if_pos rfl, hM]
      have HBS : Hid (BS W2 (.slice av d.name.size cv) d.name) := hnv.name.below HBW.out
      have z0 := hBk2.cell 0
      have z1 := hBk2.cell 1
      have z2 := hBk2.cell 2
      have x2 := hBk.cell 2
      simp only [List.getElem?_toArray, List.getElem?_cons_succ, List.getElem?_cons_zero] at z0 z1 z2 x2
      have hnl := hnb.name
      have HSH := hide (isShort_any (.slice av d.name.size cv) d.name W2 hnl (Utf8Tabs_below HT.out HBW.out) HBS.out)
      have hW2z : wr.heap.size < W2.heap.size := hBk2.lt
      have HW2z := hide hW2z
      clear hb1 hBk hM1 hM2 hg2 hM hBk2 hbw1 hnc hnv hnb hd hbl hW2z
      by_cases q1 : d.name.size = 0
      · have e1 : (((d.name.size : Nat) : Int) == 0) = true := by rw [beq_iff_eq]; omega
        have HR : Hid (¬ TgsOk cells L) := fun h => by have := (h.each k hlt).s0; rw [HD.out] at this; omega
        clear q1
        go_wp2
        go_ret
        exact ⟨Ans.no HR.out, HBW.out⟩
      have e1 : (((d.name.size : Nat) : Int) == 0) = false := by rw [beq_eq_false_iff_ne]; omega
      have HN0 : Hid (1 ≤ d.name.size) := by show _ ≤ _; omega
      clear q1
      obtain ⟨G, hG⟩ : ∃ G, shortT d.name = G := ⟨_, rfl⟩
      rw [hG] at HSH
      have HG := hide hG
      clear hG
      cases G with
      | false =>
        have HR : Hid (¬ TgsOk cells L) := fun h => by
          have h1 := (h.each k hlt).s1; have h2 := (h.each k hlt).good
          rw [HD.out] at h1 h2
          have := HG.out
          unfold shortT at this
          rw [decide_eq_true h1, decide_eq_true h2] at this
          cases this
        go_wp2_with fail
        refine HSH.out.mono ?_
        rintro e w5 ⟨rfl, hb5⟩
        have HB5 : Hid (Below w.heap.size w w5) := HBW.out.trans (hb5.mono HBW.out.size)
        clear hb5
        go_wp2
        go_ret
        exact ⟨Ans.no HR.out, HB5.out⟩
      | true =>
        have HN1 : Hid (d.name.size ≤ 60 ∧ (chk d.name).1 = 0) := by
          have := HG.out
          unfold shortT at this
          rw [Bool.and_eq_true] at this
          exact ⟨of_decide_eq_true this.1, of_decide_eq_true this.2⟩
        go_wp2_with fail
        refine HSH.out.mono ?_
        rintro e w5 ⟨rfl, hb5⟩
        have HB5 : Hid (Below w.heap.size w w5) := HBW.out.trans (hb5.mono HBW.out.size)
        have y0 := cell_kept z0 hb5
        have y1 := cell_kept z1 hb5
        have y2 := cell_kept z2 hb5
        have HBS5 := hide (HBS.out.below hb5)
        have HM5 : Hid (MapT w5 w.heap.size (k + 1) (cntT L (k + 1))) := HM2.out.kept (below_grown hb5) (by simp)
        have HL5 : Hid (∀ n, (Instr.lookup 87 (.map (some w.heap.size)) (.int .i64 d.cell) false).run Tryd.prog (w5.drewN n) = .ok (.int .i64 ((M : Int) + 1)) (w5.drewN n)) := fun n => by
          have h5 : MapT (w5.drewN n) w.heap.size (k + 1) (cntT L (k + 1)) := HM5.out.kept (below_grown (below_drewN (Below.refl _ _) n)) (by simp)
          have := h5.look hwk
          rw [HF.out] at this
          exact this
        clear hb5 z0 z1 z2 x2 g0 g1 g2 HBS HSH e1 hl1 hp2 hW1 HM2 HW2z
        obtain ⟨B6, hB6⟩ : ∃ B, wr.heap.size = B := ⟨_, rfl⟩
        rw [hB6] at y0 y1 y2 ⊢
        clear hB6 hmz
        by_cases q8 : 0 < k
        · obtain ⟨m, rfl⟩ : ∃ m, k = m + 1 := ⟨k - 1, by omega⟩
          obtain ⟨p0, hpc, hpv⟩ := HC.out m (by omega)
          obtain ⟨ps, hps⟩ : ∃ p, L.getD m .zero = p := ⟨_, rfl⟩
          rw [hps] at hpc hpv
          have HPS := hide hps
          have hp0 := (hpc.below HB5.out).name
          obtain ⟨ap, cp, rfl⟩ := hpv.name.slice
          have hki : (0 : Int) < (m : Int) + 1 := by omega
          have hml : (m : Int) < (L.length : Int) := by omega
          have hwm : IntKind.i64.wrap (m : Int) = (m : Int) := by rw [IntKind.wrap_i64]; omega
          have HCM := hide (fun n => bcmp_any (.slice ap ps.name.size cp) (.slice av d.name.size cv) ps.name d.name (w5.drewN n) (hpv.name.below (below_drewN HB5.out n)) (HBS5.out.below (below_drewN (Below.refl _ _) n)))
          have HCL := hide (cmp_less ps.name.data.toList d.name.data.toList)
          obtain ⟨CB, hCB⟩ : ∃ x, Lib.compareBytes ps.name.data.toList d.name.data.toList = x := ⟨_, rfl⟩
          rw [hCB] at HCM HCL
          clear hpc hpv hps q8 hCB
          obtain ⟨P, hP⟩ : ∃ P, Go.Op.bytesLess ps.name.data.toList d.name.data.toList = P := ⟨_, rfl⟩
          have d2 := HCL.out
          rw [hP] at d2
          have HP : Hid (Go.Op.bytesLess ps.name.toList d.name.toList = P) := by show _ = _; rw [ByteArray.toList_eq, ByteArray.toList_eq]; exact hP
          clear hP
          cases P with
          | false =>
            have d3 : decide (0 ≤ CB) = true := d2
            have HR : Hid (¬ TgsOk cells L) := fun h => by
              have := h.asc m hlt; rw [HPS.out, HD.out, HP.out] at this; cases this
            clear d2
            go_wp2_with fail
            go_quiet ((go_at_call 84; exact Calls.quiet_of_same (HCM.out _)))
            go_wp2
            go_ret
            exact ⟨Ans.no HR.out, below_drewN HB5.out _⟩
          | true =>
            have d3 : decide (0 ≤ CB) = false := d2
            have HA1 : Hid (∀ i, i + 1 < m + 1 + 1 → Go.Op.bytesLess (L.getD i .zero).name.toList (L.getD (i + 1) .zero).name.toList = true) := fun i hi => by
              by_cases e : i = m
              · subst e; rw [HPS.out, HD.out]; exact HP.out
              · exact HAS.out i (by omega)
            clear d2
            go_wp2_with fail
            go_quiet ((go_at_call 84; exact Calls.quiet_of_same (HCM.out _)))
            clear hp0 hki hwm d3 HCM HCL
            have l5 := HL5.out
            by_cases q4 : d.kind = 0 ∨ d.kind = 1
            rotate_left
            · have e4 : (d.kind != 0) = true := by rw [bne_iff_ne]; omega
              have e5 : (d.kind != 1) = true := by rw [bne_iff_ne]; omega
              have HR : Hid (¬ TgsOk cells L) := fun h => by have h1 := (h.each (m + 1) hlt).k0; have h2 := (h.each (m + 1) hlt).k1; rw [HD.out] at h1 h2; omega
              clear q4
              go_wp2
              go_ret
              exact ⟨Ans.no HR.out, below_drewN HB5.out _⟩
            have e4 : (d.kind != 0) = false ∨ ((d.kind != 0) = true ∧ (d.kind != 1) = false) := by
              rcases q4 with h | h
              · left; rw [h]; rfl
              · right; rw [h]; exact ⟨rfl, rfl⟩
            have HK01 : Hid (0 ≤ d.kind ∧ d.kind ≤ 1) := by show _ ∧ _; omega
            clear q4
            have HTL : Hid (((d.cell < 0 ∨ cells ≤ d.cell ∨ 0 < M) → ¬ TgsOk cells L)) := fun hh h => by
              have h1 := (h.each (m + 1) hlt).c0; have h2 := (h.each (m + 1) hlt).c1
              rw [HD.out] at h1 h2
              rcases hh with hh | hh | hh
              · omega
              · omega
              · rw [← HMM.out] at hh
                obtain ⟨i, hi, he⟩ := (cntT_pos L d.cell _).1 hh
                exact h.diff (m + 1) i hi hlt (by rw [HD.out]; exact he)
            have HGO : Hid ((0 ≤ d.cell ∧ d.cell < cells ∧ M = 0) → (∀ i, i < m + 1 + 1 → TgOk cells (L.getD i .zero)) ∧ (∀ i j, j < i → i < m + 1 + 1 → (L.getD j .zero).cell ≠ (L.getD i .zero).cell)) := fun hh => by
              refine ⟨fun i hi => ?_, fun i j hj hi => ?_⟩
              · by_cases e : i = m + 1
                · subst e
                  rw [HD.out]
                  exact ⟨HN0.out, HN1.out.1, HN1.out.2, HK01.out.1, HK01.out.2, hh.1, hh.2.1⟩
                · exact HEC.out i (by omega)
              · by_cases e : i = m + 1
                · subst e
                  rw [HD.out]
                  intro he
                  have := (cntT_pos L d.cell _).2 ⟨j, hj, he⟩
                  rw [HMM.out] at this
                  omega
                · exact HDF.out i j hj (by omega)
            by_cases q6 : d.cell < 0
            · have e6 : decide (d.cell < 0) = true := decide_eq_true q6
              have HR := hide (HTL.out (.inl q6))
              rcases e4 with e4 | ⟨e4, e5⟩
              all_goals
                go_wp2
                go_ret
                exact ⟨Ans.no HR.out, below_drewN HB5.out _⟩
            have e6 : decide (d.cell < 0) = false := decide_eq_false q6
            by_cases q7 : cells ≤ d.cell
            · have e7 : decide (cells ≤ d.cell) = true := decide_eq_true q7
              have HR := hide (HTL.out (.inr (.inl q7)))
              rcases e4 with e4 | ⟨e4, e5⟩
              all_goals
                go_wp2
                go_ret
                exact ⟨Ans.no HR.out, below_drewN HB5.out _⟩
            have e7 : decide (cells ≤ d.cell) = false := decide_eq_false q7
            by_cases q9 : 0 < M
            · have e9 : decide ((1 : Int) < (M : Int) + 1) = true := decide_eq_true (by omega)
              have HR := hide (HTL.out (.inr (.inr q9)))
              clear q9
              rcases e4 with e4 | ⟨e4, e5⟩
              all_goals
                go_wp2
                go_ret
                exact ⟨Ans.no HR.out, below_drewN HB5.out _⟩
            have e9 : decide ((1 : Int) < (M : Int) + 1) = false := decide_eq_false (by omega)
            have HGO1 := hide (HGO.out ⟨by omega, by omega, by omega⟩)
            clear q9
            rcases e4 with e4 | ⟨e4, e5⟩
            all_goals
              go_wp2
              go_roundw
              case rel => exact ⟨m + 1 + 1, by omega, by go_num, HGO1.out.1, HA1.out, HGO1.out.2, HM5.out.kept (below_grown (below_drewN (Below.refl _ _) _)) (by simp), below_drewN HB5.out _⟩
              case measure => simp [intOf]; omega
        · obtain rfl : k = 0 := by omega
          have HA1 : Hid (∀ i, i + 1 < 0 + 1 → Go.Op.bytesLess (L.getD i .zero).name.toList (L.getD (i + 1) .zero).name.toList = true) := fun i hi => by omega
          clear q8
          go_wp2_with fail
          go_quiet (fail)
          have l5 := HL5.out
          by_cases q4 : d.kind = 0 ∨ d.kind = 1
          rotate_left
          · have e4 : (d.kind != 0) = true := by rw [bne_iff_ne]; omega
            have e5 : (d.kind != 1) = true := by rw [bne_iff_ne]; omega
            have HR : Hid (¬ TgsOk cells L) := fun h => by have h1 := (h.each (0) hlt).k0; have h2 := (h.each (0) hlt).k1; rw [HD.out] at h1 h2; omega
            clear q4
            go_wp2
            go_ret
            exact ⟨Ans.no HR.out, below_drewN HB5.out _⟩
          have e4 : (d.kind != 0) = false ∨ ((d.kind != 0) = true ∧ (d.kind != 1) = false) := by
            rcases q4 with h | h
            · left; rw [h]; rfl
            · right; rw [h]; exact ⟨rfl, rfl⟩
          have HK01 : Hid (0 ≤ d.kind ∧ d.kind ≤ 1) := by show _ ∧ _; omega
          clear q4
          have HTL : Hid (((d.cell < 0 ∨ cells ≤ d.cell ∨ 0 < M) → ¬ TgsOk cells L)) := fun hh h => by
            have h1 := (h.each (0) hlt).c0; have h2 := (h.each (0) hlt).c1
            rw [HD.out] at h1 h2
            rcases hh with hh | hh | hh
            · omega
            · omega
            · rw [← HMM.out] at hh
              obtain ⟨i, hi, he⟩ := (cntT_pos L d.cell _).1 hh
              exact h.diff (0) i hi hlt (by rw [HD.out]; exact he)
          have HGO : Hid ((0 ≤ d.cell ∧ d.cell < cells ∧ M = 0) → (∀ i, i < 0 + 1 → TgOk cells (L.getD i .zero)) ∧ (∀ i j, j < i → i < 0 + 1 → (L.getD j .zero).cell ≠ (L.getD i .zero).cell)) := fun hh => by
            refine ⟨fun i hi => ?_, fun i j hj hi => ?_⟩
            · by_cases e : i = 0
              · subst e
                rw [HD.out]
                exact ⟨HN0.out, HN1.out.1, HN1.out.2, HK01.out.1, HK01.out.2, hh.1, hh.2.1⟩
              · exact HEC.out i (by omega)
            · by_cases e : i = 0
              · subst e
                rw [HD.out]
                intro he
                have := (cntT_pos L d.cell _).2 ⟨j, hj, he⟩
                rw [HMM.out] at this
                omega
              · exact HDF.out i j hj (by omega)
          by_cases q6 : d.cell < 0
          · have e6 : decide (d.cell < 0) = true := decide_eq_true q6
            have HR := hide (HTL.out (.inl q6))
            rcases e4 with e4 | ⟨e4, e5⟩
            all_goals
              go_wp2
              go_ret
              exact ⟨Ans.no HR.out, below_drewN HB5.out _⟩
          have e6 : decide (d.cell < 0) = false := decide_eq_false q6
          by_cases q7 : cells ≤ d.cell
          · have e7 : decide (cells ≤ d.cell) = true := decide_eq_true q7
            have HR := hide (HTL.out (.inr (.inl q7)))
            rcases e4 with e4 | ⟨e4, e5⟩
            all_goals
              go_wp2
              go_ret
              exact ⟨Ans.no HR.out, below_drewN HB5.out _⟩
          have e7 : decide (cells ≤ d.cell) = false := decide_eq_false q7
          by_cases q9 : 0 < M
          · have e9 : decide ((1 : Int) < (M : Int) + 1) = true := decide_eq_true (by omega)
            have HR := hide (HTL.out (.inr (.inr q9)))
            clear q9
            rcases e4 with e4 | ⟨e4, e5⟩
            all_goals
              go_wp2
              go_ret
              exact ⟨Ans.no HR.out, below_drewN HB5.out _⟩
          have e9 : decide ((1 : Int) < (M : Int) + 1) = false := decide_eq_false (by omega)
          have HGO1 := hide (HGO.out ⟨by omega, by omega, by omega⟩)
          clear q9
          rcases e4 with e4 | ⟨e4, e5⟩
          all_goals
            go_wp2
            go_roundw
            case rel => exact ⟨0 + 1, by omega, by go_num, HGO1.out.1, HA1.out, HGO1.out.2, HM5.out.kept (below_grown (below_drewN (Below.refl _ _) _)) (by simp), below_drewN HB5.out _⟩
            case measure => simp [intOf]; omega
    · have hge : ¬ (k : Int) < (L.length : Int) := by omega
      have HOK : Hid (TgsOk cells L) := ⟨by omega, fun i hi => HEC.out i (by omega), fun i hi => HAS.out i (by omega), fun i j hj hi => HDF.out i j hj (by omega)⟩
      clear hbl
      go_wp2
      go_ret
      exact ⟨Ans.yes HOK.out, HB.out⟩
end Go.Proofs.YteicpjbeihabnaaDoor

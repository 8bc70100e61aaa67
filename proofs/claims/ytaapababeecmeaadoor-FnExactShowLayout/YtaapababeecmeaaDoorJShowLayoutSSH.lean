/-
  The walk of spec.ShowLayout.
-/
import Derived.Test.YtaapababeecmeaaDoorJShowLayoutSH1
import Derived.Test.YtaapababeecmeaaDoorJShowLayoutG2
import Derived.Test.YtaapababeecmeaaDoorJShowLayoutU
import Derived.BigQuiet
import Derived.Deep.QuietTactic
import Derived.Deep.RegionHeld3
namespace Go.Proofs.YtaapababeecmeaaDoor
open Go.RowKit

/-- append of a text onto a row of the call's own, as one step of a region that draws. -/
theorem step_app_str {ops : Array Oper} {o : Oper} {a : Act} {w : World} {K : Act → World → Prop} {Q : Exit → Act → World → Prop} {E : Prop} (hgd : o.guard = none) (s x : Operand)
    (ho : o.op = .call { callee := .builtin .append, args := #[s, x], argTypes := #[39, 9] }) (B : Nat) (v : Value) (xs : List Nat) (hs : a.eval s = v) (hown : w.ownsRow B 5 1 v xs.length (cv xs))
    (t : ByteArray) (ys : List Nat) (hx : a.eval x = .string t) (hys : Lib.strCells t = cv ys) (hlen : xs.length + ys.length ≤ 100000000) (hbase : B ≤ w.heap.size)
    (h : ∀ v' w' l, Hid (l = xs ++ ys) → w'.ownsRow B 5 1 v' l.length (cv l) → w.grownBy w' v.ownBlock → K (a.put o.dst v') w') :
    if Region.wanted o (yielded ops a.tmps) = true then Oper.wp Tryd.prog o a w K Q else E := by
  have hw : Region.wanted o (yielded ops a.tmps) = true := by simp [Region.wanted, hgd]
  rw [if_pos hw]
  obtain ⟨i0, hi, hz0, hz1, hz2⟩ := info_parts Tryd.info5
  have hsz : t.size = ys.length := by have := congrArg List.length hys; rw [cv_length] at this; simpa [Lib.strCells] using this
  obtain ⟨v', w', hr, h2, h3, _⟩ := Lib.run_append_own_string (P := Tryd.prog) w B 39 9 o.type 5 i0 Tryd.underlying39 Tryd.underlying9 hi hz0 hz1 hz2 v xs.length (cv xs) hown t (by unfold maxLen; omega) (by omega) hbase
  unfold Oper.wp execOp
  simp only [ho, resolve, invoke, builtin, Sem.run_bind, Sem.run_pure, Result.andThen_ok, List.map_toArray, List.map_cons, List.map_nil, hs, hx, hr]
  refine h v' w' (xs ++ ys) rfl ?_ h3
  rw [List.length_append, cv_append, ← hys, ← hsz]
  exact h2

set_option maxHeartbeats 8000000 in
set_option maxRecDepth 1000000 in
theorem specSH_any (d : Ly) (v2 v3 v4 : Value) (w : World) (hb : LyB d) (h : LyV w d v2 v3 v4) :
    Calls Tryd.prog 17 #[lyagg d v2 v3 v4] w fun e w' => ∃ v, e = .returned v ∧ BS w' v (byt (shL d)) ∧ Below w.heap.size w w' := by
  have HV := hide h
  have HVL := hide (fun w2 (hb2 : Below w.heap.size w w2) => specLayout_any d v2 v3 v4 w2 hb (h.below hb2))
  obtain ⟨a2, b2, o2, c2, rfl, ha2, hc2⟩ := h.cost
  obtain ⟨a3, c3, rfl⟩ := h.exits.slice
  obtain ⟨a4, b4, o4, c4, rfl, ha4, hc4⟩ := h.targets
  have HC2 : Hid (∀ w2, Below w.heap.size w w2 → ∀ j, j < d.cost.length → w2.cell? ⟨b2, o2 + j, none⟩ = some (.int .i64 (d.cost.getD j 0))) := fun w2 hb2 j hj => cell_kept (hc2 j hj) hb2
  have HC4 : Hid (∀ j, j < d.targets.length → ∃ v0, ∀ w2, Below w.heap.size w w2 → TgC w2 b4 (o4 + j * 3) (d.targets.getD j .zero) v0 ∧ TgV w2 (d.targets.getD j .zero) v0) := fun j hj => by
    obtain ⟨v0, h1, h2⟩ := hc4 j hj
    exact ⟨v0, fun w2 hb2 => ⟨h1.below hb2, h2.below hb2⟩⟩
  clear h hc2 hc4
  obtain ⟨D, hD⟩ : ∃ D, d = D := ⟨_, rfl⟩
  have HD := hide hD
  unfold lyagg at HVL ⊢
  obtain ⟨X, Y, C, E, T⟩ := d
  simp only at HV HVL ha2 ha4 HC2 HC4 ⊢
  have hbl := hb.cost
  simp only at hbl
  rw [HD.out] at ⊢
  clear hb hD
  obtain ⟨W0, hW0⟩ : ∃ W, w.alloc (.cells #[.int .i64 X, .int .i64 Y, .slice a2 C.length c2, .slice a3 E.length c3, .slice a4 T.length c4] 30) = W := ⟨_, rfl⟩
  have hB0 : Below w.heap.size w W0 := by rw [← hW0]; exact (Below.refl _ _).alloc (Nat.le_refl _) _
  have hA0 : Blk W0 w.heap.size 30 #[.int .i64 X, .int .i64 Y, .slice a2 C.length c2, .slice a3 E.length c3, .slice a4 T.length c4] := by rw [← hW0]; exact Blk.new _ _ _
  have HB0 := hide hB0
  have HA0 := hide hA0
  have HW := hide hW0
  clear hB0 hA0 hW0
  go_enter Tryd.func17, Tryd.ntmps17
  go_wp2_with fail
  rw [HW.out]
  refine (HVL.out _ HB0.out).mono ?_
  rintro e w1 ⟨⟨b1, rfl, hi1⟩, hb1⟩
  have HA1 := hide (HA0.out.below hb1)
  have HB1 : Hid (Below w.heap.size w w1) := HB0.out.trans (hb1.mono HB0.out.size)
  rw [HD.out] at hi1
  clear hb1 HA0 HB0 HW HVL
  cases b1 with
  | false =>
    have HR : Hid (shL D = []) := by
      show _ = _
      unfold shL
      exact if_neg (fun h => by have := hi1.2 h; cases this)
    clear hi1
    go_wp2
    go_ret
    refine ⟨_, rfl, ?_, HB1.out⟩
    rw [HR.out]
    exact ⟨none, 0, 0, 0, rfl, (fun h => absurd h (by decide)), fun j hj => absurd hj (Nat.not_lt_zero _)⟩
  | true =>
  have HOK := hide (hi1.1 rfl)
  have HR : Hid (shL D = linesTo D D.targets.length) := by
    show _ = _
    unfold shL
    exact if_pos HOK.out
  have HXY : Hid (1 ≤ X ∧ X ≤ 40 ∧ 1 ≤ Y ∧ Y ≤ 40 ∧ (C.length : Int) = X * Y) := by
    have := HOK.out
    rw [← HD.out] at this
    exact ⟨this.w0, this.w1, this.h0, this.h1, this.cl⟩
  have HDF : Hid (D.w = X ∧ D.h = Y ∧ D.cost = C ∧ D.targets = T) := by rw [← HD.out]; exact ⟨rfl, rfl, rfl, rfl⟩
  obtain ⟨hX0, hX1, hY0, hY1, hCl⟩ := HXY.out
  have hn1 : X * Y ≤ 1600 := by
    have : X * Y ≤ 40 * 40 := Int.mul_le_mul (by omega) (by omega) (by omega) (by omega)
    omega
  obtain ⟨n, hn⟩ : ∃ n : Nat, C.length = n := ⟨_, rfl⟩
  have hnb : n ≤ 1600 := by omega
  have HN := hide hn
  have hXY : X * Y = (n : Int) := by omega
  have HXYN := hide hXY
  have hT30 : T.length ≤ 30 := by have := HOK.out.tg.len; rw [HDF.out.2.2.2] at this; exact this
  rw [hn] at HA1 ha2 HC2
  have HCN : Hid (∀ w2, Below w.heap.size w w2 → ∀ j, j < n → w2.cell? ⟨b2, o2 + j, none⟩ = some (.int .i64 (D.cost.getD j 0))) := fun w2 hb2 j hj => by
    rw [HDF.out.2.2.1]; exact HC2.out w2 hb2 j hj
  have HCO : Hid (∀ j, j < n → 0 ≤ D.cost.getD j 0 ∧ D.cost.getD j 0 ≤ 9) := fun j hj => by
    have h1 := HOK.out.cells j (by rw [HDF.out.2.2.1]; have := HN.out; omega)
    exact ⟨h1.c0, h1.c1⟩
  have HTG : Hid (∀ k, k < T.length → TgOk (n : Int) (T.getD k .zero)) := fun k hk => by
    have h1 := HOK.out.tg.each k (by rw [HDF.out.2.2.2]; exact hk)
    rw [HDF.out.1, HDF.out.2.1, HXYN.out, HDF.out.2.2.2] at h1
    exact h1
  clear hi1 hn1 hCl hn hbl HC2
  obtain ⟨G, hG⟩ : ∃ G, w1.heap.size = G := ⟨_, rfl⟩
  have HG := hide hG
  have HWG : Hid (w.heap.size ≤ G) := by show _ ≤ _; rw [← hG]; exact HB1.out.size
  clear hG
  go_wp2
  go_loopw [3, 4] (fun out cx wr => ∃ c : Nat, c ≤ n ∧ cx = .int .i64 c ∧ wr.ownsRow G 5 1 out (gridTo D c).length (cv (gridTo D c)) ∧ Below G w1 wr) (fun _ cx _ => n - (intOf cx).toNat)
  case atStart => exact ⟨0, Nat.zero_le _, rfl, ⟨rfl, Or.inl ⟨rfl, rfl⟩⟩, Below.refl _ _⟩
  case round =>
    obtain ⟨c, hc, rfl, hown, hbg⟩ := hrel
    have hbg' : Below w1.heap.size w1 wr := by rw [HG.out]; exact hbg
    have hGz : G ≤ wr.heap.size := by have := hbg'.size; rw [HG.out] at this; exact this
    have HBG := hide hbg
    have HOW := hide hown
    have hbk := HA1.out.below hbg'
    have hbl : Below w.heap.size w wr := HB1.out.trans (hbg'.mono HB1.out.size)
    have HBL := hide hbl
    have HBK := hide hbk
    have hle := gridTo_le D c
    have z0 := hbk.cell 0
    have z1 := hbk.cell 1
    have z2 := hbk.cell 2
    have z4 := hbk.cell 4
    simp only [List.getElem?_toArray, List.getElem?_cons_succ, List.getElem?_cons_zero] at z0 z1 z2 z4
    by_cases hlt : c < n
    · have hlti : (c : Int) < (n : Int) := by omega
      obtain rfl := ha2 (by omega)
      have f2 := HCN.out _ hbl c hlt
      obtain ⟨hg0, hg1⟩ := HCO.out c hlt
      obtain ⟨g, hg⟩ : ∃ g, D.cost.getD c 0 = g := ⟨_, rfl⟩
      rw [hg] at f2 hg0 hg1
      have HGC := hide hg
      have HSG : Hid (sgTo D c 0 = csg g) := by show csg (D.cost.getD c 0) = _; rw [HGC.out]
      have hT30i : (T.length : Int) ≤ 30 := by omega
      have hw48 : IntKind.i64.wrap (48 + g) = 48 + g := by rw [IntKind.wrap_i64]; omega
      have hu48 : IntKind.u8.wrap (48 + g) = 48 + g := by
        obtain ⟨N, rfl⟩ : ∃ N : Nat, g = N := ⟨g.toNat, by omega⟩
        have := u8_wrap (n := 48 + N) (by omega); rw [Int.natCast_add] at this; exact this
      have HC3 : Hid (g = 0 ∨ g = 1 ∨ (1 < g ∧ ¬ g = 0)) := by show _ ∨ _; omega
      have HCG : Hid (g = 0 → csg g = 35) := fun e => by unfold csg; rw [if_pos e]
      have HCG1 : Hid (g = 1 → csg g = 46) := fun e => by unfold csg; rw [if_neg (by omega), if_pos e]
      have HCG2 : Hid (1 < g → ((csg g : Nat) : Int) = 48 + g) := fun e => by unfold csg; rw [if_neg (by omega), if_neg (by omega)]; omega
      clear hown hbg hbg' hbk hbl hg
      rcases HC3.out with q0 | q1 | ⟨q2, q3⟩
      case' inl =>
        have t0 : (g == 0) = true := by rw [beq_iff_eq]; exact q0
        have HS0 : Hid ((35 : Int) = (sgTo D c 0 : Nat)) := by show _ = _; rw [HSG.out, HCG.out q0]; rfl
        clear q0
        go_wp2
        rw [HS0.out]
      case' inr.inl =>
        have t0 : (g == 0) = false := by rw [beq_eq_false_iff_ne]; omega
        have t1 : decide (1 < g) = false := decide_eq_false (by omega)
        have HS0 : Hid ((46 : Int) = (sgTo D c 0 : Nat)) := by show _ = _; rw [HSG.out, HCG1.out q1]; rfl
        clear q1
        go_wp2
        rw [HS0.out]
      case' inr.inr =>
        have t0 : (g == 0) = false := by rw [beq_eq_false_iff_ne]; exact q3
        have t1 : decide (1 < g) = true := decide_eq_true q2
        have HS0 : Hid (48 + g = (sgTo D c 0 : Nat)) := by show _ = _; rw [HSG.out, HCG2.out q2]
        clear q2 q3
        go_wp2
        rw [HS0.out]
      all_goals
        clear HS0 t0
      all_goals
        have HGL : Hid (gridTo D (c + 1) = gridTo D c ++ ([sg D c] ++ (if c % D.w.toNat = D.w.toNat - 1 then [10] else []))) := rfl
        rename World => wo
        go_loopw [5, 6] (fun sgn ix w' => ∃ k : Nat, k ≤ T.length ∧ ix = .int .i64 k ∧ sgn = .int .u8 (sgTo D c k : Nat) ∧ w' = wo) (fun _ ix _ => T.length - (intOf ix).toNat)
        case atStart => exact ⟨0, Nat.zero_le _, rfl, rfl, rfl⟩
        case round =>
          obtain ⟨k, hk, rfl, rfl, rfl⟩ := hrel
          by_cases hkt : k < T.length
          · have hkti : (k : Int) < (T.length : Int) := by omega
            obtain rfl := ha4 (by omega)
            have hto := HTG.out k hkt
            obtain ⟨v0, hall⟩ := HC4.out k hkt
            obtain ⟨hnc, hnv⟩ := hall _ HBL.out
            have HSK : Hid (sgTo D c (k + 1) = if (T.getD k .zero).cell = (c : Int) then tsg (T.getD k .zero).kind else sgTo D c k) := by
              show (if (D.targets.getD k .zero).cell = (c : Int) then tsg (D.targets.getD k .zero).kind else sgTo D c k) = _
              rw [HDF.out.2.2.2]
            obtain ⟨t, ht⟩ : ∃ t, T.getD k .zero = t := ⟨_, rfl⟩
            rw [ht] at hnc hnv hto HSK
            obtain ⟨g0, g1, g2⟩ := hnc
            have hk0 := hto.k0
            have hk1 := hto.k1
            obtain ⟨kd, hkd⟩ : ∃ kd, t.kind = kd := ⟨_, rfl⟩
            obtain ⟨cl, hcl⟩ : ∃ cl, t.cell = cl := ⟨_, rfl⟩
            rw [hkd] at g1 hk0 hk1 HSK
            rw [hcl] at g2 HSK
            clear hto hnv ht hkd hcl hall
            by_cases q : cl = (c : Int)
            · have t5 : (cl == (c : Int)) = true := by rw [beq_iff_eq]; exact q
              have HSK1 : Hid (sgTo D c (k + 1) = tsg kd) := by show _ = _; rw [HSK.out, if_pos q]
              clear HSK q
              rcases (show kd = 0 ∨ kd = 1 by omega) with rfl | rfl
              · go_wp2
                go_roundw
                case rel => exact ⟨k + 1, by omega, by go_num, by rw [HSK1.out]; rfl, by first | trivial | rfl⟩
                case measure => simp [intOf]; omega
              · go_wp2
                go_roundw
                case rel => exact ⟨k + 1, by omega, by go_num, by rw [HSK1.out]; rfl, by first | trivial | rfl⟩
                case measure => simp [intOf]; omega
            · have t5 : (cl == (c : Int)) = false := by rw [beq_eq_false_iff_ne]; exact q
              have HSK1 : Hid (sgTo D c (k + 1) = sgTo D c k) := by show _ = _; rw [HSK.out, if_neg q]
              clear HSK q
              go_wp2
              go_roundw
              case rel => exact ⟨k + 1, by omega, by go_num, by rw [HSK1.out], by first | trivial | rfl⟩
              case measure => simp [intOf]; omega
          · have hge : ¬ (k : Int) < (T.length : Int) := by omega
            have HSE : Hid (sgTo D c k = sg D c) := by
              have e : k = D.targets.length := by rw [HDF.out.2.2.2]; omega
              show _ = sgTo D c D.targets.length
              rw [← e]
            rw [HSE.out]
            obtain ⟨q, hq⟩ : ∃ q, sg D c = q := ⟨_, rfl⟩
            rw [hq] at HGL ⊢
            clear hq HSE
            have HN1 : Hid (∀ j, j < [q].length → (wr.alloc (.cells #[.int .u8 (q : Nat)] 5)).cell? ⟨wr.heap.size, j, none⟩ = some (.int .u8 ([q].getD j 0 : Nat))) := fun j hj => by
              match j, hj with | 0, _ => simp
            have HN2 : Hid ((gridTo D c).length + [q].length ≤ 100000000) := by show (gridTo D c).length + 1 ≤ _; omega
            have HN3 : Hid (G ≤ (wr.alloc (.cells #[.int .u8 (q : Nat)] 5)).heap.size) := by show _ ≤ _; rw [World.size_alloc]; omega
            go_wp2_with (at_builtin; refine wp_app rfl (.tmp 65) (.tmp 67) rfl G _ (gridTo D c) rfl (HOW.out.alloc _) wr.heap.size 1 [q] rfl HN1.out HN2.out HN3.out ?_)
            intro v' w' l hl ho hg
            have HO := hide ho
            have hb2 := app_below (HBG.out.alloc hGz _) (HOW.out.alloc _) (by simp; omega) hg
            have HB2 := hide hb2
            have hGz2 : G ≤ w'.heap.size := by have := hb2.size; rw [HG.out] at this; exact this
            have HLL := hide hl.out
            have hll : l.length ≤ 10000 := by rw [hl.out, List.length_append, List.length_singleton]; omega
            have hbw : Below w1.heap.size w1 w' := by rw [HG.out]; exact hb2
            have y0 := (HA1.out.below hbw).cell 0
            simp only [List.getElem?_toArray, List.getElem?_cons_zero] at y0
            clear ho hg hb2 hl hbw
            have hmm : (c : Int).tmod X = (c : Int) % X := Int.tmod_eq_emod_of_nonneg (by omega)
            have hWne : (X == 0) = false := by rw [beq_eq_false_iff_ne]; omega
            have hXz : ¬ X = 0 := by omega
            have hwx : IntKind.i64.wrap (X - 1) = X - 1 := by rw [IntKind.wrap_i64]; omega
            obtain ⟨x, hx⟩ : ∃ x, (c : Int) % X = x := ⟨_, rfl⟩
            rw [hx] at hmm
            have HMD : Hid (x = ((c % D.w.toNat : Nat) : Int)) := by
              show _ = _
              obtain ⟨N, hN⟩ : ∃ N : Nat, X = N := ⟨X.toNat, by omega⟩
              rw [← hx, HDF.out.1, hN, Int.toNat_natCast]; rfl
            have HWN : Hid (D.w.toNat = X.toNat) := by show _ = _; rw [HDF.out.1]
            clear hx
            by_cases q6 : x = X - 1
            · have t6 : (x == X - 1) = true := by rw [beq_iff_eq]; exact q6
              have HGL1 : Hid (gridTo D (c + 1) = gridTo D c ++ [q] ++ [10]) := by
                show _ = _
                have e : c % D.w.toNat = D.w.toNat - 1 := by have h1 := HMD.out; have h2 := HWN.out; omega
                rw [HGL.out, if_pos e, List.append_assoc]
              clear q6 HGL
              have HO2 : Hid (∀ n, (w'.drewN n).ownsRow G 5 1 v' l.length (cv l)) := fun n => kept_below HO.out (below_drewN (Below.refl _ _) n)
              have HB3 : Hid (∀ n, Below G w1 (w'.drewN n)) := fun n => below_drewN HB2.out n
              have HG3 : Hid (∀ n, G ≤ (w'.drewN n).heap.size) := fun n => hGz2
              have HL1 : Hid (l.length + [10].length ≤ 100000000) := by show l.length + 1 ≤ _; omega
              go_wp2_with fail
              go_quiet (fail)
              go_wp2_with (at_builtin; refine wp_app rfl (.tmp 77) (.tmp 78) rfl G _ l rfl ((HO2.out _).alloc _) _ 1 [10] rfl (fun j hj => by match j, hj with | 0, _ => exact cell_fresh _ _ _ 0) HL1.out (by rw [World.size_alloc]; exact Nat.le_succ_of_le (HG3.out _)) ?_)
              intro v3 w3 l3 hl3 ho3 hg3
              have HO4 := hide ho3
              have HB4 := hide (app_below ((HB3.out _).alloc (HG3.out _) _) ((HO2.out _).alloc _) (by rw [World.size_alloc]; exact Nat.le_succ_of_le (HG3.out _)) hg3)
              have HL4 := hide hl3.out
              clear ho3 hg3 hl3
              go_wp2
              go_roundw
              case rel =>
                refine ⟨c + 1, by omega, by go_num, ?_, HB4.out⟩
                rw [HGL1.out, ← HLL.out, ← HL4.out]
                exact HO4.out
              case measure => simp [intOf]; omega
            · have t6 : (x == X - 1) = false := by rw [beq_eq_false_iff_ne]; exact q6
              have HGL1 : Hid (gridTo D (c + 1) = gridTo D c ++ [q]) := by
                show _ = _
                have e : ¬ c % D.w.toNat = D.w.toNat - 1 := by have h1 := HMD.out; have h2 := HWN.out; omega
                rw [HGL.out, if_neg e, List.append_nil]
              have HO2 : Hid (∀ n, (w'.drewN n).ownsRow G 5 1 v' l.length (cv l)) := fun n => kept_below HO.out (below_drewN (Below.refl _ _) n)
              have HB3 : Hid (∀ n, Below G w1 (w'.drewN n)) := fun n => below_drewN HB2.out n
              clear q6 HGL
              go_wp2_with fail
              go_quiet (fail)
              go_wp2
              go_roundw
              case rel =>
                refine ⟨c + 1, by omega, by go_num, ?_, HB3.out _⟩
                rw [HGL1.out, ← HLL.out]
                exact HO2.out _
              case measure => simp [intOf]; omega
    · have hge : ¬ (c : Int) < (n : Int) := by omega
      have HO0 : Hid (wr.ownsRow G 5 1 u3 (linesTo D 0).length (cv (linesTo D 0))) := by
        have e : (D.w * D.h).toNat = c := by rw [HDF.out.1, HDF.out.2.1, HXYN.out]; omega
        show wr.ownsRow G 5 1 u3 (gridTo D (D.w * D.h).toNat).length (cv (gridTo D (D.w * D.h).toNat))
        rw [e]; exact hown
      clear hown hbg hbg' hbk hbl
      go_wp2
      clear z0 z1 z2 z4 hge HOW hle
      go_loopw [3, 8] (fun out ix wr => ∃ k : Nat, k ≤ T.length ∧ ix = .int .i64 k ∧ wr.ownsRow G 5 1 out (linesTo D k).length (cv (linesTo D k)) ∧ Below G w1 wr) (fun _ ix _ => T.length - (intOf ix).toNat)
      case atStart => exact ⟨0, Nat.zero_le _, rfl, HO0.out, HBG.out⟩
      case round =>
        clear HO0 HBG HBL HBK hGz
        obtain ⟨k, hk, rfl, hown, hbg⟩ := hrel
        have hbg' : Below w1.heap.size w1 wr := by rw [HG.out]; exact hbg
        have hGz : G ≤ wr.heap.size := by have := hbg'.size; rw [HG.out] at this; exact this
        have HBG := hide hbg
        have HOW := hide hown
        have hbk := HA1.out.below hbg'
        have hbl : Below w.heap.size w wr := HB1.out.trans (hbg'.mono HB1.out.size)
        have hlo := linesTo_le HOK.out (k := k) (by rw [HDF.out.2.2.2]; exact hk)
        have z4 := hbk.cell 4
        simp only [List.getElem?_toArray, List.getElem?_cons_succ, List.getElem?_cons_zero] at z4
        by_cases hlt : k < T.length
        · have hlti : (k : Int) < (T.length : Int) := by omega
          obtain rfl := ha4 (by omega)
          obtain ⟨v0, hall⟩ := HC4.out k hlt
          obtain ⟨hnc, hnv⟩ := hall wr hbl
          have hto : TgOk (D.w * D.h) (T.getD k .zero) := by
            have h1 := HOK.out.tg.each k (by rw [HDF.out.2.2.2]; exact hlt)
            rw [HDF.out.2.2.2] at h1
            exact h1
          have HLN : Hid (linesTo D (k + 1) = linesTo D k ++ lineL D (T.getD k .zero)) := by
            show linesTo D k ++ lineL D (D.targets.getD k .zero) = _
            rw [HDF.out.2.2.2]
          obtain ⟨t, ht⟩ : ∃ t, T.getD k .zero = t := ⟨_, rfl⟩
          rw [ht] at hnc hnv hto HLN
          have HALL : Hid (∀ w2, Below w.heap.size w w2 → BS w2 v0 t.name) := fun w2 h2 => by have := (hall w2 h2).2; rw [ht] at this; exact this.name
          obtain ⟨g0, g1, g2⟩ := hnc
          have hpl := place_lt HOK.out hto
          have hs0 := hto.s0
          have hs1 := hto.s1
          have hk0 := hto.k0
          have hk1 := hto.k1
          have hc0 := hto.c0
          have HQP : Hid (0 < (quoted t.name).length) := by
            show 0 < _
            unfold quoted
            rw [if_pos hto.good, List.length_append, List.length_singleton]
            omega
          obtain ⟨av, bv, ov, cvv, rfl, hav, hcv⟩ := hnv.name
          obtain rfl := hav (by omega)
          obtain ⟨kd, hkd⟩ : ∃ kd : Nat, t.kind = kd := ⟨t.kind.toNat, by omega⟩
          have hkd2 : (kd : Int) < 2 := by omega
          have HLE : Hid (lineL D t = wordL kd ++ quoted t.name ++ tailL D.w.toNat t.cell.toNat) := by
            show lineL D t = _
            unfold lineL
            rw [hkd]
          obtain ⟨ci, hci⟩ : ∃ ci, t.cell = ci := ⟨_, rfl⟩
          rw [hkd] at g1
          rw [hci] at g2 HLE hpl hc0
          obtain ⟨N, hN⟩ : ∃ N : Nat, X = N := ⟨X.toNat, by omega⟩
          obtain ⟨x, hx⟩ : ∃ x, ci.toNat % D.w.toNat = x := ⟨_, rfl⟩
          obtain ⟨y, hy⟩ : ∃ y, ci.toNat / D.w.toNat = y := ⟨_, rfl⟩
          have hmm : ci.tmod X = (x : Int) := by
            obtain ⟨m, hm⟩ : ∃ m : Nat, ci = m := ⟨ci.toNat, by omega⟩
            rw [← hx, HDF.out.1, hN, hm, Int.toNat_natCast, Int.toNat_natCast]; rfl
          have hdm : ci.tdiv X = (y : Int) := by
            obtain ⟨m, hm⟩ : ∃ m : Nat, ci = m := ⟨ci.toNat, by omega⟩
            rw [← hy, HDF.out.1, hN, hm, Int.toNat_natCast, Int.toNat_natCast]; rfl
          rw [hx, hy] at hpl
          obtain ⟨hx1, hy1⟩ := hpl
          have HX := hide (fun W => l2dec_any x W (by omega))
          have HY := hide (fun W => l2dec_any y W (by omega))
          have k2 : (byt (decL x)).size ≤ 2 := by rw [byt_size]; exact decL_le x
          have k3 : (byt (decL y)).size ≤ 2 := by rw [byt_size]; exact decL_le y
          have HTL0 : Hid (Lib.strCells (byt [32] ++ byt (decL x) ++ byt [32] ++ byt (decL y) ++ byt [10]) = cv (tailL D.w.toNat ci.toNat)) := by
            show _ = _
            rw [← byt_append, ← byt_append, ← byt_append, ← byt_append]
            have e : [32] ++ decL x ++ [32] ++ decL y ++ [10] = tailL D.w.toNat ci.toNat := by unfold tailL; rw [hx, hy]
            rw [e]
            exact byt_cells (tailL_lo (by omega) (by omega))
          obtain ⟨S2, hS2⟩ : ∃ S, byt (decL x) = S := ⟨_, rfl⟩
          obtain ⟨S3, hS3⟩ : ∃ S, byt (decL y) = S := ⟨_, rfl⟩
          rw [hS2] at HX k2 HTL0
          rw [hS3] at HY k3 HTL0
          have HTL : Hid (Lib.strCells (({ data := #[32] } : ByteArray) ++ S2 ++ ({ data := #[32] } : ByteArray) ++ S3 ++ ({ data := #[10] } : ByteArray)) = cv (tailL D.w.toNat ci.toNat)) := HTL0.out
          have e1 : ¬ 9223372036854775807 < 1 + S2.size := by omega
          have e2 : ¬ 9223372036854775807 < 1 + S2.size + 1 := by omega
          have e3 : ¬ 9223372036854775807 < 1 + S2.size + 1 + S3.size := by omega
          have e4 : ¬ 9223372036854775807 < 1 + S2.size + 1 + S3.size + 1 := by omega
          have hwy : IntKind.i64.wrap (y : Int) = (y : Int) := by rw [IntKind.wrap_i64]; omega
          have hWne : (X == 0) = false := by rw [beq_eq_false_iff_ne]; omega
          have hXz : ¬ X = 0 := by omega
          have htl := tailL_le D.w.toNat ci.toNat
          have hql := quoted_le t.name
          have hwl := wordL_le kd
          obtain ⟨W1, hW1⟩ : ∃ W, wr.alloc (.cells #[.slice (some ⟨bv, ov, none⟩) t.name.size cvv, .int .i64 (kd : Nat), .int .i64 ci] 50) = W := ⟨_, rfl⟩
          have hb1 : Below wr.heap.size wr W1 := by rw [← hW1]; exact (Below.refl _ _).alloc (Nat.le_refl _) _
          have hBk : Blk W1 wr.heap.size 50 #[.slice (some ⟨bv, ov, none⟩) t.name.size cvv, .int .i64 (kd : Nat), .int .i64 ci] := by rw [← hW1]; exact Blk.new _ _ _
          obtain ⟨W2, hW2⟩ : ∃ W, W1.alloc (.cells #[.string { data := #[115, 116, 97, 116, 105, 111, 110, 32] }, .string { data := #[99, 104, 97, 114, 103, 101, 114, 32] }] 9) = W := ⟨_, rfl⟩
          have hb2 : Below W1.heap.size W1 W2 := by rw [← hW2]; exact (Below.refl _ _).alloc (Nat.le_refl _) _
          have hb12 : Below wr.heap.size wr W2 := hb1.trans (hb2.mono hb1.size)
          have wd : W2.cell? ⟨W1.heap.size, kd, none⟩ = some (.string (byt (wordL kd))) := by
            rw [← hW2, cell_fresh]
            rcases (show kd = 0 ∨ kd = 1 by omega) with rfl | rfl
            · rfl
            · rfl
          have HWL : Hid (Lib.strCells (byt (wordL kd)) = cv (wordL kd)) := byt_cells (wordL_lo _)
          obtain ⟨S0, hS0⟩ : ∃ S, byt (wordL kd) = S := ⟨_, rfl⟩
          rw [hS0] at wd HWL
          have HO2 := hide (kept_below hown hb12)
          have HBG2 : Hid (Below G w1 W2) := hbg.trans (hb12.mono hGz)
          have hGz2 : G ≤ W2.heap.size := by have := hb12.size; omega
          have hBk2 := hBk.below hb2
          have HBX2 := hide hBk2
          have x1 := hBk2.cell 1
          simp only [List.getElem?_toArray, List.getElem?_cons_succ, List.getElem?_cons_zero] at x1
          clear hall
          clear hown hbg hbg' hbk hbl hto hnv ht hkd hci hx hy hN hcv hk0 hk1 hc0 hS0 hS2 hS3 k2 k3 hb1 hBk hb2 hBk2 hav HTL0
          go_wp2_with (at_builtin; refine wp_app_str rfl (.tmp 93) (.tmp 98) rfl G _ (linesTo D k) rfl HO2.out S0 (wordL kd) rfl HWL.out (by omega) hGz2 ?_)
          intro v3 w3 l3 hl3 ho3 hg3
          have HO3 := hide ho3
          have HBG3 := hide (app_below HBG2.out HO2.out hGz2 hg3)
          have HBX3 := hide (blk_app HBX2.out (by decide) HO2.out hg3)
          have HL3 := hide hl3.out
          have hl3l : l3.length ≤ 20000 := by rw [hl3.out, List.length_append]; omega
          have hGz3 : G ≤ w3.heap.size := by have := HBG3.out.size; rw [HG.out] at this; exact this
          have x0 := HBX3.out.cell 0
          simp only [List.getElem?_toArray, List.getElem?_cons_zero] at x0
          clear ho3 hg3 hl3 hW1 hW2 wd x1 z4
          go_wp2_with fail
          refine (specQuote_any bv ov cvv t.name w3 (by omega) (fun j hj => ?_)).mono ?_
          · have hbw : Below w1.heap.size w1 w3 := by rw [HG.out]; exact HBG3.out
            obtain ⟨a', b', o', c', h1, h2, h3⟩ := HALL.out w3 (HB1.out.trans (hbw.mono HB1.out.size))
            injection h1 with h4 h5 h6
            have h7 := h2 (by omega)
            rw [← h4] at h7
            cases h7
            exact h3 j hj
          rintro e w4 ⟨v4, rfl, ho4, hb4⟩
          obtain ⟨g4, c4', rfl, _, _, hcs4, _⟩ := own_slice ho4 HQP.out
          have HO4 := hide (kept_below HO3.out hb4)
          have HBG4 : Hid (Below G w1 w4) := HBG3.out.trans (hb4.mono hGz3)
          have hGz4 : G ≤ w4.heap.size := by have := hb4.size; omega
          have HBX4 := hide (HBX3.out.below hb4)
          have HCS4 := hide hcs4
          clear ho4 hb4 hcs4 x0
          go_wp2_with (at_builtin; refine wp_app rfl (.tmp 100) (.tmp 103) rfl G _ l3 rfl HO4.out g4 c4' (quoted t.name) rfl HCS4.out (by omega) hGz4 ?_)
          intro v5 w5 l5 hl5 ho5 hg5
          have HO5 := hide ho5
          have HBG5 := hide (app_below HBG4.out HO4.out hGz4 hg5)
          have HBX5 := hide (blk_app HBX4.out (by decide) HO4.out hg5)
          have HL5 := hide hl5.out
          have hl5l : l5.length ≤ 30000 := by rw [hl5.out, List.length_append]; omega
          have hGz5 : G ≤ w5.heap.size := by have := HBG5.out.size; rw [HG.out] at this; exact this
          obtain ⟨bx, hbx⟩ : ∃ b, wr.heap.size = b := ⟨_, rfl⟩
          rw [hbx] at HBX5
          have HX5 : Hid (w5.cell? ⟨bx, 2, none⟩ = some (.int .i64 ci)) := HBX5.out.cell 2
          have HY5 : Hid (w5.cell? ⟨w.heap.size, 0, none⟩ = some (.int .i64 X)) := by
            have h1 : Below w1.heap.size w1 w5 := by rw [HG.out]; exact HBG5.out
            exact (HA1.out.below h1).cell 0
          clear ho5 hg5 hl5
          go_wp2_with fail
          rw [hbx]
          clear hbx
          refine wp_region_held_drew (S := fun w' => Hid (w'.cell? ⟨bx, 2, none⟩ = some (.int .i64 ci) ∧ w'.cell? ⟨w.heap.size, 0, none⟩ = some (.int .i64 X))) (by kernel_rfl) ⟨HX5.out, HY5.out⟩ (fun hHeld => ?_)
          refine wpAnyH_take (i := 0) (oi := { dst := some 105, op := Op.move (Operand.tmp 3), type := 39, pos := "l4_layout.go:334", after := #[], guard := none }) (v := v5) rfl (by kernel_rfl) (by kernel_rfl) (by kernel_rfl) (fun _ _ _ h => h) (Or.inl ⟨by rfl, ?_⟩) hHeld ?_
          · intro W hSW
            clear hHeld hSW
            go_simp
          try simp only [Act.put, List.setIfInBounds_toArray, List.set_cons_zero, List.set_cons_succ]
          refine wpAnyH_take (i := 1) (oi := { dst := some 106, op := Op.fieldAddr 50 (Operand.tmp 9) 2, type := 0, pos := "l4_layout.go:334", after := #[], guard := none }) (v := .pointer (some ⟨bx, 2, none⟩)) rfl (by kernel_rfl) (by kernel_rfl) (by kernel_rfl) (fun _ _ _ h => h) (Or.inl ⟨by rfl, ?_⟩) hHeld ?_
          · intro W hSW
            clear hHeld hSW
            go_simp
          try simp only [Act.put, List.setIfInBounds_toArray, List.set_cons_zero, List.set_cons_succ]
          refine wpAnyH_take (i := 2) (oi := { dst := some 107, op := Op.load 3 (Operand.tmp 106), type := 3, pos := "l4_layout.go:334", after := #[{ on := 1, ground := Ground.data }], guard := none }) (v := .int .i64 ci) rfl (by kernel_rfl) (by kernel_rfl) (by kernel_rfl) (fun _ _ _ h => h) (Or.inl ⟨by rfl, ?_⟩) hHeld ?_
          · intro W hSW
            have q := hSW.out.1
            clear hHeld hSW
            go_simp
          try simp only [Act.put, List.setIfInBounds_toArray, List.set_cons_zero, List.set_cons_succ]
          refine wpAnyH_take (i := 3) (oi := { dst := some 108, op := Op.fieldAddr 30 (Operand.tmp 1) 0, type := 0, pos := "l4_layout.go:334", after := #[], guard := none }) (v := .pointer (some ⟨w.heap.size, 0, none⟩)) rfl (by kernel_rfl) (by kernel_rfl) (by kernel_rfl) (fun _ _ _ h => h) (Or.inl ⟨by rfl, ?_⟩) hHeld ?_
          · intro W hSW
            clear hHeld hSW
            go_simp
          try simp only [Act.put, List.setIfInBounds_toArray, List.set_cons_zero, List.set_cons_succ]
          refine wpAnyH_take (i := 4) (oi := { dst := some 109, op := Op.load 3 (Operand.tmp 108), type := 3, pos := "l4_layout.go:334", after := #[{ on := 3, ground := Ground.data }], guard := none }) (v := .int .i64 X) rfl (by kernel_rfl) (by kernel_rfl) (by kernel_rfl) (fun _ _ _ h => h) (Or.inl ⟨by rfl, ?_⟩) hHeld ?_
          · intro W hSW
            have q := hSW.out.2
            clear hHeld hSW
            go_simp
          try simp only [Act.put, List.setIfInBounds_toArray, List.set_cons_zero, List.set_cons_succ]
          refine wpAnyH_take (i := 5) (oi := { dst := some 110, op := Op.binOp BinOp.rem 3 (Operand.tmp 107) (Operand.tmp 109) 3, type := 3, pos := "l4_layout.go:334", after := #[{ on := 2, ground := Ground.data }, { on := 4, ground := Ground.data }], guard := none }) (v := .int .i64 (x : Nat)) rfl (by kernel_rfl) (by kernel_rfl) (by kernel_rfl) (fun _ _ _ h => h) (Or.inl ⟨by rfl, ?_⟩) hHeld ?_
          · intro W hSW
            clear hHeld hSW
            go_simp
          try simp only [Act.put, List.setIfInBounds_toArray, List.set_cons_zero, List.set_cons_succ]
          refine wpAnyH_take (i := 9) (oi := { dst := some 114, op := Op.fieldAddr 50 (Operand.tmp 9) 2, type := 0, pos := "l4_layout.go:334", after := #[], guard := none }) (v := .pointer (some ⟨bx, 2, none⟩)) rfl (by kernel_rfl) (by kernel_rfl) (by kernel_rfl) (fun _ _ _ h => h) (Or.inl ⟨by rfl, ?_⟩) hHeld ?_
          · intro W hSW
            clear hHeld hSW
            go_simp
          try simp only [Act.put, List.setIfInBounds_toArray, List.set_cons_zero, List.set_cons_succ]
          refine wpAnyH_take (i := 10) (oi := { dst := some 115, op := Op.load 3 (Operand.tmp 114), type := 3, pos := "l4_layout.go:334", after := #[{ on := 9, ground := Ground.data }], guard := none }) (v := .int .i64 ci) rfl (by kernel_rfl) (by kernel_rfl) (by kernel_rfl) (fun _ _ _ h => h) (Or.inl ⟨by rfl, ?_⟩) hHeld ?_
          · intro W hSW
            have q := hSW.out.1
            clear hHeld hSW
            go_simp
          try simp only [Act.put, List.setIfInBounds_toArray, List.set_cons_zero, List.set_cons_succ]
          refine wpAnyH_take (i := 11) (oi := { dst := some 116, op := Op.fieldAddr 30 (Operand.tmp 1) 0, type := 0, pos := "l4_layout.go:334", after := #[], guard := none }) (v := .pointer (some ⟨w.heap.size, 0, none⟩)) rfl (by kernel_rfl) (by kernel_rfl) (by kernel_rfl) (fun _ _ _ h => h) (Or.inl ⟨by rfl, ?_⟩) hHeld ?_
          · intro W hSW
            clear hHeld hSW
            go_simp
          try simp only [Act.put, List.setIfInBounds_toArray, List.set_cons_zero, List.set_cons_succ]
          refine wpAnyH_take (i := 12) (oi := { dst := some 117, op := Op.load 3 (Operand.tmp 116), type := 3, pos := "l4_layout.go:334", after := #[{ on := 11, ground := Ground.data }], guard := none }) (v := .int .i64 X) rfl (by kernel_rfl) (by kernel_rfl) (by kernel_rfl) (fun _ _ _ h => h) (Or.inl ⟨by rfl, ?_⟩) hHeld ?_
          · intro W hSW
            have q := hSW.out.2
            clear hHeld hSW
            go_simp
          try simp only [Act.put, List.setIfInBounds_toArray, List.set_cons_zero, List.set_cons_succ]
          refine wpAnyH_take (i := 13) (oi := { dst := some 118, op := Op.binOp BinOp.quo 3 (Operand.tmp 115) (Operand.tmp 117) 3, type := 3, pos := "l4_layout.go:334", after := #[{ on := 10, ground := Ground.data }, { on := 12, ground := Ground.data }], guard := none }) (v := .int .i64 (y : Nat)) rfl (by kernel_rfl) (by kernel_rfl) (by kernel_rfl) (fun _ _ _ h => h) (Or.inl ⟨by rfl, ?_⟩) hHeld ?_
          · intro W hSW
            clear hHeld hSW
            go_simp
          try simp only [Act.put, List.setIfInBounds_toArray, List.set_cons_zero, List.set_cons_succ]
          refine wpAnyH_ready (rs := [6]) (by kernel_rfl) (by simp) ?_
          refine AllReadyH.cons (o := { dst := some 111, op := Op.call { callee := Callee.value (Operand.func 44), args := #[Operand.tmp 110], argTypes := #[3] }, type := 9, pos := "l4_layout.go:334", after := #[{ on := 5, ground := Ground.data }], guard := none }) rfl (fun K hK => ?_) AllReadyH.nil
          go_simp
          go_at_call 44
          refine (HX.out _).mono ?_
          rintro e w6 ⟨rfl, hb6⟩
          have HB6 : Hid (Below w5.heap.size w5 w6) := (Below.refl _ _).drew.trans hb6
          clear hb6
          go_wp2_with fail
          refine hK.out _ _ ?_ (fun hHeld => ?_)
          · exact ⟨cell_kept HX5.out HB6.out, cell_kept HY5.out HB6.out⟩
          clear hK K
          try simp only [Act.put, List.setIfInBounds_toArray, List.set_cons_zero, List.set_cons_succ]
          refine wpAnyH_take (i := 7) (oi := { dst := some 112, op := Op.binOp BinOp.add 9 (Operand.const (Value.string { data := #[32] })) (Operand.tmp 111) 9, type := 9, pos := "l4_layout.go:334", after := #[{ on := 6, ground := Ground.data }], guard := none }) (v := .string (({ data := #[32] } : ByteArray) ++ S2)) rfl (by kernel_rfl) (by kernel_rfl) (by kernel_rfl) (fun _ _ _ h => h) (Or.inl ⟨by rfl, ?_⟩) hHeld ?_
          · intro W hSW
            clear hHeld hSW
            go_simp
          try simp only [Act.put, List.setIfInBounds_toArray, List.set_cons_zero, List.set_cons_succ]
          refine wpAnyH_take (i := 8) (oi := { dst := some 113, op := Op.binOp BinOp.add 9 (Operand.tmp 112) (Operand.const (Value.string { data := #[32] })) 9, type := 9, pos := "l4_layout.go:334", after := #[{ on := 7, ground := Ground.data }], guard := none }) (v := .string (({ data := #[32] } : ByteArray) ++ S2 ++ ({ data := #[32] } : ByteArray))) rfl (by kernel_rfl) (by kernel_rfl) (by kernel_rfl) (fun _ _ _ h => h) (Or.inl ⟨by rfl, ?_⟩) hHeld ?_
          · intro W hSW
            clear hHeld hSW
            go_simp
          try simp only [Act.put, List.setIfInBounds_toArray, List.set_cons_zero, List.set_cons_succ]
          refine wpAnyH_ready (rs := [14]) (by kernel_rfl) (by simp) ?_
          refine AllReadyH.cons (o := { dst := some 119, op := Op.call { callee := Callee.value (Operand.func 44), args := #[Operand.tmp 118], argTypes := #[3] }, type := 9, pos := "l4_layout.go:334", after := #[{ on := 13, ground := Ground.data }, { on := 6, ground := Ground.chain }], guard := none }) rfl (fun K hK => ?_) AllReadyH.nil
          go_simp
          go_at_call 44
          refine (HY.out _).mono ?_
          rintro e w7 ⟨rfl, hb7⟩
          have HB7 : Hid (Below w5.heap.size w5 w7) := HB6.out.trans (hb7.mono HB6.out.size)
          clear hb7
          go_wp2_with fail
          refine hK.out _ _ ?_ (fun hHeld => ?_)
          · exact ⟨cell_kept HX5.out HB7.out, cell_kept HY5.out HB7.out⟩
          clear hK K
          try simp only [Act.put, List.setIfInBounds_toArray, List.set_cons_zero, List.set_cons_succ]
          refine wpAnyH_take (i := 15) (oi := { dst := some 120, op := Op.binOp BinOp.add 9 (Operand.tmp 113) (Operand.tmp 119) 9, type := 9, pos := "l4_layout.go:334", after := #[{ on := 8, ground := Ground.data }, { on := 14, ground := Ground.data }], guard := none }) (v := .string (({ data := #[32] } : ByteArray) ++ S2 ++ ({ data := #[32] } : ByteArray) ++ S3)) rfl (by kernel_rfl) (by kernel_rfl) (by kernel_rfl) (fun _ _ _ h => h) (Or.inl ⟨by rfl, ?_⟩) hHeld ?_
          · intro W hSW
            clear hHeld hSW
            go_simp
          try simp only [Act.put, List.setIfInBounds_toArray, List.set_cons_zero, List.set_cons_succ]
          refine wpAnyH_take (i := 16) (oi := { dst := some 121, op := Op.binOp BinOp.add 9 (Operand.tmp 120) (Operand.const (Value.string { data := #[10] })) 9, type := 9, pos := "l4_layout.go:334", after := #[{ on := 15, ground := Ground.data }], guard := none }) (v := .string (({ data := #[32] } : ByteArray) ++ S2 ++ ({ data := #[32] } : ByteArray) ++ S3 ++ ({ data := #[10] } : ByteArray))) rfl (by kernel_rfl) (by kernel_rfl) (by kernel_rfl) (fun _ _ _ h => h) (Or.inl ⟨by rfl, ?_⟩) hHeld ?_
          · intro W hSW
            clear hHeld hSW
            go_simp
          try simp only [Act.put, List.setIfInBounds_toArray, List.set_cons_zero, List.set_cons_succ]
          have HO7 := hide (kept_below HO5.out HB7.out)
          have HBG7 : Hid (Below G w1 w7) := HBG5.out.trans (HB7.out.mono hGz5)
          have hGz7 : G ≤ w7.heap.size := by have := HB7.out.size; omega
          have HBX7 := hide (HBX5.out.below HB7.out)
          refine wpAnyH_ready (rs := [17]) (by kernel_rfl) (by simp) ?_
          refine AllReadyH.cons (o := { dst := some 122, op := Op.call { callee := Callee.builtin Builtin.append, args := #[Operand.tmp 105, Operand.tmp 121], argTypes := #[39, 9] }, type := 39, pos := "l4_layout.go:334", after := #[{ on := 0, ground := Ground.data }, { on := 16, ground := Ground.data }, { on := 14, ground := Ground.chain }], guard := none }) rfl (fun K hK => ?_) AllReadyH.nil
          refine step_app_str rfl (.tmp 105) (.tmp 121) rfl G v5 l5 rfl HO7.out (({ data := #[32] } : ByteArray) ++ S2 ++ ({ data := #[32] } : ByteArray) ++ S3 ++ ({ data := #[10] } : ByteArray)) (tailL D.w.toNat ci.toNat) rfl HTL.out (by omega) hGz7 ?_
          intro v8 w8 l8 hl8 ho8 hg8
          have HO8 := hide ho8
          have HB8 := hide (app_below HBG7.out HO7.out hGz7 hg8)
          have HL8 := hide hl8.out
          have HY8 : Hid (w8.cell? ⟨w.heap.size, 0, none⟩ = some (.int .i64 X)) := by
            have h1 : Below w1.heap.size w1 w8 := by rw [HG.out]; exact HB8.out
            exact (HA1.out.below h1).cell 0
          have HX8 : Hid (w8.cell? ⟨bx, 2, none⟩ = some (.int .i64 ci)) := (blk_app HBX7.out (by decide) HO7.out hg8).cell 2
          clear ho8 hg8 hl8
          refine hK.out _ _ ⟨HX8.out, HY8.out⟩ (fun hHeld => ?_)
          clear hK K
          try simp only [Act.put, List.setIfInBounds_toArray, List.set_cons_zero, List.set_cons_succ]
          refine wpAnyH_take (i := 18) (oi := { dst := some 3, op := Op.assign (Operand.tmp 122), type := 39, pos := "l4_layout.go:334", after := #[{ on := 17, ground := Ground.data }, { on := 17, ground := Ground.chain }, { on := 0, ground := Ground.phase }, { on := 1, ground := Ground.phase }, { on := 2, ground := Ground.phase }, { on := 3, ground := Ground.phase }, { on := 4, ground := Ground.phase }, { on := 5, ground := Ground.phase }, { on := 6, ground := Ground.phase }, { on := 7, ground := Ground.phase }, { on := 8, ground := Ground.phase }, { on := 9, ground := Ground.phase }, { on := 10, ground := Ground.phase }, { on := 11, ground := Ground.phase }, { on := 12, ground := Ground.phase }, { on := 13, ground := Ground.phase }, { on := 14, ground := Ground.phase }, { on := 15, ground := Ground.phase }, { on := 16, ground := Ground.phase }, { on := 17, ground := Ground.phase }], guard := none }) (v := v8) rfl (by kernel_rfl) (by kernel_rfl) (by kernel_rfl) (fun _ _ _ h => h) (Or.inl ⟨by rfl, ?_⟩) hHeld ?_
          · intro W hSW
            clear hHeld hSW
            go_simp
          try simp only [Act.put, List.setIfInBounds_toArray, List.set_cons_zero, List.set_cons_succ]
          refine wpAnyH_done (by kernel_rfl) ?_ _

          go_wp2
          go_roundw
          case rel =>
            refine ⟨k + 1, by omega, by go_num, ?_, HB8.out⟩
            rw [HLN.out, HLE.out, ← List.append_assoc, ← List.append_assoc, ← HL3.out, ← HL5.out, ← HL8.out]
            exact HO8.out
          case measure => simp [intOf]; omega
        · have hge : ¬ (k : Int) < (T.length : Int) := by omega
          have e : k = D.targets.length := by rw [HDF.out.2.2.2]; omega
          rw [e, ← HR.out] at hown
          have HF := hide (own_bs hown (shL_lo D))
          have HBL := hide hbl
          clear e hown hbg hbg' hbk hbl HOW hlo
          go_wp2
          go_ret
          exact ⟨_, rfl, HF.out, HBL.out⟩
end Go.Proofs.YtaapababeecmeaaDoor

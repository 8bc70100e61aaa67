/-
  The walk of spec.Components.
-/
import Derived.Test.YtohilccbfdienaaJCoICO
import Derived.Test.YtohilccbfdienaaJCoRWP
import Derived.Test.YtohilccbfdienaaJCoSRQ
import Derived.Test.YtohilccbfdienaaJCoSRE
namespace Go.Proofs.Ytohilccbfdienaa
open Go.RowKit

theorem turn_rows {n : Nat} {E : List Ed} (h : Ec n E) : Turn (rowsN (E.map Ed.turn) n) E := fun e he => by
  have h1 := h.tt e he
  refine ⟨e.turn, rowsN_all (c := e.t.toNat) (List.mem_map.2 ⟨e, he, rfl⟩) ?_ (by omega), rfl, rfl⟩
  show e.t = _
  omega
theorem rows_turn {n : Nat} {E : List Ed} : Turn E (rowsN (E.map Ed.turn) n) := fun e he => by
  obtain ⟨x, hx, rfl⟩ := List.mem_map.1 (rowsN_mem he)
  exact ⟨x, hx, rfl, rfl⟩
theorem mut_iff {n : Nat} {E : List Ed} (h : Ec n E) {c v : Int} : Mut E c v ↔ Rch E [c] v ∧ Rch (rowsN (E.map Ed.turn) n) [c] v :=
  ⟨fun k => ⟨k.1, k.2.turn (turn_rows h)⟩, fun k => ⟨k.1, k.2.turn rows_turn⟩⟩
/-- So many are filled. -/
def filC (k : Nat) : Nat → Int := fun j => if j < k then -1 else 0
theorem filC_set (k : Nat) : updI (filC k) k (-1) = filC (k + 1) := by
  funext j
  unfold updI filC
  by_cases h : j = k
  · subst h; simp
  · rw [if_neg h]
    by_cases h2 : j < k
    · rw [if_pos h2, if_pos (by omega)]
    · rw [if_neg h2, if_neg (by omega)]
/-- So many have been told. -/
noncomputable def midC (E : List Ed) (c j : Nat) : Nat → Int := fun v => if v < j then coUp E (v : Int) (c + 1) else coUp E (v : Int) c
theorem midC_zero (E : List Ed) (c : Nat) : midC E c 0 = fun v : Nat => coUp E (v : Int) c := by funext v; unfold midC; rw [if_neg (by omega)]
theorem midC_off {E : List Ed} {c j : Nat} (h : ¬ Mut E (c : Int) (j : Int)) : midC E c (j + 1) = midC E c j := by
  funext v
  unfold midC
  by_cases e : v = j
  · subst e; rw [if_pos (by omega), if_neg (by omega), coUp_off h]
  · by_cases h2 : v < j
    · rw [if_pos h2, if_pos (by omega)]
    · rw [if_neg h2, if_neg (by omega)]
theorem midC_set {E : List Ed} {c j : Nat} (h0 : ¬ 0 ≤ coUp E (c : Int) c) (h : Mut E (c : Int) (j : Int)) : midC E c (j + 1) = updI (midC E c j) j (c : Int) := by
  funext v
  unfold updI midC
  by_cases e : v = j
  · subst e; rw [if_pos (by omega), if_pos rfl, coUp_new h0 h]
  · rw [if_neg e]
    by_cases h2 : v < j
    · rw [if_pos h2, if_pos (by omega)]
    · rw [if_neg h2, if_neg (by omega)]
theorem coUp_rng (E : List Ed) (v : Int) (k : Nat) : -1 ≤ coUp E v k ∧ coUp E v k < (k : Int) ∨ coUp E v k = -1 := by
  rcases coUp_cases E v k with ⟨h, _⟩ | ⟨c, h1, h2, _⟩
  · exact .inr h
  · exact .inl (by omega)

set_option maxHeartbeats 8000000 in
set_option maxRecDepth 1000000 in
theorem specComp_any (g : Gr) (v1 v2 v3 v4 : Value) (w : World) (hb : GrB g) (h : GrV w g v1 v2 v3 v4) :
    Calls Try.prog 5 #[gragg g v1 v2 v3 v4] w fun e w' => ∃ v, e = .returned (.tuple #[v, .int .i64 (coC g)]) ∧ IS w' v (coF g) ∧ Below w.heap.size w w' := by
  have HVG := hide (fun w2 (h2 : Below w.heap.size w w2) => specGraph_any g v1 v2 v3 v4 w2 hb (h.below h2))
  have HED := hide (fun w2 (h2 : Below w.heap.size w w2) (hok : GrOk g) => l5edges_any g v1 v2 v3 v4 w2 hok (h.below h2))
  have HRV := hide (fun w2 (h2 : Below w.heap.size w w2) => specReverse_any g v1 v2 v3 v4 w2 hb (h.below h2))
  obtain ⟨a1, c1, rfl⟩ := h.start.slice
  obtain ⟨a2, c2, rfl⟩ := h.to.slice
  obtain ⟨a3, c3, rfl⟩ := h.dir.slice
  obtain ⟨a4, c4, rfl⟩ := h.cost.slice
  obtain ⟨W0, hW0⟩ : ∃ W, w.alloc (.cells #[.int .i64 g.n, .slice a1 g.start.length c1, .slice a2 g.to.length c2, .slice a3 g.dir.length c3, .slice a4 g.cost.length c4] 28) = W := ⟨_, rfl⟩
  have HB0 : Hid (Below w.heap.size w W0) := by rw [← hW0]; exact (Below.refl _ _).alloc (Nat.le_refl _) _
  have HA0 : Hid (Blk W0 w.heap.size 28 #[.int .i64 g.n, .slice a1 g.start.length c1, .slice a2 g.to.length c2, .slice a3 g.dir.length c3, .slice a4 g.cost.length c4]) := by rw [← hW0]; exact Blk.new _ _ _
  have HW := hide hW0
  clear hW0
  unfold gragg at HVG HED HRV ⊢
  clear hb h
  go_enter Try.func5, Try.ntmps5
  go_wp2_with fail
  rw [HW.out]
  refine (HVG.out _ HB0.out).mono ?_
  rintro e w2 ⟨⟨r1, rfl, hr1⟩, hb2⟩
  have HA2 := hide (HA0.out.below hb2)
  have HB2 : Hid (Below w.heap.size w w2) := HB0.out.trans (hb2.mono HB0.out.size)
  have HR2 := hide hr1
  clear hb2 hr1 HB0 HA0 HW HVG
  have z0 := HA2.out.cell 0
  have z1 := HA2.out.cell 1
  have z2 := HA2.out.cell 2
  have z3 := HA2.out.cell 3
  have z4 := HA2.out.cell 4
  simp only [List.getElem?_toArray, List.getElem?_cons_succ, List.getElem?_cons_zero] at z0 z1 z2 z3 z4
  cases r1 with
  | false =>
    have HNO : Hid (¬ GrOk g) := fun h => by have := HR2.out.2 h; cases this
    go_wp2
    go_ret2
    rw [(co_no HNO.out).1, (co_no HNO.out).2]
    exact ⟨_, rfl, is_nil _ _, HB2.out⟩
  | true =>
    have HOK := hide (HR2.out.1 rfl)
    clear HR2
    go_wp2_with fail
    refine (HED.out _ HB2.out HOK.out).mono ?_
    rintro e w3 ⟨v5, rfl, hes, hb3⟩
    have HB3 : Hid (Below w.heap.size w w3) := HB2.out.trans (hb3.mono HB2.out.size)
    have HA3 := hide (HA2.out.below hb3)
    have HE3 := hide hes
    clear z0 z1 z2 z3 z4 hb3 hes HA2 HB2 HED
    have z0 := HA3.out.cell 0
    have z1 := HA3.out.cell 1
    have z2 := HA3.out.cell 2
    have z3 := HA3.out.cell 3
    have z4 := HA3.out.cell 4
    simp only [List.getElem?_toArray, List.getElem?_cons_succ, List.getElem?_cons_zero] at z0 z1 z2 z3 z4
    go_wp2_with fail
    refine (HRV.out _ HB3.out).mono ?_
    rintro e w4 ⟨p1, p2, p3, p4, rfl, hgv, hb4⟩
    have HB4 : Hid (Below w.heap.size w w4) := HB3.out.trans (hb4.mono HB3.out.size)
    have HA4 := hide (HA3.out.below hb4)
    have HE4 := hide (HE3.out.below hb4)
    have HGV := hide hgv
    have HED2 := hide (fun w2 (h2 : Below w4.heap.size w4 w2) => l5edges_any (rvF g) p1 p2 p3 p4 w2 (rvF_ok HOK.out) (HGV.out.below h2))
    obtain ⟨a5, c5, rfl⟩ := HGV.out.start.slice
    obtain ⟨a6, c6, rfl⟩ := HGV.out.to.slice
    obtain ⟨a7, c7, rfl⟩ := HGV.out.dir.slice
    obtain ⟨a8, c8, rfl⟩ := HGV.out.cost.slice
    unfold gragg at HED2
    rw [rv_eds HOK.out] at HED2
    obtain ⟨G2, hG2⟩ : ∃ G, rvF g = G := ⟨_, rfl⟩
    rw [hG2] at HED2 ⊢
    clear z0 z1 z2 z3 z4 hb4 hgv HA3 HB3 HRV HE3 HGV hG2
    have hbX : Below w4.heap.size w4 (w4.alloc (.cells #[.int .i64 G2.n, .slice a5 G2.start.length c5, .slice a6 G2.to.length c6, .slice a7 G2.dir.length c7, .slice a8 G2.cost.length c8] 28)) := (Below.refl _ _).alloc (Nat.le_refl _) _
    have HBX := hide hbX
    have z0 := (Blk.new w4 28 #[.int .i64 G2.n, .slice a5 G2.start.length c5, .slice a6 G2.to.length c6, .slice a7 G2.dir.length c7, .slice a8 G2.cost.length c8]).cell 0
    have z1 := (Blk.new w4 28 #[.int .i64 G2.n, .slice a5 G2.start.length c5, .slice a6 G2.to.length c6, .slice a7 G2.dir.length c7, .slice a8 G2.cost.length c8]).cell 1
    have z2 := (Blk.new w4 28 #[.int .i64 G2.n, .slice a5 G2.start.length c5, .slice a6 G2.to.length c6, .slice a7 G2.dir.length c7, .slice a8 G2.cost.length c8]).cell 2
    have z3 := (Blk.new w4 28 #[.int .i64 G2.n, .slice a5 G2.start.length c5, .slice a6 G2.to.length c6, .slice a7 G2.dir.length c7, .slice a8 G2.cost.length c8]).cell 3
    have z4 := (Blk.new w4 28 #[.int .i64 G2.n, .slice a5 G2.start.length c5, .slice a6 G2.to.length c6, .slice a7 G2.dir.length c7, .slice a8 G2.cost.length c8]).cell 4
    simp only [List.getElem?_toArray, List.getElem?_cons_succ, List.getElem?_cons_zero] at z0 z1 z2 z3 z4
    clear hbX
    go_wp2_with fail
    refine (HED2.out _ HBX.out).mono ?_
    rintro e w5 ⟨v6, rfl, hes, hb5⟩
    have hb45 : Below w4.heap.size w4 w5 := HBX.out.trans (hb5.mono HBX.out.size)
    have HB5 : Hid (Below w.heap.size w w5) := HB4.out.trans (hb45.mono HB4.out.size)
    have HA5 := hide (HA4.out.below hb45)
    have HE5 := hide (HE4.out.below hb45)
    have HO5 := hide hes
    clear z0 z1 z2 z3 z4 hb5 hes HA4 HB4 HED2 HE4 HBX hb45
    obtain ⟨n, hn⟩ : ∃ n : Nat, g.n = n := ⟨g.n.toNat, by have := HOK.out.n0; omega⟩
    have hnt : g.n.toNat = n := by omega
    have HNT := hide hnt
    have HEC : Hid (Ec n (eds g)) := by have := eds_ec HOK.out; rw [hnt] at this; exact this
    have HML : Hid ((eds g).length ≤ 6400) := by show _ ≤ _; rw [eds_length]; exact HOK.out.m
    have hq : 1 ≤ n ∧ n ≤ 1600 := by have h1 := HOK.out.n0; have h2 := HOK.out.n1; show _ ∧ _; omega
    obtain ⟨hn1, hn2⟩ := hq
    have HO : Hid (EdS w5 v6 (rowsN ((eds g).map Ed.turn) n)) := by have := HO5.out; rw [hnt] at this; exact this
    have HYES := hide (co_yes HOK.out)
    rw [hnt] at HYES
    obtain ⟨E, hE⟩ : ∃ E, eds g = E := ⟨_, rfl⟩
    rw [hE] at HO HE5 HEC HML HYES
    have HZ0 : Hid (∀ V, Below w5.heap.size w5 V → V.cell? ⟨w.heap.size, 0, none⟩ = some (.int .i64 (n : Nat))) := fun V hV => by
      have := (HA5.out.below hV).cell 0
      simp only [List.getElem?_toArray, List.getElem?_cons_zero] at this
      rw [hn] at this
      exact this
    have HRE : Hid (∀ V, Below w5.heap.size w5 V → ∀ c : Nat, c < n → Calls Try.prog 17 #[v5, .int .i64 (n : Nat), .slice (some ⟨V.heap.size, 0, none⟩) 1 1] (V.alloc (.cells #[.int .i64 (c : Nat)] 3)) fun e w' => ∃ v, e = .returned v ∧ VS w' v (rchL n E [(c : Int)]) ∧ Below (V.alloc (.cells #[.int .i64 (c : Nat)] 3)).heap.size (V.alloc (.cells #[.int .i64 (c : Nat)] 3)) w') := fun V hV c hc => by
      have hA : Below V.heap.size V (V.alloc (.cells #[.int .i64 (c : Nat)] 3)) := (Below.refl _ _).alloc (Nat.le_refl _) _
      refine l5reach_any n E [(c : Int)] v5 _ _ hn2 HML.out (by simp) ⟨HEC.out.ff, HEC.out.tt, fun x hx => by rw [List.mem_singleton.1 hx]; omega⟩ (HE5.out.below (hV.trans (hA.mono hV.size))) ⟨_, V.heap.size, 0, 1, rfl, fun _ => rfl, fun j hj => ?_⟩
      have hj0 : j = 0 := by simp at hj; omega
      subst hj0
      exact (Blk.new _ _ _).cell 0
    have HRO : Hid (∀ V, Below w5.heap.size w5 V → ∀ c : Nat, c < n → Calls Try.prog 17 #[v6, .int .i64 (n : Nat), .slice (some ⟨V.heap.size, 0, none⟩) 1 1] (V.alloc (.cells #[.int .i64 (c : Nat)] 3)) fun e w' => ∃ v, e = .returned v ∧ VS w' v (rchL n (rowsN (E.map Ed.turn) n) [(c : Int)]) ∧ Below (V.alloc (.cells #[.int .i64 (c : Nat)] 3)).heap.size (V.alloc (.cells #[.int .i64 (c : Nat)] 3)) w') := fun V hV c hc => by
      have hA : Below V.heap.size V (V.alloc (.cells #[.int .i64 (c : Nat)] 3)) := (Below.refl _ _).alloc (Nat.le_refl _) _
      have hl := rows_le (E.map Ed.turn) n
      rw [List.length_map] at hl
      have hT : ∀ e ∈ rowsN (E.map Ed.turn) n, ∃ x ∈ E, x.f = e.t ∧ x.t = e.f := rows_turn
      refine l5reach_any n _ [(c : Int)] v6 _ _ hn2 (Nat.le_trans hl HML.out) (by simp) ⟨fun e he => ?_, fun e he => ?_, fun x hx => by rw [List.mem_singleton.1 hx]; omega⟩ (HO.out.below (hV.trans (hA.mono hV.size))) ⟨_, V.heap.size, 0, 1, rfl, fun _ => rfl, fun j hj => ?_⟩
      · obtain ⟨x, hx, h1, h2⟩ := hT e he
        rw [← h2]; exact HEC.out.tt x hx
      · obtain ⟨x, hx, h1, h2⟩ := hT e he
        rw [← h1]; exact HEC.out.ff x hx
      · have hj0 : j = 0 := by simp at hj; omega
        subst hj0
        exact (Blk.new _ _ _).cell 0
    clear HA5 HE5 HO5 HO hn hnt hE HML
    have hmk := run_make_row' (P := Try.prog) 22 3 (.int .i64 0) 8 Try.underlying22 Try.infoR rfl .i64 .i64 n (by omega) (by omega) w5
    have hR := World.rowIs_made w5 (.int .i64 0) n 3
    obtain ⟨W6, hW6⟩ : ∃ W, w5.alloc (.cells (madeCells #[.int .i64 0] n) 3) = W := ⟨_, rfl⟩
    have hb6 : Below w5.heap.size w5 W6 := by rw [← hW6]; exact (Below.refl _ _).alloc (Nat.le_refl _) _
    obtain ⟨B, hB⟩ : ∃ B, w5.heap.size = B := ⟨_, rfl⟩
    rw [hW6, hB] at hmk hR
    have HBB := hide hB
    have HB6 := hide hb6
    have HR0 := hide hR
    have y5 := HZ0.out w5 (Below.refl _ _)
    clear hW6 hb6 hB hR
    go_wp2
    clear y5 hmk
    go_loopw [9] (fun ix wr => ∃ k : Nat, k ≤ n ∧ ix = .int .i64 k ∧ wr.rowIs B 3 n (fun j => .int .i64 (filC k j)) ∧ Below w5.heap.size w5 wr) (fun ix _ => n - (intOf ix).toNat)
    case atStart => exact ⟨0, Nat.zero_le _, rfl, HR0.out, HB6.out⟩
    case round =>
      clear HR0 HB6
      obtain ⟨k, hk, rfl, hrow, hbl⟩ := hrel
      rename World => Z
      have z0 := HZ0.out Z hbl
      by_cases hlt : k < n
      · have hlti : (k : Int) < (n : Int) := by omega
        have q1 := hrow.cell hlt
        have q2 := hrow.frozen k
        have HRD := hide (row_setI (t := k) (v := -1) hrow)
        rw [filC_set] at HRD
        have HB7 : Hid (Below w5.heap.size w5 (Z.setCell ⟨B, k, none⟩ (.int .i64 (-1)))) := hbl.setCell (by have := HBB.out; show _ ≤ B; omega) _
        clear hrow hbl
        go_wp2
        go_roundw
        case rel => exact ⟨k + 1, by omega, by go_num, HRD.out, HB7.out⟩
        case measure => simp [intOf]; omega
      · have hge : ¬ (k : Int) < (n : Int) := by omega
        obtain rfl : k = n := by omega
        have HRD : Hid (Z.rowIs B 3 k (fun j => .int .i64 (coUp E (j : Int) 0))) := hrow.congr fun j hj => by unfold filC coUp; rw [if_pos hj]
        have HBZ := hide hbl
        clear hrow hbl
        go_wp2
        clear hge z0
        go_loopw [10] (fun ix wr => ∃ c : Nat, c ≤ k ∧ ix = .int .i64 c ∧ wr.rowIs B 3 k (fun j => .int .i64 (coUp E (j : Int) c)) ∧ Below w5.heap.size w5 wr) (fun ix _ => k - (intOf ix).toNat)
        case atStart => exact ⟨0, Nat.zero_le _, rfl, HRD.out, HBZ.out⟩
        case round =>
          clear HRD HBZ
          obtain ⟨c, hc, rfl, hrow, hbl⟩ := hrel
          rename World => Y
          have z0 := HZ0.out Y hbl
          by_cases hlt : c < k
          · have hlti : (c : Int) < (k : Int) := by omega
            have q1 := hrow.cell hlt
            obtain ⟨cu, hcu⟩ : ∃ q, coUp E (c : Int) c = q := ⟨_, rfl⟩
            rw [hcu] at q1
            have HCU := hide hcu
            have HROW := hide hrow
            have HBL := hide hbl
            clear hrow hbl hcu
            by_cases q0 : 0 ≤ cu
            · have t0 : decide (0 ≤ cu) = true := decide_eq_true q0
              have HHAD : Hid (∀ v, coUp E v (c + 1) = coUp E v c) := coUp_had (by rw [HCU.out]; exact q0)
              go_wp2
              go_roundw
              case rel => exact ⟨c + 1, by omega, by go_num, HROW.out.congr (fun j _ => by rw [HHAD.out]), HBL.out⟩
              case measure => simp [intOf]; omega
            · have t0 : decide (0 ≤ cu) = false := decide_eq_false q0
              have HA1 : Hid (Below Y.heap.size Y (Y.alloc (.cells #[.int .i64 (c : Nat)] 3))) := (Below.refl _ _).alloc (Nat.le_refl _) _
              have z1 := cell_kept z0 HA1.out
              have HC1 := hide (HRE.out Y HBL.out c hlt)
              go_wp2_with fail
              refine HC1.out.mono ?_
              rintro e y1 ⟨v7, rfl, hv7, hby1⟩
              have HY1 : Hid (Below Y.heap.size Y y1) := HA1.out.trans (hby1.mono HA1.out.size)
              have HBL1 : Hid (Below w5.heap.size w5 y1) := HBL.out.trans (HY1.out.mono HBL.out.size)
              have HV7 := hide hv7
              clear z0 z1 hv7 hby1 HC1 HA1
              have HA2 : Hid (Below y1.heap.size y1 (y1.alloc (.cells #[.int .i64 (c : Nat)] 3))) := (Below.refl _ _).alloc (Nat.le_refl _) _
              have z0 := HZ0.out y1 HBL1.out
              have z1 := cell_kept z0 HA2.out
              have HC2 := hide (HRO.out y1 HBL1.out c hlt)
              go_wp2_with fail
              refine HC2.out.mono ?_
              rintro e y2 ⟨v8, rfl, hv8, hby2⟩
              have HY2 : Hid (Below y1.heap.size y1 y2) := HA2.out.trans (hby2.mono HA2.out.size)
              have HBL2 : Hid (Below w5.heap.size w5 y2) := HBL1.out.trans (HY2.out.mono HBL1.out.size)
              have HR2 : Hid (y2.rowIs B 3 k (fun j => .int .i64 (midC E c 0 j))) := by rw [midC_zero]; exact row_kept (row_kept HROW.out HY1.out) HY2.out
              obtain ⟨a7, b7, o7, c7, rfl, ha7, hc7⟩ := HV7.out.below HY2.out
              obtain ⟨a8, b8, o8, c8, rfl, ha8, hc8⟩ := hv8
              rw [rchL_length] at ha7 hc7 ha8 hc8
              obtain rfl := ha7 (by omega)
              obtain rfl := ha8 (by omega)
              have HC7 := hide hc7
              have HC8 := hide hc8
              rw [rchL_length, rchL_length]
              have HBT : Hid (B < y2.heap.size) := HR2.out.lt
              clear z0 z1 hc7 hc8 hby2 HC2 HA2 HV7 HY2 HY1 HBL HBL1 HROW ha7 ha8
              go_wp2
              go_loopw [13] (fun ix wr => ∃ j : Nat, j ≤ k ∧ ix = .int .i64 j ∧ wr.rowIs B 3 k (fun v => .int .i64 (midC E c j v)) ∧ Below w5.heap.size w5 wr ∧ (∀ v, v < k → wr.cell? ⟨b7, o7 + v, none⟩ = some (.bool ((rchL k E [(c : Int)]).getD v false))) ∧ (∀ v, v < k → wr.cell? ⟨b8, o8 + v, none⟩ = some (.bool ((rchL k (rowsN (E.map Ed.turn) k) [(c : Int)]).getD v false)))) (fun ix _ => k - (intOf ix).toNat)
              case atStart => exact ⟨0, Nat.zero_le _, rfl, HR2.out, HBL2.out, HC7.out, HC8.out⟩
              case round =>
                clear HR2 HBL2 HC7 HC8
                obtain ⟨j, hj, rfl, hrow, hbl, hc7, hc8⟩ := hrel
                rename World => X
                have z0 := HZ0.out X hbl
                have HROW := hide hrow
                have HBL := hide hbl
                have HC7 := hide hc7
                have HC8 := hide hc8
                by_cases hlt3 : j < k
                · have hlti3 : (j : Int) < (k : Int) := by omega
                  have r7 := hc7 j hlt3
                  have r8 := hc8 j hlt3
                  have x0 := hrow.cell hlt3
                  have x1 := hrow.frozen j
                  have e7 := rchL_getD k E [(c : Int)] hlt3
                  have e8 := rchL_getD k (rowsN (E.map Ed.turn) k) [(c : Int)] hlt3
                  obtain ⟨b1, hb1⟩ : ∃ b, (rchL k E [(c : Int)]).getD j false = b := ⟨_, rfl⟩
                  obtain ⟨b2, hb2⟩ : ∃ b, (rchL k (rowsN (E.map Ed.turn) k) [(c : Int)]).getD j false = b := ⟨_, rfl⟩
                  rw [hb1] at r7 e7
                  rw [hb2] at r8 e8
                  have HMU : Hid (Mut E (c : Int) (j : Int) ↔ b1 = true ∧ b2 = true) := (mut_iff HEC.out).trans (and_congr e7.symm e8.symm)
                  have HKE : Hid (∀ (b o : Nat) (L : List Bool), (∀ v, v < k → X.cell? ⟨b, o + v, none⟩ = some (.bool (L.getD v false))) → ∀ v, v < k → (X.setCell ⟨B, j, none⟩ (.int .i64 (c : Nat))).cell? ⟨b, o + v, none⟩ = some (.bool (L.getD v false))) := fun b o L hL v hv => by
                    have h1 := hL v hv
                    rw [World.cell?_setCell_other _ _ _ _ (fun h => by
                      rw [← h, HROW.out.cell hlt3] at h1
                      cases h1)]
                    exact h1
                  have HB7 : Hid (Below w5.heap.size w5 (X.setCell ⟨B, j, none⟩ (.int .i64 (c : Nat)))) := hbl.setCell (by have := HBB.out; show _ ≤ B; omega) _
                  clear hrow hbl hc7 hc8 e7 e8 hb1 hb2
                  cases b1 with
                  | false =>
                    have HN : Hid (¬ Mut E (c : Int) (j : Int)) := fun h => by have := (HMU.out.1 h).1; cases this
                    go_wp2
                    go_roundw
                    case rel => exact ⟨j + 1, by omega, by go_num, by rw [midC_off HN.out]; exact HROW.out, HBL.out, HC7.out, HC8.out⟩
                    case measure => simp [intOf]; omega
                  | true =>
                    cases b2 with
                    | false =>
                      have HN : Hid (¬ Mut E (c : Int) (j : Int)) := fun h => by have := (HMU.out.1 h).2; cases this
                      go_wp2
                      go_roundw
                      case rel => exact ⟨j + 1, by omega, by go_num, by rw [midC_off HN.out]; exact HROW.out, HBL.out, HC7.out, HC8.out⟩
                      case measure => simp [intOf]; omega
                    | true =>
                      have HN : Hid (Mut E (c : Int) (j : Int)) := HMU.out.2 ⟨rfl, rfl⟩
                      go_wp2
                      go_roundw
                      case rel => exact ⟨j + 1, by omega, by go_num, by rw [midC_set (by rw [HCU.out]; omega) HN.out]; exact row_setI HROW.out, HB7.out, HKE.out _ _ _ HC7.out, HKE.out _ _ _ HC8.out⟩
                      case measure => simp [intOf]; omega
                · have hge : ¬ (j : Int) < (k : Int) := by omega
                  obtain rfl : j = k := by omega
                  clear hrow hbl hc7 hc8
                  go_wp2
                  go_roundw
                  case rel => exact ⟨c + 1, by omega, by go_num, HROW.out.congr (fun v hv => by unfold midC; rw [if_pos hv]), HBL.out⟩
                  case measure => simp [intOf]; omega
          · have hge : ¬ (c : Int) < (k : Int) := by omega
            obtain rfl : c = k := by omega
            have HROW := hide hrow
            have HBL := hide hbl
            clear hrow hbl
            go_wp2
            go_ret2
            rw [HYES.out.1, HYES.out.2]
            exact ⟨_, rfl, row_is (coL_length _ _) (HROW.out.congr fun v hv => by unfold coL; rw [List.getD_eq_getElem?_getD, List.getElem?_map, List.getElem?_range hv]; rfl), HB5.out.trans (HBL.out.mono HB5.out.size)⟩
end Go.Proofs.Ytohilccbfdienaa

/-
  The walk of l4targetsOK.
-/
import Derived.Test.YteicpjbeihabnaaDoorJRunFleetIIS0
import Derived.Test.YteicpjbeihabnaaDoorJRunFleetK
import Derived.Test.YteicpjbeihabnaaDoorJRunFleetK
import Derived.BigQuiet
import Derived.Deep.QuietTactic
namespace Go.Proofs.YteicpjbeihabnaaDoor
open Go.RowKit

/-- A target may stand, among so many cells. -/
structure TgOk (cells : Int) (t : Tg) : Prop where
  s0 : 1 ≤ t.name.size
  s1 : t.name.size ≤ 60
  good : (chk t.name).1 = 0
  k0 : 0 ≤ t.kind
  k1 : t.kind ≤ 1
  c0 : 0 ≤ t.cell
  c1 : t.cell < cells
/-- Targets may stand, among so many cells. -/
structure TgsOk (cells : Int) (L : List Tg) : Prop where
  len : L.length ≤ 30
  each : ∀ i, i < L.length → TgOk cells (L.getD i .zero)
  asc : ∀ i, i + 1 < L.length → Go.Op.bytesLess (L.getD i .zero).name.toList (L.getD (i + 1) .zero).name.toList = true
  diff : ∀ i k, k < i → i < L.length → (L.getD k .zero).cell ≠ (L.getD i .zero).cell

set_option maxHeartbeats 4000000 in
set_option maxRecDepth 1000000 in
theorem l4targets_any (v : Value) (L : List Tg) (cells : Int) (w : World) (hb : TgSB L) (h : TgS w v L) :
    Calls Tryd.prog 64 #[v, .int .i64 cells] w fun e w' => Ans (TgsOk cells L) e ∧ Below w.heap.size w w' := by
  obtain ⟨a, b, o, c, rfl, ha, hc⟩ := h
  have hl := hb.len
  have HE := hide hb.each
  have HC := hide hc
  clear hc hb
  by_cases q0 : 30 < (L.length : Int)
  · have t0 : decide ((30 : Int) < (L.length : Int)) = true := decide_eq_true q0
    have HR : Hid (¬ TgsOk cells L) := fun h => by have := h.len; omega
    go_enter Tryd.func64, Tryd.ntmps64
    go_wp2
    go_ret
    exact ⟨Ans.no HR.out, Below.refl _ _⟩
  have t0 : decide ((30 : Int) < (L.length : Int)) = false := decide_eq_false q0
  go_enter Tryd.func64, Tryd.ntmps64
  go_wp2
  clear t0
  go_loopw [5] (fun ix wr => ∃ k : Nat, k ≤ L.length ∧ ix = .int .i64 k ∧ (∀ i, i < k → TgOk cells (L.getD i .zero)) ∧ (∀ i, i + 1 < k → Go.Op.bytesLess (L.getD i .zero).name.toList (L.getD (i + 1) .zero).name.toList = true) ∧ (∀ i j, j < i → i < k → (L.getD j .zero).cell ≠ (L.getD i .zero).cell) ∧ Below w.heap.size w wr) (fun ix _ => L.length - (intOf ix).toNat)
  case atStart => exact ⟨0, Nat.zero_le _, rfl, fun _ h => absurd h (Nat.not_lt_zero _), fun _ h => absurd h (Nat.not_lt_zero _), fun _ _ _ h => absurd h (Nat.not_lt_zero _), Below.refl _ _⟩
  case round =>
    obtain ⟨k, hk, rfl, hec, has, hdf, hbl⟩ := hrel
    have HEC := hide hec
    have HAS := hide has
    have HDF := hide hdf
    have HB := hide hbl
    clear hec has hdf
    by_cases hlt : k < L.length
    · have hlti : (k : Int) < (L.length : Int) := by omega
      obtain rfl := ha (by omega)
      obtain ⟨v0, hnc, hnv⟩ := HC.out k hlt
      have hnb := HE.out k hlt
      obtain ⟨d, hd⟩ : ∃ d, L.getD k .zero = d := ⟨_, rfl⟩
      rw [hd] at hnc hnv hnb
      have HD := hide hd
      obtain ⟨g0, g1, g2⟩ := hnc.below hbl
      obtain ⟨av, cv, hv⟩ := hnv.name.slice
      subst hv
      obtain ⟨W1, hW1⟩ : ∃ W, wr.alloc (.cells #[.slice av d.name.size cv, .int .i64 d.kind, .int .i64 d.cell] 66) = W := ⟨_, rfl⟩
      have hb1 : Below wr.heap.size wr W1 := by rw [← hW1]; exact (Below.refl _ _).alloc (Nat.le_refl _) _
      have hBk : Blk W1 wr.heap.size 66 #[.slice av d.name.size cv, .int .i64 d.kind, .int .i64 d.cell] := by rw [← hW1]; exact Blk.new _ _ _
      have HBW : Hid (Below w.heap.size w W1) := HB.out.trans (hb1.mono HB.out.size)
      have HBS : Hid (BS W1 (.slice av d.name.size cv) d.name) := hnv.name.below HBW.out
      have z0 := hBk.cell 0
      have z1 := hBk.cell 1
      have z2 := hBk.cell 2
      simp only [List.getElem?_toArray, List.getElem?_cons_succ, List.getElem?_cons_zero] at z0 z1 z2
      have HW := hide hW1
      have HBK := hide hBk
      have hnl := hnb.name
      clear hW1 hBk hb1 hnc hnv hnb hd hbl
      by_cases q1 : d.name.size < 1
      · have e1 : decide (((d.name.size : Nat) : Int) < 1) = true := decide_eq_true (by omega)
        have HR : Hid (¬ TgsOk cells L) := fun h => by have := (h.each k hlt).s0; rw [HD.out] at this; omega
        have hW := HW.out
        clear q1
        go_wp2
        go_ret
        exact ⟨Ans.no HR.out, HBW.out⟩
      have e1 : decide (((d.name.size : Nat) : Int) < 1) = false := decide_eq_false (by omega)
      by_cases q2 : 60 < d.name.size
      · have e2 : decide ((60 : Int) < ((d.name.size : Nat) : Int)) = true := decide_eq_true (by omega)
        have HR : Hid (¬ TgsOk cells L) := fun h => by have := (h.each k hlt).s1; rw [HD.out] at this; omega
        have hW := HW.out
        clear q1 q2
        go_wp2
        go_ret
        exact ⟨Ans.no HR.out, HBW.out⟩
      have e2 : decide ((60 : Int) < ((d.name.size : Nat) : Int)) = false := decide_eq_false (by omega)
      have HN0 : Hid (1 ≤ d.name.size ∧ d.name.size ≤ 60) := by show _ ∧ _; omega
      have HGD := hide (good_bs (w := W1) hnl HBS.out)
      obtain ⟨G, hG⟩ : ∃ G, (chk d.name).1 = G := ⟨_, rfl⟩
      rw [hG] at HGD
      have HG := hide hG
      clear q1 q2 hG
      by_cases q3 : G ≠ 0
      · have e3 : ((G : Int) == 0) = false := by rw [beq_eq_false_iff_ne]; omega
        rw [e3] at HGD
        have HR : Hid (¬ TgsOk cells L) := fun h => by have := (h.each k hlt).good; rw [HD.out, HG.out] at this; exact q3 this
        have hW := HW.out
        clear q3 e3
        go_wp2_with fail
        refine HGD.out.mono ?_
        rintro e w5 ⟨rfl, hb5⟩
        have HB5 : Hid (Below w.heap.size w w5) := HBW.out.trans (hb5.mono HBW.out.size)
        clear hb5 hW
        go_wp2
        go_ret
        exact ⟨Ans.no HR.out, HB5.out⟩
      have e3 : ((G : Int) == 0) = true := by rw [beq_iff_eq]; omega
      rw [e3] at HGD
      have HG0 : Hid (G = 0) := by show _ = _; omega
      have hW := HW.out
      clear q3 e3
      go_wp2_with fail
      refine HGD.out.mono ?_
      rintro e w5 ⟨rfl, hb5⟩
      have HB5 : Hid (Below w.heap.size w w5) := HBW.out.trans (hb5.mono HBW.out.size)
      have y0 := cell_kept z0 hb5
      have y1 := cell_kept z1 hb5
      have y2 := cell_kept z2 hb5
      have HBS5 := hide (HBS.out.below hb5)
      clear hb5 hW z0 z1 z2 g0 g1 g2 HBS HGD e1 e2 HBK HW
      obtain ⟨B6, hB6⟩ : ∃ B, wr.heap.size = B := ⟨_, rfl⟩
      rw [hB6] at y0 y1 y2 ⊢
      clear hB6
      by_cases q4 : d.kind < 0
      · have e4 : decide (d.kind < 0) = true := decide_eq_true q4
        have HR : Hid (¬ TgsOk cells L) := fun h => by have := (h.each k hlt).k0; rw [HD.out] at this; omega
        go_wp2
        go_ret
        exact ⟨Ans.no HR.out, HB5.out⟩
      have e4 : decide (d.kind < 0) = false := decide_eq_false q4
      by_cases q5 : 1 < d.kind
      · have e5 : decide (1 < d.kind) = true := decide_eq_true q5
        have HR : Hid (¬ TgsOk cells L) := fun h => by have := (h.each k hlt).k1; rw [HD.out] at this; omega
        go_wp2
        go_ret
        exact ⟨Ans.no HR.out, HB5.out⟩
      have e5 : decide (1 < d.kind) = false := decide_eq_false q5
      by_cases q6 : d.cell < 0
      · have e6 : decide (d.cell < 0) = true := decide_eq_true q6
        have HR : Hid (¬ TgsOk cells L) := fun h => by have := (h.each k hlt).c0; rw [HD.out] at this; omega
        go_wp2
        go_ret
        exact ⟨Ans.no HR.out, HB5.out⟩
      have e6 : decide (d.cell < 0) = false := decide_eq_false q6
      by_cases q7 : cells ≤ d.cell
      · have e7 : decide (cells ≤ d.cell) = true := decide_eq_true q7
        have HR : Hid (¬ TgsOk cells L) := fun h => by have := (h.each k hlt).c1; rw [HD.out] at this; omega
        go_wp2
        go_ret
        exact ⟨Ans.no HR.out, HB5.out⟩
      have e7 : decide (cells ≤ d.cell) = false := decide_eq_false q7
      have HOK : Hid (TgOk cells (L.getD k .zero)) := by
        show TgOk _ _
        rw [HD.out]
        exact ⟨HN0.out.1, HN0.out.2, by rw [HG.out]; exact HG0.out, by omega, by omega, by omega, by omega⟩
      clear HN0 HG HG0 G
      have c5 : ∀ n, (convert 26 9 (.slice av d.name.size cv)).run Tryd.prog (w5.drewN n) = .ok (.string d.name) (w5.drewN n) := fun n => toStr_bs (w := w5.drewN n) HBS5.out
      by_cases q8 : 0 < k
      · obtain ⟨m, rfl⟩ : ∃ m, k = m + 1 := ⟨k - 1, by omega⟩
        obtain ⟨p0, hpc, hpv⟩ := HC.out m (by omega)
        obtain ⟨ps, hps⟩ : ∃ p, L.getD m .zero = p := ⟨_, rfl⟩
        rw [hps] at hpc hpv
        have HPS := hide hps
        have hp0 := (hpc.below HB5.out).name
        obtain ⟨ap, cp, rfl⟩ := hpv.name.slice
        have c6 : ∀ n, (convert 26 9 (.slice ap ps.name.size cp)).run Tryd.prog (w5.drewN n) = .ok (.string ps.name) (w5.drewN n) := fun n => toStr_bs (w := w5.drewN n) (hpv.name.below (below_drewN HB5.out n))
        have hki : (0 : Int) < (m : Int) + 1 := by omega
        have hml : (m : Int) < (L.length : Int) := by omega
        have hwm : IntKind.i64.wrap (m : Int) = (m : Int) := by rw [IntKind.wrap_i64]; omega
        clear hpc hpv hps q8
        obtain ⟨P, hP⟩ : ∃ P, Go.Op.bytesLess ps.name.toList d.name.toList = P := ⟨_, rfl⟩
        have HP := hide hP
        cases P with
        | false =>
          have HR : Hid (¬ TgsOk cells L) := fun h => by
            have := h.asc m hlt; rw [HPS.out, HD.out, HP.out] at this; cases this
          go_wp2_with fail
          go_quiet (fail)
          go_wp2
          go_ret
          exact ⟨Ans.no HR.out, below_drewN HB5.out _⟩
        | true =>
          have HA1 : Hid (∀ i, i + 1 < m + 1 + 1 → Go.Op.bytesLess (L.getD i .zero).name.toList (L.getD (i + 1) .zero).name.toList = true) := fun i hi => by
            by_cases e : i = m
            · subst e; rw [HPS.out, HD.out]; exact HP.out
            · exact HAS.out i (by omega)
          go_wp2_with fail
          go_quiet (fail)
          go_wp2
          clear c5 c6 hP hp0 e4 e5 e6 e7 hki
          go_loopw [7] (fun jx wq => ∃ j p : Nat, j ≤ m + 1 ∧ jx = .int .i64 j ∧ (∀ i, i < j → (L.getD i .zero).cell ≠ (L.getD (m + 1) .zero).cell) ∧ wq = w5.drewN p) (fun jx _ => m + 1 - (intOf jx).toNat)
          case atStart => exact ⟨0, _, Nat.zero_le _, rfl, fun _ h => absurd h (Nat.not_lt_zero _), rfl⟩
          case round =>
            obtain ⟨j, p, hj, rfl, hne, rfl⟩ := hrel
            have HNE := hide hne
            have HBD := hide (below_drewN HB5.out p)
            clear hne
            by_cases hjk : j < m + 1
            · have hjki : (j : Int) < ((m + 1 : Nat) : Int) := by omega
              have hjl : (j : Int) < (L.length : Int) := by omega
              obtain ⟨_, hjc, _⟩ := HC.out j (by omega)
              have x2 := (hjc.below HB5.out).cell
              obtain ⟨cj, hcj⟩ : ∃ c, (L.getD j .zero).cell = c := ⟨_, rfl⟩
              rw [hcj] at x2
              have HCJ := hide hcj
              clear hjc hcj
              by_cases q9 : cj = d.cell
              · have e9 : (cj == d.cell) = true := by rw [beq_iff_eq]; exact q9
                have HR : Hid (¬ TgsOk cells L) := fun h => h.diff (m + 1) j hjk hlt (by rw [HCJ.out, HD.out]; exact q9)
                clear q9
                go_wp2_with fail
                go_quiet (fail)
                go_wp2
                go_ret
                exact ⟨Ans.no HR.out, below_drewN HBD.out _⟩
              · have e9 : (cj == d.cell) = false := by rw [beq_eq_false_iff_ne]; exact q9
                have HNE1 : Hid (∀ i, i < j + 1 → (L.getD i .zero).cell ≠ (L.getD (m + 1) .zero).cell) := fun i hi => by
                  by_cases e : i = j
                  · rw [e, HCJ.out, HD.out]; exact q9
                  · exact HNE.out i (by omega)
                clear q9
                go_wp2_with fail
                go_quiet (fail)
                go_wp2
                go_roundw
                case rel => exact ⟨j + 1, _, by omega, by go_num, HNE1.out, rfl⟩
                case measure => simp [intOf]; omega
            · have hjki : ¬ (j : Int) < ((m + 1 : Nat) : Int) := by omega
              have HE1 : Hid (∀ i, i < m + 1 + 1 → TgOk cells (L.getD i .zero)) := fun i hi => by
                by_cases e : i = m + 1
                · rw [e]; exact HOK.out
                · exact HEC.out i (by omega)
              have HD1 : Hid (∀ i j, j < i → i < m + 1 + 1 → (L.getD j .zero).cell ≠ (L.getD i .zero).cell) := fun i j' hj' hi => by
                by_cases e : i = m + 1
                · subst e; exact HNE.out j' (by omega)
                · exact HDF.out i j' hj' (by omega)
              go_wp2
              go_roundw
              case rel => exact ⟨m + 1 + 1, by omega, by go_num, HE1.out, HA1.out, HD1.out, HBD.out⟩
              case measure => simp [intOf]; omega
      · obtain rfl : k = 0 := by omega
        have HA1 : Hid (∀ i, i + 1 < 0 + 1 → Go.Op.bytesLess (L.getD i .zero).name.toList (L.getD (i + 1) .zero).name.toList = true) := fun i hi => by omega
        clear q8
        go_wp2_with fail
        go_quiet (fail)
        go_wp2
        clear c5 e4 e5 e6 e7
        go_loopw [7] (fun jx wq => ∃ j p : Nat, j ≤ 0 ∧ jx = .int .i64 j ∧ (∀ i, i < j → (L.getD i .zero).cell ≠ (L.getD (0) .zero).cell) ∧ wq = w5.drewN p) (fun jx _ => 0 - (intOf jx).toNat)
        case atStart => exact ⟨0, _, Nat.zero_le _, rfl, fun _ h => absurd h (Nat.not_lt_zero _), rfl⟩
        case round =>
          obtain ⟨j, p, hj, rfl, hne, rfl⟩ := hrel
          have HNE := hide hne
          have HBD := hide (below_drewN HB5.out p)
          clear hne
          by_cases hjk : j < 0
          · exact absurd hjk (Nat.not_lt_zero _)
          · have hjki : ¬ (j : Int) < ((0 : Nat) : Int) := by omega
            have HE1 : Hid (∀ i, i < 0 + 1 → TgOk cells (L.getD i .zero)) := fun i hi => by
              by_cases e : i = 0
              · rw [e]; exact HOK.out
              · exact HEC.out i (by omega)
            have HD1 : Hid (∀ i j, j < i → i < 0 + 1 → (L.getD j .zero).cell ≠ (L.getD i .zero).cell) := fun i j' hj' hi => by
              by_cases e : i = 0
              · subst e; exact HNE.out j' (by omega)
              · exact HDF.out i j' hj' (by omega)
            go_wp2
            go_roundw
            case rel => exact ⟨0 + 1, by omega, by go_num, HE1.out, HA1.out, HD1.out, HBD.out⟩
            case measure => simp [intOf]; omega
    · have hge : ¬ (k : Int) < (L.length : Int) := by omega
      have HOK : Hid (TgsOk cells L) := ⟨by omega, fun i hi => HEC.out i (by omega), fun i hi => HAS.out i (by omega), fun i j hj hi => HDF.out i j hj (by omega)⟩
      clear hbl
      go_wp2
      go_ret
      exact ⟨Ans.yes HOK.out, HB.out⟩
end Go.Proofs.YteicpjbeihabnaaDoor

/-
  The walk of spec.l5reach.
-/
import Derived.Test.YtonhehndoifipabJReachRC
import Derived.BigQuiet
import Derived.Deep.QuietTactic
import Derived.Deep.LoopGhost
import Derived.Deep.RegionHeld3
namespace Go.Proofs.Ytonhehndoifipab
open Go.RowKit

set_option maxHeartbeats 4000000 in
set_option maxRecDepth 1000000 in
theorem l5reach_any (n : Nat) (E : List Ed) (F : List Int) (v1 v2 : Value) (w : World) (hn : n ≤ 1600) (hE : E.length ≤ 6400) (hF : F.length ≤ 1600) (hin : In n E F) (h1 : EdS w v1 E) (h2 : IS w v2 F) :
    Calls Try.prog 18 #[v1, .int .i64 (n : Nat), v2] w fun e w' => ∃ v, e = .returned v ∧ VS w' v (rchL n E F) ∧ Below w.heap.size w w' := by
  have HIN := hide hin
  obtain ⟨a1, b1, o1, c1, rfl, ha1, hc1⟩ := h1
  obtain ⟨a2, b2, o2, c2, rfl, ha2, hc2⟩ := h2
  have HC1 := hide hc1
  have HC2 := hide hc2
  have hmk := run_make_row' (P := Try.prog) 26 4 (.bool false) 1 Try.underlying26 Try.infoV rfl .i64 .i64 n (by omega) (by omega) w
  have HR0 := hide (World.rowIs_made w (.bool false) n 4)
  obtain ⟨W1, hW1⟩ : ∃ W, w.alloc (.cells (madeCells #[.bool false] n) 4) = W := ⟨_, rfl⟩
  have hb1 : Below w.heap.size w W1 := by rw [← hW1]; exact (Below.refl _ _).alloc (Nat.le_refl _) _
  obtain ⟨B, hB⟩ : ∃ B, w.heap.size = B := ⟨_, rfl⟩
  rw [hW1, hB] at hmk HR0
  have HB1 := hide hb1
  have HBB := hide hB
  clear hc1 hc2 hin hW1 hb1 hB
  go_enter Try.func18, Try.ntmps18
  go_wp2
  clear hmk
  go_loopw [8] (fun ix wr => ∃ (k : Nat) (M : Nat → Bool), k ≤ F.length ∧ ix = .int .i64 k ∧ wr.rowIs B 4 n (fun j => .bool (M j)) ∧ (∀ c : Nat, c < n → M c = true → Rch E F (c : Int)) ∧ (∀ j, j < k → M (F.getD j 0).toNat = true) ∧ Below w.heap.size w wr) (fun ix _ => F.length - (intOf ix).toNat)
  case atStart => exact ⟨0, fun _ => false, Nat.zero_le _, rfl, HR0.out, (fun _ _ h => by cases h), fun j hj => absurd hj (Nat.not_lt_zero _), HB1.out⟩
  case round =>
    clear HR0 HB1
    obtain ⟨k, M, hk, rfl, hrow, hsd, hba, hbl⟩ := hrel
    have HROW := hide hrow
    have HSD := hide hsd
    have HBA := hide hba
    have HB := hide hbl
    clear hsd hba
    by_cases hlt : k < F.length
    · have hlti : (k : Int) < (F.length : Int) := by omega
      obtain rfl := ha2 (by omega)
      have f2 := cell_kept (HC2.out k hlt) hbl
      have hmem : F.getD k 0 ∈ F := by rw [List.getD_eq_getElem?_getD, List.getElem?_eq_getElem hlt]; exact List.getElem_mem hlt
      have hr := HIN.out.bb _ hmem
      obtain ⟨t, ht⟩ : ∃ t : Nat, F.getD k 0 = t := ⟨(F.getD k 0).toNat, by omega⟩
      have HMEM : Hid ((t : Int) ∈ F) := by rw [← ht]; exact hmem
      have HT := hide ht
      rw [ht] at f2 hr
      have htn : t < n := by omega
      have htni : (t : Int) < (n : Int) := by omega
      have q1 := hrow.cell htn
      have q2 := hrow.frozen t
      obtain ⟨q, hq⟩ : ∃ q, M t = q := ⟨_, rfl⟩
      rw [hq] at q1
      clear hrow hbl hmem hr ht hq
      go_wp2
      go_roundw
      case rel =>
        refine ⟨k + 1, upd M t, by omega, by go_num, row_set HROW.out, fun c hc h => ?_, fun j hj => ?_, HB.out.setCell (by rw [HBB.out]; exact Nat.le_refl _) _⟩
        · unfold upd at h
          by_cases e : c = t
          · rw [e]; exact .base HMEM.out
          · rw [if_neg e] at h; exact HSD.out c hc h
        · by_cases e : j = k
          · rw [e, HT.out, Int.toNat_natCast]; unfold upd; rw [if_pos rfl]
          · exact upd_keeps (HBA.out j (by omega))
      case measure => simp [intOf]; omega
    · have hge : ¬ (k : Int) < (F.length : Int) := by omega
      have HBF : Hid (∀ c ∈ F, M c.toNat = true) := fun c hc => by
        obtain ⟨j, hj, rfl⟩ := List.getElem_of_mem hc
        have h1 := HBA.out j (by omega)
        rw [List.getD_eq_getElem?_getD, List.getElem?_eq_getElem hj] at h1
        exact h1
      clear hrow hbl
      go_wp2
      clear hge
      go_loopg [9] (cntF M n) (fun gg _ wr => ∃ M : Nat → Bool, wr.rowIs B 4 n (fun j => .bool (M j)) ∧ (∀ c : Nat, c < n → M c = true → Rch E F (c : Int)) ∧ (∀ c ∈ F, M c.toNat = true) ∧ cntF M n ≤ gg ∧ Below w.heap.size w wr)
      case atStart => exact ⟨M, HROW.out, HSD.out, HBF.out, Nat.le_refl _, HB.out⟩
      case round =>
        clear HROW HSD HBF HB HBA
        obtain ⟨M1, hrow, hsd, hbf, hcn, hbl⟩ := hrel
        have HROW := hide hrow
        have HSD := hide hsd
        have HBF := hide hbf
        have HCN := hide hcn
        have HB := hide hbl
        clear hrow hsd hbf hcn hbl
        go_wp2
        rename World => wo
        go_loopw [9, 10] (fun sm ix wr => ∃ (i : Nat) (M : Nat → Bool) (b : Bool), i ≤ E.length ∧ ix = .int .i64 i ∧ sm = .bool b ∧ wr.rowIs B 4 n (fun j => .bool (M j)) ∧ (∀ c : Nat, c < n → M c = true → Rch E F (c : Int)) ∧ (∀ c, M1 c = true → M c = true) ∧ (b = false → M = M1 ∧ ∀ j, j < i → ∀ e, E[j]? = some e → M1 e.f.toNat = true → M1 e.t.toNat = true) ∧ cntF M n + (if b then 1 else 0) ≤ cntF M1 n ∧ Below w.heap.size w wr) (fun _ ix _ => E.length - (intOf ix).toNat)
        case atStart => exact ⟨0, M1, false, Nat.zero_le _, rfl, rfl, HROW.out, HSD.out, (fun _ h => h), (fun _ => ⟨rfl, fun j hj => absurd hj (Nat.not_lt_zero _)⟩), Nat.le_refl _, HB.out⟩
        case round =>
          clear HROW HSD HB
          obtain ⟨i, M, b, hi, rfl, rfl, hrow, hsd, hmo, hno, hcf, hbl⟩ := hrel
          have HROW := hide hrow
          have HSD := hide hsd
          have HMO := hide hmo
          have HNO := hide hno
          have HCF := hide hcf
          have HB := hide hbl
          clear hsd hmo hno hcf
          by_cases hlt : i < E.length
          · have hlti : (i : Int) < (E.length : Int) := by omega
            obtain rfl := ha1 (by omega)
            obtain ⟨p, hp⟩ : ∃ p, E[i]? = some p := ⟨E[i], List.getElem?_eq_getElem hlt⟩
            have hmem : p ∈ E := List.mem_of_getElem? hp
            obtain ⟨f0, f1, _, _⟩ := HC1.out i hlt p hp
            have g0 := cell_kept f0 hbl
            have g1 := cell_kept f1 hbl
            have hr0 := HIN.out.ff p hmem
            have hr1 := HIN.out.tt p hmem
            obtain ⟨x, hx⟩ : ∃ x : Nat, p.f = x := ⟨p.f.toNat, by omega⟩
            obtain ⟨y, hy⟩ : ∃ y : Nat, p.t = y := ⟨p.t.toNat, by omega⟩
            rw [hx] at g0 hr0
            rw [hy] at g1 hr1
            have hxn : x < n := by omega
            have hyn : y < n := by omega
            have hxi : (x : Int) < (n : Int) := by omega
            have hyi : (y : Int) < (n : Int) := by omega
            have HX := hide hx
            have HY := hide hy
            have HP := hide hp
            have HME := hide hmem
            have qx := hrow.cell hxn
            have qy := hrow.cell hyn
            have qf := hrow.frozen y
            obtain ⟨mx, hmx⟩ : ∃ q, M x = q := ⟨_, rfl⟩
            obtain ⟨my, hmy⟩ : ∃ q, M y = q := ⟨_, rfl⟩
            rw [hmx] at qx
            rw [hmy] at qy
            have HMX := hide hmx
            have HMY := hide hmy
            clear hrow hbl hp hmem f0 f1 hr0 hr1 hx hy hmx hmy
            have HSTEP : Hid (mx = false ∨ my = true → b = false → M = M1 ∧ ∀ j, j < i + 1 → ∀ e, E[j]? = some e → M1 e.f.toNat = true → M1 e.t.toNat = true) := fun hor hb => by
              obtain ⟨h1, h2⟩ := HNO.out hb
              refine ⟨h1, fun j hj e he hf => ?_⟩
              by_cases ej : j = i
              · subst ej
                rw [HP.out] at he
                cases he
                rw [HX.out, Int.toNat_natCast] at hf
                rw [HY.out, Int.toNat_natCast]
                rw [← h1] at hf ⊢
                rcases hor with h | h
                · rw [HMX.out, h] at hf; cases hf
                · rw [HMY.out, h]
              · exact h2 j (by omega) e he hf
            cases mx with
            | false =>
              go_wp2
              go_roundw
              case rel => exact ⟨i + 1, M, b, by omega, by go_num, rfl, HROW.out, HSD.out, HMO.out, HSTEP.out (.inl rfl), HCF.out, HB.out⟩
              case measure => simp [intOf]; omega
            | true =>
              cases my with
              | true =>
                go_wp2
                go_roundw
                case rel => exact ⟨i + 1, M, b, by omega, by go_num, rfl, HROW.out, HSD.out, HMO.out, HSTEP.out (.inr rfl), HCF.out, HB.out⟩
                case measure => simp [intOf]; omega
              | false =>
                have HUP := hide (cntF_upd (n := n) HMY.out hyn)
                go_wp2
                go_roundw
                case rel =>
                  refine ⟨i + 1, upd M y, true, by omega, by go_num, rfl, row_set HROW.out, fun c hc h => ?_, fun c h => upd_keeps (HMO.out c h), fun h => (by cases h), ?_, HB.out.setCell (by rw [HBB.out]; exact Nat.le_refl _) _⟩
                  · unfold upd at h
                    by_cases e : c = y
                    · rw [e, ← HY.out]
                      exact .step HME.out (by rw [HX.out]; exact HSD.out x hxn HMX.out)
                    · rw [if_neg e] at h; exact HSD.out c hc h
                  · have h1 := HUP.out
                    have h2 := HCF.out
                    rw [if_pos rfl]
                    omega
                case measure => simp [intOf]; omega
          · have hge : ¬ (i : Int) < (E.length : Int) := by omega
            clear hrow hbl
            cases b with
            | true =>
              have h1 := HCF.out
              have h2 := HCN.out
              have HGG : Hid (1 ≤ cntF M1 n ∧ cntF M n ≤ cntF M1 n - 1) := by
                rw [if_pos rfl] at h1
                exact ⟨by omega, by omega⟩
              clear h1 h2
              go_wp2
              go_roundg (cntF M1 n - 1)
              case measure => have h2 := HCN.out; have h3 := HGG.out; omega
              case rel => exact ⟨M, HROW.out, HSD.out, fun c hc => HMO.out _ (HBF.out c hc), HGG.out.2, HB.out⟩
            | false =>
              obtain ⟨hM, hcl⟩ := HNO.out rfl
              have HF : Hid (VS wr (.slice (some ⟨B, 0, none⟩) n n) (rchL n E F)) := by
                refine row_vs (rchL_length n E F) (HROW.out.congr fun c hc => ?_)
                rw [hM]
                congr 1
                refine rch_done (fun c hc h => HSD.out c hc (by rw [hM]; exact h)) HBF.out (fun e he hf => ?_) c hc
                obtain ⟨j, hj, rfl⟩ := List.getElem_of_mem he
                exact hcl j (by omega) _ (List.getElem?_eq_getElem hj) hf
              clear hM hcl
              go_wp2
              go_ret
              exact ⟨_, rfl, HF.out, HB.out⟩
end Go.Proofs.Ytonhehndoifipab

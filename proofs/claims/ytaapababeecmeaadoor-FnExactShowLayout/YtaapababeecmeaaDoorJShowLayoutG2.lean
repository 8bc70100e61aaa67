/-
  The walk of spec.QuoteText.
-/
import Derived.Test.YtaapababeecmeaaDoorJShowLayoutG
import Derived.Test.YtaapababeecmeaaDoorJShowLayoutAP
namespace Go.Proofs.YtaapababeecmeaaDoor
open Go.RowKit

theorem hexL_pos (v : Nat) : 0 < (hexL v).length := by unfold hexL; split <;> simp
theorem hex_cells (v : Nat) (w : World) (hv : v < 256) :
    Calls Tryd.prog 57 #[.int .i64 v] w fun e w' => ∃ g c, e = .returned (.slice (some ⟨g, 0, none⟩) (hexL v).length c) ∧ (∀ j, j < (hexL v).length → w'.cell? ⟨g, j, none⟩ = some (.int .u8 ((hexL v).getD j 0 : Nat))) ∧ Below w.heap.size w w' := by
  refine (hex_any v w hv).mono ?_
  rintro e w' ⟨v', rfl, ho, hb⟩
  obtain ⟨g, c, hv', _, _, hcs, _⟩ := own_slice ho (hexL_pos v)
  exact ⟨g, c, by rw [hv'], hcs, hb⟩


set_option maxHeartbeats 1000000 in
set_option maxRecDepth 1000000 in
theorem specQuote_any (b off cap : Nat) (s : ByteArray) (w : World) (hs : s.size ≤ 1048576) (hc : ∀ j, j < s.size → w.cell? ⟨b, off + j, none⟩ = some (bts s j)) :
    Calls Tryd.prog 43 #[.slice (some ⟨b, off, none⟩) s.size cap] w fun e w' => ∃ v', e = .returned v' ∧ w'.ownsRow w.heap.size 5 1 v' (quoted s).length (cv (quoted s)) ∧ Below w.heap.size w w' := by
  have H13 := hide (good_any b off cap s w hs hc)
  have HC := hide hc
  clear hc
  by_cases hg : (chk s).1 = 0
  · have hgb : (((chk s).1 : Int) == 0) = true := by rw [beq_iff_eq]; omega
    have HQ : Hid (quoted s = qTo s s.size ++ [34]) := by show _ = _; unfold quoted; rw [if_pos hg]
    rw [hgb] at H13
    clear hg hgb
    go_enter Tryd.func43, Tryd.ntmps43
    go_wp2_with (go_at_call 49; refine H13.out.mono ?_; rintro e w1 ⟨rfl, hb1⟩)
    have hB : w.heap.size ≤ w1.heap.size := hb1.size
    go_loopw [3, 4] (fun out i wr => ∃ k : Nat, k ≤ s.size ∧ i = .int .i64 k ∧ wr.ownsRow w.heap.size 5 1 out (qTo s k).length (cv (qTo s k)) ∧ Below w.heap.size w wr) (fun _ i _ => s.size - (intOf i).toNat)
    case atStart => exact ⟨0, Nat.zero_le _, rfl, World.ownsRow_lit w1 #[.int .u8 34] 1 hB (by unfold maxLen; omega) rfl, hb1.alloc hB _⟩
    case round =>
      obtain ⟨k, hk, rfl, hown, hbl⟩ := hrel
      have HOWN := hide hown
      have HBL := hide hbl
      have HBs := hide hbl.size
      clear hown hbl
      have hql := qTo_le s k
      by_cases hlt : k < s.size
      · have hcell : wr.cell? ⟨b, off + k, none⟩ = some (.int .u8 ((s.get! k).toNat : Int)) := by
          rw [HBL.out.cell (p := ⟨b, off + k, none⟩) (World.block_lt_of_cell? _ _ (HC.out k hlt))]; exact HC.out k hlt
        have hy0 : (s.get! k).toNat < 256 := (s.get! k).toNat_lt
        have HT : Hid (qTo s (k + 1) = qTo s k ++ qb (s.get! k).toNat) := rfl
        obtain ⟨y, hy⟩ : ∃ y : Nat, (s.get! k).toNat = y := ⟨_, rfl⟩
        rw [hy] at hcell hy0 HT
        clear hy
        have hyi : (y : Int) < 256 := by omega
        by_cases hA : y = 34 ∨ y = 92
        · have HE : Hid (qb y = [92, y]) := by show _ = _; unfold qb; rw [if_pos hA]
          have HF : Hid (qTo s (k + 1) = qTo s k ++ [92, y]) := by show _ = _; rw [HT.out, HE.out]
          by_cases h34 : y = 34
          · have t1 : ((y : Int) == 34) = true := by rw [beq_iff_eq]; omega
            clear hA h34
            go_wp2_with (at_builtin; refine wp_app rfl (.tmp 26) (.tmp 28) rfl w.heap.size _ (qTo s k) rfl (HOWN.out.alloc _) wr.heap.size 2 [92, y] rfl ?n1 ?l1 ?b1 ?_)
            case n1 => (intro j hj; match j, hj with | 0, _ => simp | 1, _ => simp)
            case l1 => (show (qTo s k).length + 2 ≤ _; omega)
            case b1 => (have := HBs.out; simp; omega)
            intro v' w' l hl ho hg
            go_wp2
            go_roundw
            case rel => exact ⟨k + 1, by omega, by go_num, by rw [HF.out, ← hl.out]; exact ho, app_below (HBL.out.alloc HBs.out _) (HOWN.out.alloc _) (by have := HBs.out; simp; omega) hg⟩
            case measure => simp [intOf]; omega
          · have t1 : ((y : Int) == 34) = false := by rw [beq_eq_false_iff_ne]; omega
            have t2 : ((y : Int) == 92) = true := by rw [beq_iff_eq]; omega
            clear hA h34
            go_wp2_with (at_builtin; refine wp_app rfl (.tmp 26) (.tmp 28) rfl w.heap.size _ (qTo s k) rfl (HOWN.out.alloc _) wr.heap.size 2 [92, y] rfl ?n1 ?l1 ?b1 ?_)
            case n1 => (intro j hj; match j, hj with | 0, _ => simp | 1, _ => simp)
            case l1 => (show (qTo s k).length + 2 ≤ _; omega)
            case b1 => (have := HBs.out; simp; omega)
            intro v' w' l hl ho hg
            go_wp2
            go_roundw
            case rel => exact ⟨k + 1, by omega, by go_num, by rw [HF.out, ← hl.out]; exact ho, app_below (HBL.out.alloc HBs.out _) (HOWN.out.alloc _) (by have := HBs.out; simp; omega) hg⟩
            case measure => simp [intOf]; omega
        · have t1 : ((y : Int) == 34) = false := by rw [beq_eq_false_iff_ne]; omega
          have t2 : ((y : Int) == 92) = false := by rw [beq_eq_false_iff_ne]; omega
          by_cases hB2 : y < 32 ∨ y = 127
          · have HE : Hid (qb y = [92, 117, 123] ++ hexL y ++ [125]) := by show _ = _; unfold qb; rw [if_neg hA, if_pos hB2]
            have HF : Hid (qTo s (k + 1) = qTo s k ++ [92, 117, 123] ++ hexL y ++ [125]) := by show _ = _; rw [HT.out, HE.out]; simp
            have HX := hide (fun w => hex_cells y w hy0)
            have hhl := hexL_le y
            have hhp := hexL_pos y
            have t3 : (decide ((y : Int) < 32) = true) ∨ (decide ((y : Int) < 32) = false ∧ ((y : Int) == 127) = true) := by
              by_cases h : y < 32
              · exact .inl (decide_eq_true (by omega))
              · exact .inr ⟨decide_eq_false (by omega), by rw [beq_iff_eq]; omega⟩
            clear hA hB2
            generalize hexL y = hx at *
            rcases t3 with t3 | ⟨t3, t4⟩
            all_goals
              go_wp2_with (at_builtin; refine wp_app rfl (.tmp 36) (.tmp 37) rfl w.heap.size _ (qTo s k) rfl (HOWN.out.alloc _) wr.heap.size 3 [92, 117, 123] rfl ?n1 ?l1 ?b1 ?_)
              case n1 => (intro j hj; match j, hj with | 0, _ => simp | 1, _ => simp | 2, _ => simp)
              case l1 => (show (qTo s k).length + 3 ≤ _; omega)
              case b1 => (have := HBs.out; simp; omega)
              intro v1 w2 l1 hl1 ho1 hg1
              have HB1 : Hid (Below w.heap.size w w2) := app_below (HBL.out.alloc HBs.out _) (HOWN.out.alloc _) (by have := HBs.out; simp; omega) hg1
              have HO1 := hide ho1
              have e1 : l1.length = (qTo s k).length + 3 := by rw [hl1.out]; simp
              clear ho1 hg1
              go_wp2_with fail
              refine (HX.out _).mono ?_
              rintro e w3 ⟨g, c, rfl, hcs, hb3⟩
              have HO3 : Hid (w3.ownsRow w.heap.size 5 1 v1 l1.length (cv l1)) := kept_below HO1.out hb3
              have HB3 : Hid (Below w.heap.size w w3) := HB1.out.trans (hb3.mono HB1.out.size)
              have HCS := hide hcs
              clear hcs hb3
              go_wp2_with (at_builtin; refine wp_app rfl (.tmp 39) (.tmp 42) rfl w.heap.size _ l1 rfl HO3.out g c hx rfl ?n2 ?l2 ?b2 ?_)
              case n2 => exact HCS.out
              case l2 => omega
              case b2 => exact HB3.out.size
              intro v4 w4 l4 hl4 ho4 hg4
              have HB4 : Hid (Below w.heap.size w w4) := app_below HB3.out HO3.out HB3.out.size hg4
              have HO4 := hide ho4
              have e4 : l4.length ≤ (qTo s k).length + 3 + 2 := by rw [hl4.out, List.length_append]; omega
              clear ho4 hg4
              go_wp2_with (at_builtin; refine wp_app rfl (.tmp 44) (.tmp 45) rfl w.heap.size _ l4 rfl (HO4.out.alloc _) w4.heap.size 1 [125] rfl ?n3 ?l3 ?b3 ?_)
              case n3 => (intro j hj; match j, hj with | 0, _ => simp)
              case l3 => (show l4.length + 1 ≤ _; omega)
              case b3 => (have := HB4.out.size; simp; omega)
              intro v' w' l hl ho hg
              go_wp2
              go_roundw
              case rel => exact ⟨k + 1, by omega, by go_num, by rw [HF.out, ← hl1.out, ← hl4.out, ← hl.out]; exact ho, app_below (HB4.out.alloc HB4.out.size _) (HO4.out.alloc _) (by have := HB4.out.size; simp; omega) hg⟩
              case measure => simp [intOf]; omega
          · have t3 : decide ((y : Int) < 32) = false := decide_eq_false (by omega)
            have t4 : ((y : Int) == 127) = false := by rw [beq_eq_false_iff_ne]; omega
            have HE : Hid (qb y = [y]) := by show _ = _; unfold qb; rw [if_neg hA, if_neg hB2]
            have HF : Hid (qTo s (k + 1) = qTo s k ++ [y]) := by show _ = _; rw [HT.out, HE.out]
            clear hA hB2
            go_wp2_with (at_builtin; refine wp_app rfl (.tmp 47) (.tmp 49) rfl w.heap.size _ (qTo s k) rfl (HOWN.out.alloc _) wr.heap.size 1 [y] rfl ?n1 ?l1 ?b1 ?_)
            case n1 => (intro j hj; match j, hj with | 0, _ => simp)
            case l1 => (show (qTo s k).length + 1 ≤ _; omega)
            case b1 => (have := HBs.out; simp; omega)
            intro v' w' l hl ho hg
            go_wp2
            go_roundw
            case rel => exact ⟨k + 1, by omega, by go_num, by rw [HF.out, ← hl.out]; exact ho, app_below (HBL.out.alloc HBs.out _) (HOWN.out.alloc _) (by have := HBs.out; simp; omega) hg⟩
            case measure => simp [intOf]; omega
      · have e : k = s.size := by omega
        subst e
        have HF : Hid (quoted s = qTo s s.size ++ [34]) := HQ.out
        go_wp2_with (at_builtin; refine wp_app rfl (.tmp 51) (.tmp 52) rfl w.heap.size _ (qTo s s.size) rfl (HOWN.out.alloc _) wr.heap.size 1 [34] rfl ?n1 ?l1 ?b1 ?_)
        case n1 => (intro j hj; match j, hj with | 0, _ => simp)
        case l1 => (show (qTo s s.size).length + 1 ≤ _; omega)
        case b1 => (have := HBs.out; simp; omega)
        intro v' w' l hl ho hg
        go_wp2
        go_ret
        exact ⟨v', rfl, by rw [HF.out, ← hl.out]; exact ho, app_below (HBL.out.alloc HBs.out _) (HOWN.out.alloc _) (by have := HBs.out; simp; omega) hg⟩
  · have hgb : (((chk s).1 : Int) == 0) = false := by rw [beq_eq_false_iff_ne]; omega
    have HQ : Hid (quoted s = []) := by show _ = _; unfold quoted; rw [if_neg hg]
    rw [hgb] at H13
    clear hg hgb
    go_enter Tryd.func43, Tryd.ntmps43
    go_wp2_with (go_at_call 49; refine H13.out.mono ?_; rintro e w1 ⟨rfl, hb1⟩)
    go_ret
    exact ⟨_, rfl, by rw [HQ.out]; exact World.ownsRow_nil _ _ _ _, hb1⟩
end Go.Proofs.YtaapababeecmeaaDoor

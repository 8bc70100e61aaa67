/-
  The walk of impl.UnquoteText.
-/
import Derived.Test.YteojiblglbmmdaaGreatDoorJFTextsRL
namespace Go.Proofs.YteojiblglbmmdaaGreatDoor
open Go.RowKit

set_option maxHeartbeats 1000000 in
set_option maxRecDepth 1000000 in
theorem implUnq_any (b off cap : Nat) (s : ByteArray) (w : World) (m : Int) (te : TypeId) (pe : Value) (hs : s.size ≤ 1048576)
    (hT : Lib.Utf8Tabs 1 2 w) (hM : w.cell? ⟨0, 0, none⟩ = some (.int .i64 m)) (hE : w.cell? ⟨4, 0, none⟩ = some (.iface te pe)) (hc : ∀ j, j < s.size → w.cell? ⟨b, off + j, none⟩ = some (bts s j)) :
    Calls Tryz.prog 8 #[.slice (some ⟨b, off, none⟩) s.size cap] w fun e w' => ∃ v', e = .returned (.tuple #[v', .int .i64 (unq s).2]) ∧ w'.ownsRow w.heap.size 5 1 v' (unq s).1.length (cv (unq s).1) ∧ Below w.heap.size w w' := by
  have H15 := implCheck_any b off cap s w hs hT hc
  have HC := hide hc
  obtain ⟨A, D, hAD⟩ : ∃ A D, chk s = (A, D) := ⟨_, _, rfl⟩
  rw [pairVal_of hAD] at H15
  have H15' := hide H15
  have HT := hide hT
  have HM := hide hM
  have HE := hide hE
  clear hc hT hM hE H15
  by_cases hg : A = 0
  · have hgb : ((A : Int) != 0) = false := by rw [bne_eq_false_iff_eq]; omega
    have HG : Hid ((chk s).1 = 0) := by show _ = _; rw [hAD]; exact hg
    clear hg hAD
    go_enter Tryz.func8, Tryz.ntmps8
    go_wp2_with fail
    refine H15'.out.mono ?_
    rintro e w1 ⟨rfl, hb1⟩
    have H17 := rl_any s w1 m te pe hs (chkAt_zero s _ _ HG.out) (Utf8Tabs_below HT.out hb1) (by rw [hb1.cell (p := ⟨0, 0, none⟩) (World.block_lt_of_cell? _ _ HM.out)]; exact HM.out) (by rw [hb1.cell (p := ⟨4, 0, none⟩) (World.block_lt_of_cell? _ _ HE.out)]; exact HE.out)
    have hcv := toStr_run s w1 b off cap (fun j hj => by rw [hb1.cell (p := ⟨b, off + j, none⟩) (World.block_lt_of_cell? _ _ (HC.out j hj))]; exact HC.out j hj)
    obtain ⟨l, n, hr⟩ : ∃ l n, litRes s 0 = (l, n) := ⟨_, _, rfl⟩
    rw [hr] at H17
    have HU : Hid (unq s = if n ≠ 0 ∧ n = s.size then (l, 0) else ([], 2)) := by
      show _ = _
      unfold unq; rw [hr]
      by_cases h : n ≠ 0 ∧ n = s.size
      · rw [if_pos h, if_pos ⟨HG.out, h⟩]
      · rw [if_neg h, if_neg (fun g => h g.2)]
    have H17' := hide H17
    have HB1 := hide hb1
    have hsz := hb1.size
    clear hb1 H17 hr
    go_wp2_with fail
    clear hcv
    refine H17'.out.mono ?_
    rintro e w2 ⟨v', rfl, ho, hb2⟩
    have HB2 : Hid (Below w.heap.size w w2) := HB1.out.trans (hb2.mono hsz)
    have HOB : Hid (w2.ownsRow w.heap.size 5 1 v' l.length (cv l)) := by
      refine ⟨ho.1, ?_⟩
      rcases ho.2 with h | ⟨g, c, cur, e1, e2, e3⟩
      · exact .inl h
      · exact .inr ⟨g, c, cur, e1, Nat.le_trans hsz e2, e3⟩
    clear ho hb2
    simp only
    by_cases h0 : n = 0
    · have t1 : ((n : Int) == 0) = true := by rw [beq_iff_eq]; omega
      have HR : Hid (unq s = ([], 2)) := by show _ = _; rw [HU.out, if_neg (fun g => g.1 h0)]
      clear h0
      go_wp2
      go_ret2
      exact ⟨_, by rw [HR.out]; rfl, by rw [HR.out]; exact World.ownsRow_nil _ _ _ _, HB2.out⟩
    · have t1 : ((n : Int) == 0) = false := by rw [beq_eq_false_iff_ne]; omega
      by_cases hn : n = s.size
      · have t2 : ((n : Int) != (s.size : Int)) = false := by rw [bne_eq_false_iff_eq]; omega
        have HR : Hid (unq s = (l, 0)) := by show _ = _; rw [HU.out, if_pos ⟨h0, hn⟩]
        clear h0 hn
        go_wp2
        go_ret2
        exact ⟨_, by rw [HR.out]; rfl, by rw [HR.out]; exact HOB.out, HB2.out⟩
      · have t2 : ((n : Int) != (s.size : Int)) = true := by rw [bne_iff_ne]; omega
        have HR : Hid (unq s = ([], 2)) := by show _ = _; rw [HU.out, if_neg (fun g => hn g.2)]
        clear h0 hn
        go_wp2
        go_ret2
        exact ⟨_, by rw [HR.out]; rfl, by rw [HR.out]; exact World.ownsRow_nil _ _ _ _, HB2.out⟩
  · have hgb : ((A : Int) != 0) = true := by rw [bne_iff_ne]; omega
    have HR : Hid (unq s = ([], 2)) := by show _ = _; unfold unq; rw [if_neg (fun g => hg (by have := g.1; rw [hAD] at this; exact this))]
    clear hg hAD
    go_enter Tryz.func8, Tryz.ntmps8
    go_wp2_with (go_at_call 6; refine H15'.out.mono ?_; rintro e w1 ⟨rfl, hb1⟩)
    go_ret2
    exact ⟨_, by rw [HR.out]; rfl, by rw [HR.out]; exact World.ownsRow_nil _ _ _ _, hb1⟩
end Go.Proofs.YteojiblglbmmdaaGreatDoor

/-
  The walks of impl.Reach's meet and of impl.nextCells.
-/
import Derived.Test.YtonhehndoifipabJReachIRW
import Derived.Test.YtonhehndoifipabJReachSRC
import Derived.Test.YtonhehndoifipabJReachIG
import Derived.Test.YtonhehndoifipabJReachTIc
import Derived.Test.YtonhehndoifipabJReachINC
import Derived.BigQuiet
import Derived.Deep.QuietTactic
namespace Go.Proofs.Ytonhehndoifipab
open Go.RowKit

/-- What is marked (M), and what is still to be done (L). -/
structure Wt (RX RW B G n : Nat) (M : Nat → Bool) (L : List Int) (W : World) : Prop where
  rx : Boxed W RX 26 (.slice (some ⟨B, 0, none⟩) n n)
  row : W.rowIs B 4 n (fun j => .bool (M j))
  rw : ∃ v, Boxed W RW 45 v ∧ IOw W G v L
  gz : G ≤ W.heap.size

theorem row_same {w w' : World} {b n : Nat} {t : TypeId} {f : Nat → Value} (h : w.rowIs b t n f) (hb : w'.heap[b]? = w.heap[b]?) : w'.rowIs b t n f := by
  obtain ⟨c, h1, h2, h3⟩ := h
  exact ⟨c, by rw [hb]; exact h1, h2, h3⟩
/-- Behind a mark. -/
theorem Wt.mark {RX RW B G n t : Nat} {M : Nat → Bool} {L : List Int} {W : World} (h : Wt RX RW B G n M L W) (d2 : RX ≠ B) (d3 : RW ≠ B) (g3 : B < G) : Wt RX RW B G n (upd M t) L (W.setCell ⟨B, t, none⟩ (.bool true)) := by
  obtain ⟨v, h1, h2⟩ := h.rw
  refine ⟨?_, row_set h.row, ⟨v, ?_, ?_⟩, by rw [World.size_setCell]; exact h.gz⟩
  · exact (Below.heap_setCell _ _ _ _ d2).trans h.rx
  · exact (Below.heap_setCell _ _ _ _ d3).trans h1
  · exact World.ownsRow.kept h2 (row := some B) ⟨rfl, rfl, rfl, by rw [World.size_setCell]; exact Nat.le_refl _, fun k _ hk => Below.heap_setCell _ _ _ _ (fun e => hk (by rw [e]))⟩ (by
      right
      intro e
      have := (World.ownsRow.lt h2 B e).1
      omega)
/-- Behind a change of the row alone. -/
theorem Wt.put {RX RW B G n : Nat} {M : Nat → Bool} {L L' : List Int} {W W' : World} {v : Value} (h : Wt RX RW B G n M L W) (d1 : RX ≠ RW) (d3 : RW ≠ B) (g1 : RX < G) (g3 : B < G) (hb : Boxed W' RW 45 v) (ho : IOw W' G v L') (hc : Chg [RW] G W W') : Wt RX RW B G n M L' W' :=
  ⟨(hc.blk RX g1 (fun e => d1 (List.mem_singleton.1 e))).trans h.rx, row_same h.row (hc.blk B g3 (fun e => d3 (List.mem_singleton.1 e).symm)), ⟨v, hb, ho⟩, Nat.le_trans h.gz hc.oth.size⟩

set_option maxHeartbeats 2000000 in
set_option maxRecDepth 1000000 in
theorem meet_any (RX RW B G n : Nat) (M : Nat → Bool) (L C : List Int) (u : Value) (w0 w : World) (_hn : n ≤ 1600) (hC : C.length ≤ 100000) (hin : ∀ j, j < C.length → 0 ≤ C.getD j 0 ∧ C.getD j 0 < n)
    (h1 : w0.heap.size ≤ RX) (h2 : w0.heap.size ≤ RW) (h3 : w0.heap.size ≤ B) (g1 : RX < G) (g2 : RW < G) (g3 : B < G) (d1 : RX ≠ RW) (d2 : RX ≠ B) (d3 : RW ≠ B)
    (hb : Below w0.heap.size w0 w) (hu : IS w0 u C) (hw : Wt RX RW B G n M L w) (hm : cntF M n + L.length ≤ 10000) :
    Calls Try.prog 22 #[u, .pointer (some ⟨RX, 0, none⟩), .pointer (some ⟨RW, 0, none⟩)] w fun e w' => (∃ v, e = .returned v) ∧ ∃ M' L', Wt RX RW B G n M' L' w' ∧ (∀ j, M j = true → M' j = true) ∧ (∀ j, M' j = true → M j = true ∨ ((j : Int) ∈ C ∧ (j : Int) ∈ L')) ∧ (∀ x ∈ C, M' x.toNat = true) ∧ (∀ x ∈ L, x ∈ L') ∧ (∀ x ∈ L', x ∈ L ∨ x ∈ C) ∧ cntF M' n + L'.length = cntF M n + L.length ∧ Chg [B, RW] G w w' := by
  obtain ⟨a, b, o, c, rfl, ha, hc⟩ := hu
  have HC := hide hc
  have HIN := hide hin
  have HW := hide hw
  have HB := hide hb
  clear hc hin hw hb
  go_enter Try.func22, Try.ntmps22
  go_wp2
  go_loopw [8] (fun ix wr => ∃ (k : Nat) (M' : Nat → Bool) (L' : List Int), k ≤ C.length ∧ ix = .int .i64 k ∧ Wt RX RW B G n M' L' wr ∧ (∀ j, M j = true → M' j = true) ∧ (∀ j, M' j = true → M j = true ∨ ((j : Int) ∈ C ∧ (j : Int) ∈ L')) ∧ (∀ i, i < k → M' (C.getD i 0).toNat = true) ∧ (∀ x ∈ L, x ∈ L') ∧ (∀ x ∈ L', x ∈ L ∨ x ∈ C) ∧ cntF M' n + L'.length = cntF M n + L.length ∧ Chg [B, RW] G w wr) (fun ix _ => C.length - (intOf ix).toNat)
  case atStart => exact ⟨0, M, L, Nat.zero_le _, rfl, HW.out, (fun _ h => h), (fun _ h => .inl h), (fun i hi => absurd hi (Nat.not_lt_zero _)), (fun _ h => h), (fun _ h => .inl h), rfl, Chg.refl _ _ _⟩
  case round =>
    obtain ⟨k, M1, L1, hk, rfl, hw, p1, p2, p3, p4, p5, p6, hch⟩ := hrel
    have HW1 := hide hw
    have P1 := hide p1
    have P2 := hide p2
    have P3 := hide p3
    have P4 := hide p4
    have P5 := hide p5
    have P6 := hide p6
    have HCH := hide hch
    have hL1 : L1.length ≤ 10000 := by omega
    clear p1 p2 p3 p4 p5 p6
    by_cases hlt : k < C.length
    · have hlti : (k : Int) < (C.length : Int) := by omega
      obtain rfl := ha (by omega)
      have hbw : Below w0.heap.size w0 wr := HB.out.trans (hch.below (fun q hq => by
        rcases List.mem_cons.1 hq with rfl | hq
        · exact h3
        · rw [List.mem_singleton.1 hq]; exact h2) (by omega))
      have f2 := cell_kept (HC.out k hlt) hbw
      have hmem : C.getD k 0 ∈ C := by rw [List.getD_eq_getElem?_getD, List.getElem?_eq_getElem hlt]; exact List.getElem_mem hlt
      have hr := HIN.out k hlt
      obtain ⟨t, ht⟩ : ∃ t : Nat, C.getD k 0 = t := ⟨(C.getD k 0).toNat, by omega⟩
      have HMEM : Hid ((t : Int) ∈ C) := by rw [← ht]; exact hmem
      have HT := hide ht
      rw [ht] at f2 hr
      have htn : t < n := by omega
      have htni : (t : Int) < (n : Int) := by omega
      have x0 := hw.rx.cell
      have q1 := hw.row.cell htn
      have q2 := hw.row.frozen t
      obtain ⟨q, hq⟩ : ∃ q, M1 t = q := ⟨_, rfl⟩
      rw [hq] at q1
      have HQ := hide hq
      clear hbw hmem hr ht hq hw hch
      cases q with
      | true =>
        go_wp2
        go_roundw
        case rel =>
          refine ⟨k + 1, M1, L1, by omega, by go_num, HW1.out, P1.out, P2.out, fun i hi => ?_, P4.out, P5.out, P6.out, HCH.out⟩
          by_cases e : i = k
          · rw [e, HT.out, Int.toNat_natCast]; exact HQ.out
          · exact P3.out i (by omega)
        case measure => simp [intOf]; omega
      | false =>
        have hw2 := HW1.out.mark (t := t) d2 d3 g3
        obtain ⟨v, hv1, hv2⟩ := hw2.rw
        have HPU := hide (put_any RW G v L1 (t : Int) _ hv1 hv2 g2 hw2.gz (by omega))
        have HW2 := hide hw2
        have HUP := hide (cntF_upd (n := n) HQ.out htn)
        clear hw2 hv1 hv2
        go_wp2_with fail
        refine HPU.out.mono ?_
        rintro e w5 ⟨⟨u5, rfl⟩, v5, hb5, ho5, hc5⟩
        have HW5 := hide (HW2.out.put d1 d3 g1 g3 hb5 ho5 hc5)
        have HC5 : Hid (Chg [B, RW] G w w5) := (HCH.out.trans (Chg.set (List.mem_cons_self ..))).trans (hc5.mono (fun q hq => List.mem_cons_of_mem _ hq))
        clear hb5 ho5 hc5
        go_wp2
        go_roundw
        case rel =>
          refine ⟨k + 1, upd M1 t, L1 ++ [(t : Int)], by omega, by go_num, HW5.out, fun j h => upd_keeps (P1.out j h), fun j h => ?_, fun i hi => ?_, fun x h => List.mem_append_left _ (P4.out x h), fun x h => ?_, ?_, HC5.out⟩
          · unfold upd at h
            by_cases e : j = t
            · exact .inr ⟨by rw [e]; exact HMEM.out, by rw [e]; exact List.mem_append_right _ (List.mem_singleton.2 rfl)⟩
            · rw [if_neg e] at h
              rcases P2.out j h with h | ⟨h, h'⟩
              · exact .inl h
              · exact .inr ⟨h, List.mem_append_left _ h'⟩
          · by_cases e : i = k
            · rw [e, HT.out, Int.toNat_natCast]; unfold upd; rw [if_pos rfl]
            · exact upd_keeps (P3.out i (by omega))
          · rcases List.mem_append.1 h with h | h
            · exact P5.out x h
            · rw [List.mem_singleton.1 h]; exact .inr HMEM.out
          · have h1 := HUP.out
            have h2 := P6.out
            rw [List.length_append, List.length_singleton]
            omega
        case measure => simp [intOf]; omega
    · have hge : ¬ (k : Int) < (C.length : Int) := by omega
      have P3' : Hid (∀ x ∈ C, M1 x.toNat = true) := fun x hx => by
        obtain ⟨j, hj, rfl⟩ := List.getElem_of_mem hx
        have h1 := P3.out j (by omega)
        rw [List.getD_eq_getElem?_getD, List.getElem?_eq_getElem hj] at h1
        exact h1
      clear hw hch
      go_wp2
      refine ⟨rfl, _, results_none rfl _ _ _, ⟨_, rfl⟩, M1, L1, HW1.out, P1.out, P2.out, P3'.out, P4.out, P5.out, P6.out, HCH.out⟩

end Go.Proofs.Ytonhehndoifipab

/-
  The walk of validFields.
-/
import Derived.Test.YtbjaccalloipcaaDoorJVtVF4
namespace Go.Proofs.YtbjaccalloipcaaDoor
open Go.RowKit

/-- Whether a node's fields may stand. -/
def vFd (d : Nd) : Bool := decide (0 ≤ d.n) && (decide (d.n ≤ gN d.kind) && (vTx d && (vTy d && vNs d)))
set_option maxHeartbeats 2000000 in
set_option maxRecDepth 1000000 in
theorem validFields_any (d : Nd) (vt vn vy : Value) (w : World) (h : NV w d vt vn vy) (hb : NB d) (hT : Lib.Utf8Tabs 0 1 w) :
    Calls Tryd.prog 25 #[nagg d vt vn vy] w fun e w' => e = .returned (.bool (vFd d)) ∧ Below w.heap.size w w' := by
  obtain ⟨W1, hW1⟩ : ∃ W1, w.alloc (.cells #[.int .i64 d.kind, .int .i64 d.n, vt, vn, vy, .int .i64 d.count] 35) = W1 := ⟨_, rfl⟩
  have hB1 : Below w.heap.size w W1 := by rw [← hW1]; exact (Below.refl _ _).alloc (Nat.le_refl _) _
  have hBk : Blk W1 w.heap.size 35 #[.int .i64 d.kind, .int .i64 d.n, vt, vn, vy, .int .i64 d.count] := by rw [← hW1]; exact Blk.new _ _ _
  have HX := hide (fun w2 (hb2 : Below w.heap.size w w2) => validText_any d vt vn vy w2 (h.text.below hb2) hb.text (Utf8Tabs_below hT hb2))
  have HY := hide (fun w2 (hb2 : Below w.heap.size w w2) => validTypes_any d vt vn vy w2 (h.types.below hb2) hb.types)
  have HZ := hide (fun w2 (hb2 : Below w.heap.size w w2) => validNames_any d vt vn vy w2 (h.below hb2) hb (Utf8Tabs_below hT hb2))
  have HG := hide (fun w => greatestN_any d.kind w)
  have HN : Hid (vFd d = (decide (0 ≤ d.n) && (decide (d.n ≤ gN d.kind) && (vTx d && (vTy d && vNs d))))) := rfl
  obtain ⟨X, hX⟩ : ∃ X, vTx d = X := ⟨_, rfl⟩
  obtain ⟨Y, hY⟩ : ∃ Y, vTy d = Y := ⟨_, rfl⟩
  obtain ⟨Z, hZ⟩ : ∃ Z, vNs d = Z := ⟨_, rfl⟩
  obtain ⟨V, hV⟩ : ∃ V, vFd d = V := ⟨_, rfl⟩
  obtain ⟨G, hG⟩ : ∃ G, gN d.kind = G := ⟨_, rfl⟩
  simp only [hX] at HX HN
  simp only [hY] at HY HN
  simp only [hZ] at HZ HN
  simp only [hG] at HG HN
  simp only [hV] at HN ⊢
  unfold nagg at *
  obtain ⟨K, N, T, M, S, C⟩ := d
  simp only at HX HY HZ HG HN hBk hW1 ⊢
  have HW := hide hW1
  have HB1 := hide hB1
  have HBK := hide hBk
  clear hW1 hB1 hBk h hb hT hX hY hZ hV hG
  have b0 := HBK.out.cell 0
  have b1 := HBK.out.cell 1
  have b2 := HBK.out.cell 2
  have b3 := HBK.out.cell 3
  have b4 := HBK.out.cell 4
  have b5 := HBK.out.cell 5
  simp only [List.getElem?_toArray, List.getElem?_cons_succ, List.getElem?_cons_zero] at b0 b1 b2 b3 b4 b5
  have HK : Hid (∀ w2, Below W1.drew.heap.size W1.drew w2 → w2.cell? ⟨w.heap.size, 0, none⟩ = some (.int .i64 K) ∧ w2.cell? ⟨w.heap.size, 1, none⟩ = some (.int .i64 N) ∧ w2.cell? ⟨w.heap.size, 2, none⟩ = some vt ∧ w2.cell? ⟨w.heap.size, 3, none⟩ = some vn ∧ w2.cell? ⟨w.heap.size, 4, none⟩ = some vy ∧ w2.cell? ⟨w.heap.size, 5, none⟩ = some (.int .i64 C) ∧ Below w.heap.size w w2) := fun w2 hb2 =>
    ⟨by have := cell_kept (w := W1.drew) (p := ⟨w.heap.size, 0, none⟩) b0 hb2; exact this, by have := cell_kept (w := W1.drew) (p := ⟨w.heap.size, 1, none⟩) b1 hb2; exact this, by have := cell_kept (w := W1.drew) (p := ⟨w.heap.size, 2, none⟩) b2 hb2; exact this, by have := cell_kept (w := W1.drew) (p := ⟨w.heap.size, 3, none⟩) b3 hb2; exact this, by have := cell_kept (w := W1.drew) (p := ⟨w.heap.size, 4, none⟩) b4 hb2; exact this, by have := cell_kept (w := W1.drew) (p := ⟨w.heap.size, 5, none⟩) b5 hb2; exact this, HB1.out.drew.trans (hb2.mono HB1.out.size)⟩
  have hmx : Tryd.prog.follows .mixedOrders = true := by kernel_rfl
  by_cases h0 : 0 ≤ N
  · have d0 : decide ((0 : Int) ≤ N) = true := decide_eq_true h0
    rw [d0, Bool.true_and] at HN
    by_cases h1 : N ≤ G
    · have d1 : decide (N ≤ G) = true := decide_eq_true h1
      rw [d1, Bool.true_and] at HN
      clear h0 h1
      cases X with
      | false =>
        go_enter Tryd.func25, Tryd.ntmps25
        go_wp2_with fail
        rw [HW.out]
        go_region_with (first
          | (go_at_call 37; refine (HG.out _).mono ?_; rintro e w2 ⟨rfl, rfl⟩)
          | (go_at_call 38; refine (HX.out _ HB1.out.drew).mono ?_; rintro e w2 ⟨rfl, hb2⟩; have HB2 := hide (HK.out w2 hb2).2.2.2.2.2.2; clear hb2))
        all_goals go_wp2
        all_goals go_ret
        all_goals exact ⟨by rw [HN.out]; rfl, HB2.out⟩
      | true =>
        cases Y with
        | false =>
          go_enter Tryd.func25, Tryd.ntmps25
          go_wp2_with fail
          rw [HW.out]
          go_region_with (first
            | (go_at_call 37; refine (HG.out _).mono ?_; rintro e w2 ⟨rfl, rfl⟩)
            | (go_at_call 38; refine (HX.out _ HB1.out.drew).mono ?_; rintro e w2 ⟨rfl, hb2⟩; obtain ⟨c0, c1, c2, c3, c4, c5, HB2'⟩ := HK.out w2 hb2; have HB2 := hide HB2'; have HD2 := hide hb2; clear hb2 HB2')
            | (go_at_call 39; refine (HY.out _ HB2.out).mono ?_; rintro e w3 ⟨rfl, hb3⟩; have HB3 := hide (HB2.out.trans (hb3.mono HB2.out.size)); clear hb3))
          all_goals go_wp2
          all_goals go_ret
          all_goals exact ⟨by rw [HN.out]; rfl, HB3.out⟩
        | true =>
          go_enter Tryd.func25, Tryd.ntmps25
          go_wp2_with fail
          rw [HW.out]
          go_region_with (first
            | (go_at_call 37; refine (HG.out _).mono ?_; rintro e w2 ⟨rfl, rfl⟩)
            | (go_at_call 38; refine (HX.out _ HB1.out.drew).mono ?_; rintro e w2 ⟨rfl, hb2⟩; obtain ⟨c0, c1, c2, c3, c4, c5, HB2'⟩ := HK.out w2 hb2; have HB2 := hide HB2'; have HD2 := hide hb2; clear hb2 HB2')
            | (go_at_call 39; refine (HY.out _ HB2.out).mono ?_; rintro e w3 ⟨rfl, hb3⟩; obtain ⟨e0, e1, e2, e3, e4, e5, HB3'⟩ := HK.out w3 (HD2.out.trans (hb3.mono HD2.out.size)); have HB3 := hide HB3'; clear hb3 HB3')
            | (go_at_call 40; refine (HZ.out _ HB3.out).mono ?_; rintro e w4 ⟨rfl, hb4⟩; have HB4 := hide (HB3.out.trans (hb4.mono HB3.out.size)); clear hb4))
          all_goals go_wp2
          all_goals go_ret
          all_goals exact ⟨by rw [HN.out]; rfl, HB4.out⟩
    · have d1 : decide (N ≤ G) = false := decide_eq_false h1
      rw [d1, Bool.false_and] at HN
      have HBD := hide HB1.out.drew
      clear h0 h1
      go_enter Tryd.func25, Tryd.ntmps25
      go_wp2_with fail
      rw [HW.out]
      go_region_with (go_at_call 37; refine (HG.out _).mono ?_; rintro e w2 ⟨rfl, rfl⟩)
      all_goals go_wp2
      all_goals go_ret
      all_goals exact ⟨by rw [HN.out]; rfl, HBD.out⟩
  · have d0 : decide ((0 : Int) ≤ N) = false := decide_eq_false h0
    rw [d0, Bool.false_and] at HN
    have HBD := hide HB1.out.drew
    clear h0
    go_enter Tryd.func25, Tryd.ntmps25
    go_wp2_with fail
    rw [HW.out]
    go_region
    all_goals go_wp2
    all_goals go_ret
    all_goals exact ⟨by rw [HN.out]; rfl, HBD.out⟩
end Go.Proofs.YtbjaccalloipcaaDoor

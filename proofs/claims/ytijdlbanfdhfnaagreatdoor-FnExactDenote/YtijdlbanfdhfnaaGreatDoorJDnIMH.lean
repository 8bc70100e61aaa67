/-
  Impl's grid, where it is made.
-/
import Derived.Test.YtijdlbanfdhfnaaGreatDoorJDnShelf
namespace Go.Proofs.YtijdlbanfdhfnaaGreatDoor
open Go.RowKit

set_option maxHeartbeats 4000000 in
set_option maxRecDepth 1000000 in
/-- The grid is made. -/
theorem grid_ok (F M p q : Nat) (d : Dc) (v7 : Value) (w : World) (h7 : ∃ a n c, v7 = .slice a n c) (hm : Fl0 w F M) (hmp : MapN w M 0 (fun _ => 0)) (hM : M < F) (hx : d.x1 = (p : Int)) (hy : d.y1 = (q : Int)) (hp : 1 ≤ p ∧ p ≤ 40) (hq : 1 ≤ q ∧ q ≤ 40) :
    Calls Tryz.prog 19 #[.pointer (some ⟨F, 0, none⟩), dcagg d v7] w fun e w' => e = .returned (.int .i64 0) ∧ Below M w w' ∧ w.heap.size ≤ w'.heap.size ∧ (∀ (g : Nat) (t : TypeId) (cs : Array Value), t ≠ 58 → Blk w g t cs → Blk w' g t cs) ∧ ∃ cb cc, FlI w' F cb cc M 0 (flo0 p q) (.slice none 0 0) [] := by
  obtain ⟨a7, n7, c7, rfl⟩ := h7
  have HB : Hid (Below w.heap.size w (w.alloc (.cells #[.int .i64 d.kind, .int .i64 d.x1, .int .i64 d.y1, .int .i64 d.x2, .int .i64 d.y2, .int .i64 d.dir, .int .i64 d.cost, .slice a7 n7 c7, .int .i64 d.node] 42))) := (Below.refl _ w).alloc (Nat.le_refl _) _
  have HSX : Hid (∀ V, Calls Tryz.prog 48 #[.int .i64 (p : Int)] V fun e w' => e = .returned (.bool true) ∧ w' = V) := fun V => by
    have h := isSide_any (p : Int) V
    rw [decide_eq_true (by omega), decide_eq_true (by omega)] at h
    exact h
  have HSY : Hid (∀ V, Calls Tryz.prog 48 #[.int .i64 (q : Int)] V fun e w' => e = .returned (.bool true) ∧ w' = V) := fun V => by
    have h := isSide_any (q : Int) V
    rw [decide_eq_true (by omega), decide_eq_true (by omega)] at h
    exact h
  have HFM := hide hm
  have HMP := hide hmp
  have HMF := hide hM
  have HBK : Hid (Blk (w.alloc (.cells #[.int .i64 d.kind, .int .i64 d.x1, .int .i64 d.y1, .int .i64 d.x2, .int .i64 d.y2, .int .i64 d.dir, .int .i64 d.cost, .slice a7 n7 c7, .int .i64 d.node] 42)) w.heap.size 42 #[.int .i64 d.kind, .int .i64 d.x1, .int .i64 d.y1, .int .i64 d.x2, .int .i64 d.y2, .int .i64 d.dir, .int .i64 d.cost, .slice a7 n7 c7, .int .i64 d.node]) := Blk.new _ _ _
  have HPQ := hide (And.intro hp hq)
  unfold dcagg
  rw [hx, hy] at HB HBK ⊢
  obtain ⟨W1, hW1⟩ : ∃ W, w.alloc (.cells #[.int .i64 d.kind, .int .i64 (p : Int), .int .i64 (q : Int), .int .i64 d.x2, .int .i64 d.y2, .int .i64 d.dir, .int .i64 d.cost, .slice a7 n7 c7, .int .i64 d.node] 42) = W := ⟨_, rfl⟩
  have HW1 := hide hW1
  rw [hW1] at HB HBK
  have hm1 : Fl0 W1 F M := Blk.below hm HB.out
  have f0 := Blk.cell hm1 0
  have f1 := Blk.cell hm1 1
  have f2 := Blk.cell hm1 2
  have u0 := Blk.frozen hm1 0
  have u1 := Blk.frozen hm1 1
  have z1 := HBK.out.cell 1
  have z2 := HBK.out.cell 2
  simp only [List.getElem?_toArray, List.getElem?_cons_succ, List.getElem?_cons_zero] at f0 f1 f2 z1 z2
  have HFW : Hid (F < w.heap.size) := Blk.lt hm
  have HNE : Hid (F ≠ w.heap.size) := by have := Blk.lt hm; show F ≠ _; omega
  have hne := HNE.out
  have HM1 := hide hm1
  clear hm hmp hM hx hy hp hq hm1
  have hW := hW1
  clear hW1
  go_enter Tryz.func19, Tryz.ntmps19
  go_wp2_with (go_at_call 48; first | (refine (HSX.out _).mono ?_; rintro e w1 ⟨rfl, rfl⟩) | (refine (HSY.out _).mono ?_; rintro e w1 ⟨rfl, rfl⟩))
  clear hW
  go_region
  have hB1 : Below M w (((w1.setCell ⟨F, 0, none⟩ (.int .i64 (p : Int))).setCell ⟨F, 1, none⟩ (.int .i64 (q : Int))).drew) := (((HB.out.mono (Nat.le_of_lt HMP.out.lt)).setCell (p := ⟨F, 0, none⟩) (Nat.le_of_lt HMF.out) _).setCell (p := ⟨F, 1, none⟩) (Nat.le_of_lt HMF.out) _).drew
  have hM2 : Blk (((w1.setCell ⟨F, 0, none⟩ (.int .i64 (p : Int))).setCell ⟨F, 1, none⟩ (.int .i64 (q : Int))).drew) F 58 #[.int .i64 (p : Int), .int .i64 (q : Int), .slice none 0 0, .slice none 0 0, .map (some M)] := (Blk.set HM1.out 0 _).set 1 _
  have hMP2 : MapN (((w1.setCell ⟨F, 0, none⟩ (.int .i64 (p : Int))).setCell ⟨F, 1, none⟩ (.int .i64 (q : Int))).drew) M 0 (fun _ => 0) := ((((HMP.out).keep (HB.out.block _ HMP.out.lt)).set HM1.out).set (Blk.set HM1.out 0 _)).keep rfl
  have hK2 : ∀ (g : Nat) (t : TypeId) (cs : Array Value), t ≠ 58 → Blk w g t cs → Blk (((w1.setCell ⟨F, 0, none⟩ (.int .i64 (p : Int))).setCell ⟨F, 1, none⟩ (.int .i64 (q : Int))).drew) g t cs := fun g t cs ht q => set_typed (Blk.set HM1.out 0 _) (set_typed HM1.out (Blk.below q HB.out) ht) ht
  obtain ⟨W2, hW2⟩ : ∃ W, ((w1.setCell ⟨F, 0, none⟩ (.int .i64 (p : Int))).setCell ⟨F, 1, none⟩ (.int .i64 (q : Int))).drew = W := ⟨_, rfl⟩
  rw [hW2] at hB1 hM2 hMP2 hK2 ⊢
  have y0 := hM2.cell 0
  have y1 := hM2.cell 1
  simp only [List.getElem?_toArray, List.getElem?_cons_succ, List.getElem?_cons_zero] at y0 y1
  have HB2 := hide hB1
  have HM2 := hide hM2
  have HMP2 := hide hMP2
  have HK2 := hide hK2
  obtain ⟨n, hn⟩ : ∃ n, p * q = n := ⟨_, rfl⟩
  have hn1 : 1 ≤ n := by have := HPQ.out; rw [← hn]; exact Nat.mul_le_mul this.1.1 this.2.1
  have hn2 : n ≤ 1600 := by have := HPQ.out; rw [← hn]; exact Nat.mul_le_mul this.1.2 this.2.2
  have hws : IntKind.i64.wrap ((p : Int) * (q : Int)) = ((n : Nat) : Int) := by rw [← Int.natCast_mul, hn, IntKind.wrap_i64]; omega
  have HN := hide hn
  have HN1 : Hid (1 ≤ n ∧ n ≤ 1600) := ⟨hn1, hn2⟩
  have HF2 : Hid (F < W2.heap.size) := hM2.lt
  clear hB1 hM2 hMP2 hK2 hW2 f0 f1 f2 u0 u1 z1 z2 hn hn1 hn2 hne
  go_wp2_with fail
  refine wp_region_held_drew (S := fun w' => Hid (w'.cell? ⟨F, 0, none⟩ = some (.int .i64 (p : Int)) ∧ w'.cell? ⟨F, 1, none⟩ = some (.int .i64 (q : Int)))) (by kernel_rfl) (⟨y0, y1⟩) (fun hHeld => ?_)
  refine wpAnyH_take (i := 0) (v := ?_) rfl (by kernel_rfl) (by kernel_rfl) (by kernel_rfl) (fun _ _ _ h => h) (Or.inl ⟨by rfl, ?_⟩) hHeld ?_
  rotate_left 1
  · intro Wx hSW; simp only [List.getElem_toArray, List.getElem_cons_zero]; have q0 := hSW.out.1; have q1 := hSW.out.2; go_simp; try with_reducible rfl
  simp only [Act.put, List.getElem_toArray, List.getElem_cons_zero, List.setIfInBounds_toArray, List.set_cons_zero, List.set_cons_succ]
  refine wpAnyH_take (i := 1) (v := ?_) rfl (by kernel_rfl) (by kernel_rfl) (by kernel_rfl) (fun _ _ _ h => h) (Or.inl ⟨by rfl, ?_⟩) hHeld ?_
  rotate_left 1
  · intro Wx hSW; simp only [List.getElem_toArray, List.getElem_cons_zero, List.getElem_cons_succ]; have q0 := hSW.out.1; have q1 := hSW.out.2; go_simp; try with_reducible rfl
  simp only [Act.put, List.getElem_toArray, List.getElem_cons_zero, List.getElem_cons_succ, List.setIfInBounds_toArray, List.set_cons_zero, List.set_cons_succ]
  refine wpAnyH_take (i := 3) (v := ?_) rfl (by kernel_rfl) (by kernel_rfl) (by kernel_rfl) (fun _ _ _ h => h) (Or.inl ⟨by rfl, ?_⟩) hHeld ?_
  rotate_left 1
  · intro Wx hSW; simp only [List.getElem_toArray, List.getElem_cons_zero, List.getElem_cons_succ]; have q0 := hSW.out.1; have q1 := hSW.out.2; go_simp; try with_reducible rfl
  simp only [Act.put, List.getElem_toArray, List.getElem_cons_zero, List.getElem_cons_succ, List.setIfInBounds_toArray, List.set_cons_zero, List.set_cons_succ]
  refine wpAnyH_take (i := 4) (v := ?_) rfl (by kernel_rfl) (by kernel_rfl) (by kernel_rfl) (fun _ _ _ h => h) (Or.inl ⟨by rfl, ?_⟩) hHeld ?_
  rotate_left 1
  · intro Wx hSW; simp only [List.getElem_toArray, List.getElem_cons_zero, List.getElem_cons_succ]; have q0 := hSW.out.1; have q1 := hSW.out.2; go_simp; try with_reducible rfl
  simp only [Act.put, List.getElem_toArray, List.getElem_cons_zero, List.getElem_cons_succ, List.setIfInBounds_toArray, List.set_cons_zero, List.set_cons_succ]
  refine wpAnyH_take (i := 5) (v := ?_) rfl (by kernel_rfl) (by kernel_rfl) (by kernel_rfl) (fun _ _ _ h => h) (Or.inl ⟨by rfl, ?_⟩) hHeld ?_
  rotate_left 1
  · intro Wx hSW; simp only [List.getElem_toArray, List.getElem_cons_zero, List.getElem_cons_succ]; have q0 := hSW.out.1; have q1 := hSW.out.2; go_simp; try with_reducible rfl
  simp only [Act.put, List.getElem_toArray, List.getElem_cons_zero, List.getElem_cons_succ, List.setIfInBounds_toArray, List.set_cons_zero, List.set_cons_succ]
  refine wpAnyH_take (i := 6) (v := ?_) rfl (by kernel_rfl) (by kernel_rfl) (by kernel_rfl) (fun _ _ _ h => h) (Or.inl ⟨by rfl, ?_⟩) hHeld ?_
  rotate_left 1
  · intro Wx hSW; simp only [List.getElem_toArray, List.getElem_cons_zero, List.getElem_cons_succ]; have q0 := hSW.out.1; have q1 := hSW.out.2; go_simp; try with_reducible rfl
  simp only [Act.put, List.getElem_toArray, List.getElem_cons_zero, List.getElem_cons_succ, List.setIfInBounds_toArray, List.set_cons_zero, List.set_cons_succ]
  refine wpAnyH_take (i := 7) (v := ?_) rfl (by kernel_rfl) (by kernel_rfl) (by kernel_rfl) (fun _ _ _ h => h) (Or.inl ⟨by rfl, ?_⟩) hHeld ?_
  rotate_left 1
  · intro Wx hSW; simp only [List.getElem_toArray, List.getElem_cons_zero, List.getElem_cons_succ]; have q0 := hSW.out.1; have q1 := hSW.out.2; go_simp; try with_reducible rfl
  simp only [Act.put, List.getElem_toArray, List.getElem_cons_zero, List.getElem_cons_succ, List.setIfInBounds_toArray, List.set_cons_zero, List.set_cons_succ]
  refine wpAnyH_take (i := 8) (v := ?_) rfl (by kernel_rfl) (by kernel_rfl) (by kernel_rfl) (fun _ _ _ h => h) (Or.inl ⟨by rfl, ?_⟩) hHeld ?_
  rotate_left 1
  · intro Wx hSW; simp only [List.getElem_toArray, List.getElem_cons_zero, List.getElem_cons_succ]; have q0 := hSW.out.1; have q1 := hSW.out.2; go_simp; try with_reducible rfl
  simp only [Act.put, List.getElem_toArray, List.getElem_cons_zero, List.getElem_cons_succ, List.setIfInBounds_toArray, List.set_cons_zero, List.set_cons_succ]
  refine wpAnyH_take (i := 9) (v := ?_) rfl (by kernel_rfl) (by kernel_rfl) (by kernel_rfl) (fun _ _ _ h => h) (Or.inl ⟨by rfl, ?_⟩) hHeld ?_
  rotate_left 1
  · intro Wx hSW; simp only [List.getElem_toArray, List.getElem_cons_zero, List.getElem_cons_succ]; have q0 := hSW.out.1; have q1 := hSW.out.2; go_simp; try with_reducible rfl
  simp only [Act.put, List.getElem_toArray, List.getElem_cons_zero, List.getElem_cons_succ, List.setIfInBounds_toArray, List.set_cons_zero, List.set_cons_succ]
  refine wpAnyH_take (i := 10) (v := ?_) rfl (by kernel_rfl) (by kernel_rfl) (by kernel_rfl) (fun _ _ _ h => h) (Or.inl ⟨by rfl, ?_⟩) hHeld ?_
  rotate_left 1
  · intro Wx hSW; simp only [List.getElem_toArray, List.getElem_cons_zero, List.getElem_cons_succ]; have q0 := hSW.out.1; have q1 := hSW.out.2; go_simp; try with_reducible rfl
  simp only [Act.put, List.getElem_toArray, List.getElem_cons_zero, List.getElem_cons_succ, List.setIfInBounds_toArray, List.set_cons_zero, List.set_cons_succ]
  refine wpAnyH_take (i := 11) (v := ?_) rfl (by kernel_rfl) (by kernel_rfl) (by kernel_rfl) (fun _ _ _ h => h) (Or.inl ⟨by rfl, ?_⟩) hHeld ?_
  rotate_left 1
  · intro Wx hSW; simp only [List.getElem_toArray, List.getElem_cons_zero, List.getElem_cons_succ]; have q0 := hSW.out.1; have q1 := hSW.out.2; go_simp; try with_reducible rfl
  simp only [Act.put, List.getElem_toArray, List.getElem_cons_zero, List.getElem_cons_succ, List.setIfInBounds_toArray, List.set_cons_zero, List.set_cons_succ]
  refine wpAnyH_ready (rs := [2]) (by kernel_rfl) (by simp) ?_
  refine AllReadyH.cons rfl (fun K hK => ?_) AllReadyH.nil
  go_simp
  have hA3 : Below W2.heap.size W2 (W2.drew.alloc (.cells #[.bool false, .int .i64 1, .int .i64 15, .bool false] 63)) := (Below.refl _ W2).drew.alloc (Nat.le_refl _) _
  have HA3 := hide hA3
  have HRP := hide (repeat4_any n W2.heap.size (.bool false) (.int .i64 1) (.int .i64 15) (.bool false) (W2.drew.alloc (.cells #[.bool false, .int .i64 1, .int .i64 15, .bool false] 63)) (by have := HN1.out; omega) HN1.out.1 rfl rfl rfl rfl (fun j hj => by
    have h := (Blk.new W2.drew 63 #[.bool false, .int .i64 1, .int .i64 15, .bool false]).cell j
    refine h.trans ?_
    match j, hj with
    | 0, _ => rfl
    | 1, _ => rfl
    | 2, _ => rfl
    | 3, _ => rfl))
  refine hK.out _ _ ⟨cell_kept y0 hA3, cell_kept y1 hA3⟩ (fun hHeld => ?_)
  clear hK K
  try simp only [Act.put, List.getElem_toArray, List.getElem_cons_zero, List.getElem_cons_succ, List.setIfInBounds_toArray, List.set_cons_zero, List.set_cons_succ]
  refine wpAnyH_ready (rs := [12]) (by kernel_rfl) (by simp) ?_
  refine AllReadyH.cons rfl (fun K hK => ?_) AllReadyH.nil
  go_simp
  refine HRP.out.mono ?_
  rintro e W4 ⟨B, rfl, hr4, hb4, hB4⟩
  have hB24 : Below W2.heap.size W2 W4 := HA3.out.trans (hB4.mono HA3.out.size)
  have HR4 := hide hr4
  have HB24 := hide hB24
  have HBS : Hid (W2.heap.size ≤ B) := by have := HA3.out.size; show _ ≤ _; omega
  go_wp2_with fail
  refine hK.out _ _ ⟨cell_kept y0 hB24, cell_kept y1 hB24⟩ (fun hHeld => ?_)
  clear hK K hr4 hb4 hB4
  try simp only [Act.put, List.getElem_toArray, List.getElem_cons_zero, List.getElem_cons_succ, List.setIfInBounds_toArray, List.set_cons_zero, List.set_cons_succ]
  have hM4 := HM2.out.below hB24
  have k2 := hM4.cell 2
  have k2f := hM4.frozen 2
  simp only [List.getElem?_toArray, List.getElem?_cons_succ, List.getElem?_cons_zero] at k2
  have HM4 := hide hM4
  clear hM4 hB24
  refine wpAnyH_take (i := 13) (v := ?_) rfl (by kernel_rfl) (by kernel_rfl) (by kernel_rfl) (fun _ _ _ h => h) (Or.inl ⟨by rfl, ?_⟩) hHeld ?_
  rotate_left 1
  · intro Wx hSW; simp only [List.getElem_toArray, List.getElem_cons_zero, List.getElem_cons_succ]; have q0 := hSW.out.1; have q1 := hSW.out.2; go_simp; try with_reducible rfl
  simp only [Act.put, List.getElem_toArray, List.getElem_cons_zero, List.getElem_cons_succ, List.setIfInBounds_toArray, List.set_cons_zero, List.set_cons_succ]
  refine wpAnyH_take (i := 14) (v := ?_) rfl (by kernel_rfl) (by kernel_rfl) (by kernel_rfl) (fun _ _ _ h => h) (Or.inl ⟨by rfl, ?_⟩) hHeld ?_
  rotate_left 1
  · intro Wx hSW; simp only [List.getElem_toArray, List.getElem_cons_zero, List.getElem_cons_succ]; have q0 := hSW.out.1; have q1 := hSW.out.2; go_simp; try with_reducible rfl
  simp only [Act.put, List.getElem_toArray, List.getElem_cons_zero, List.getElem_cons_succ, List.setIfInBounds_toArray, List.set_cons_zero, List.set_cons_succ]
  refine wpAnyH_ready (rs := [15]) (by kernel_rfl) (by simp) ?_
  refine AllReadyH.cons rfl (fun K hK => ?_) AllReadyH.nil
  go_simp
  have hM5 := HM4.out.set 2 (.slice (some ⟨B, 0, none⟩) n n)
  have l0 := hM5.cell 0
  have l1 := hM5.cell 1
  refine hK.out _ _ ⟨l0, l1⟩ (fun hHeld => ?_)
  clear hK K
  try simp only [Act.put, List.getElem_toArray, List.getElem_cons_zero, List.getElem_cons_succ, List.setIfInBounds_toArray, List.set_cons_zero, List.set_cons_succ]
  refine wpAnyH_done (by kernel_rfl) ?_ _
  have HM5 := hide hM5
  have hFB : F < B := by have := HF2.out; have := HBS.out; omega
  have HB5 : Hid (Below M w (W4.setCell ⟨F, 2, none⟩ (.slice (some ⟨B, 0, none⟩) n n))) := ((HB2.out.trans (HB24.out.mono (by have h1 := HMP2.out.lt; omega))).setCell (p := ⟨F, 2, none⟩) (Nat.le_of_lt HMF.out) _)
  have HK5 : Hid (∀ (g : Nat) (t : TypeId) (cs : Array Value), t ≠ 58 → Blk w g t cs → Blk (W4.setCell ⟨F, 2, none⟩ (.slice (some ⟨B, 0, none⟩) n n)) g t cs) := fun g t cs ht q => set_typed HM4.out ((HK2.out g t cs ht q).below HB24.out) ht
  have HFL : Hid (FlI (W4.setCell ⟨F, 2, none⟩ (.slice (some ⟨B, 0, none⟩) n n)) F B n M 0 (flo0 p q) (.slice none 0 0) []) := by
    obtain ⟨cs, h1, h2, h3⟩ := HR4.out
    refine ⟨?_, ⟨cs, set_typed HM4.out h1 (by decide), fun c i hc hi => ?_⟩, ((HMP2.out.keep (HB24.out.block _ HMP2.out.lt)).set HM4.out), Nat.le_refl _, TgOw.nil _ _, fun p hp => (by cases hp), rfl, List.nodup_nil, fun p hp => (by cases hp), hFB, .inr HMF.out⟩
    · show Blk _ F _ #[.int .i64 (p : Int), .int .i64 (q : Int), .slice (some ⟨B, 0, none⟩) (p * q) n, _, _]
      rw [HN.out]
      exact HM5.out
    · have hc' : c < n := by rw [← HN.out]; exact hc
      rw [h3 (c * 4 + i) (by omega)]
      unfold g4
      match i, hi with
      | 0, _ => rw [if_pos (by omega)]; rfl
      | 1, _ => rw [if_neg (by omega), if_pos (by omega)]; rfl
      | 2, _ => rw [if_neg (by omega), if_neg (by omega), if_pos (by omega)]; rfl
      | 3, _ => rw [if_neg (by omega), if_neg (by omega), if_neg (by omega)]; rfl
  clear hM5 l0 l1 hHeld k2 k2f hFB
  go_wp2
  go_ret
  exact ⟨rfl, HB5.out, HB5.out.size, HK5.out, B, n, HFL.out⟩
end Go.Proofs.YtijdlbanfdhfnaaGreatDoor

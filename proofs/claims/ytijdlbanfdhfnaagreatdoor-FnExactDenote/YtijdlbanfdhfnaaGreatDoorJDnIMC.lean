/-
  What each kind of declaration does to a ground: impl's closures.
-/
import Derived.Test.YtijdlbanfdhfnaaGreatDoorJDnILY
import Derived.RegionTactic
namespace Go.Proofs.YtijdlbanfdhfnaaGreatDoor
open Go.RowKit

/-- A ground, in values. -/
theorem gr4_of (f : Flo) (c : Nat) : gr4 f c = .agg #[.bool (f.wall c), .int .i64 (f.cost c), .int .i64 (smW (f.ways c)), .bool (tkB f.tgs c)] := rfl
/-- Exits, of four truths. -/
def sm4 (a b c d : Bool) : Int := (if a then 1 else 0) + 2 * ((if b then 1 else 0) + 2 * ((if c then 1 else 0) + 2 * (if d then 1 else 0)))
theorem smW_sm4 (b : Nat → Bool) : smW b = sm4 (b 0) (b 1) (b 2) (b 3) := rfl
theorem sm4_or : ∀ a b c d : Bool, bits .or .i64 (sm4 a b c d) 1 = sm4 true b c d ∧ bits .or .i64 (sm4 a b c d) 2 = sm4 a true c d ∧ bits .or .i64 (sm4 a b c d) 4 = sm4 a b true d ∧ bits .or .i64 (sm4 a b c d) 8 = sm4 a b c true := by decide
theorem sm4_not : ∀ a b c d : Bool, bits .andNot .i64 (sm4 a b c d) 1 = sm4 false b c d ∧ bits .andNot .i64 (sm4 a b c d) 2 = sm4 a false c d ∧ bits .andNot .i64 (sm4 a b c d) 4 = sm4 a b false d ∧ bits .andNot .i64 (sm4 a b c d) 8 = sm4 a b c false := by decide
theorem results_row {fn : Func} {p : Tmp} {ty : TypeId} (h : fn.results = #[.cell p ty]) (P : Program) (tmps : Array Value) (w : World) (g : Nat) (t : TypeId) (cs : Array Value) (fr : Nat × Nat) {fs : Array Field}
    (hp : tmps.getD p undef = .pointer (some ⟨g, 0, none⟩)) (hg : w.heap[g]? = some (.cells cs t fr))
    (hu : P.underlying ty = some (.struct fs)) (hi : (P.info? ty).map (·.size) = some cs.size) :
    (results fn tmps).run P w = .ok (.agg cs) w := by
  have hp' : tmps[p]?.getD undef = .pointer (some ⟨g, 0, none⟩) := by simpa using hp
  simp [results, h, hp', asAddr, run_loadVar_row w g t ty cs fr _ hg hu rfl hi]
theorem blk_two (V : World) (o : Obj) (t : TypeId) (cs : Array Value) : Blk ((V.alloc o).alloc (.cells cs t)) (V.heap.size + 1) t cs := by
  have h := Blk.new (V.alloc o) t cs
  rwa [World.size_alloc] at h
theorem sm4_bd : ∀ a b c d : Bool, 0 ≤ sm4 a b c d ∧ sm4 a b c d ≤ 15 := by decide
set_option maxHeartbeats 2000000 in
set_option maxRecDepth 1000000 in
theorem wallC_any (d : Dc) (hk : d.kind = 8) (f : Flo) (c : Nat) (V : World) :
    Calls Tryz.prog 51 (#[gr4 f c] ++ #[]) V fun e V' => e = .returned (gr4 (lay1 d f c) c) ∧ Below V.heap.size V V' := by
  have HE : Hid (gr4 (lay1 d f c) c = .agg #[.bool true, .int .i64 (f.cost c), .int .i64 (smW (f.ways c)), .bool (tkB f.tgs c)]) := by
    show _ = _
    rw [gr4_of]
    unfold lay1
    rw [if_pos hk]
    simp
  rw [HE.out]
  clear hk
  rw [gr4_of]
  simp only [List.append_toArray, List.cons_append, List.nil_append]
  have hV : ∀ o o', Hid (Below V.heap.size V ((V.alloc o).alloc o')) := fun o o' => ((Below.refl _ V).alloc (Nat.le_refl _) _).alloc (by simp) _
  go_enter Tryz.func51, Tryz.ntmps51
  go_wp2
  exact bodyPost_ret (results_row rfl _ _ _ (V.heap.size + 1) 63 _ (0, 0) rfl (blk_two _ _ _ _) Tryz.underlying63 (by kernel_rfl)) rfl ⟨rfl, (hV _ _).out⟩
set_option maxHeartbeats 2000000 in
set_option maxRecDepth 1000000 in
theorem openC_any (d : Dc) (hk : d.kind = 9) (f : Flo) (c : Nat) (V : World) :
    Calls Tryz.prog 52 (#[gr4 f c] ++ #[]) V fun e V' => e = .returned (gr4 (lay1 d f c) c) ∧ Below V.heap.size V V' := by
  have HE : Hid (gr4 (lay1 d f c) c = .agg #[.bool false, .int .i64 (f.cost c), .int .i64 (smW (f.ways c)), .bool (tkB f.tgs c)]) := by
    show _ = _
    rw [gr4_of]
    unfold lay1
    rw [if_neg (by omega), if_pos hk]
    simp
  rw [HE.out]
  clear hk
  rw [gr4_of]
  simp only [List.append_toArray, List.cons_append, List.nil_append]
  have hV : ∀ o o', Hid (Below V.heap.size V ((V.alloc o).alloc o')) := fun o o' => ((Below.refl _ V).alloc (Nat.le_refl _) _).alloc (by simp) _
  go_enter Tryz.func52, Tryz.ntmps52
  go_wp2
  exact bodyPost_ret (results_row rfl _ _ _ (V.heap.size + 1) 63 _ (0, 0) rfl (blk_two _ _ _ _) Tryz.underlying63 (by kernel_rfl)) rfl ⟨rfl, (hV _ _).out⟩
set_option maxHeartbeats 2000000 in
set_option maxRecDepth 1000000 in
theorem laneC_any (d : Dc) (hk : d.kind = 10) (f : Flo) (c : Nat) (V : World) (DB : Nat) (h5 : V.cell? ⟨DB, 5, none⟩ = some (.int .i64 d.dir)) (hd : 0 ≤ d.dir ∧ d.dir ≤ 3) :
    Calls Tryz.prog 53 (#[gr4 f c] ++ #[.pointer (some ⟨DB, 0, none⟩)]) V fun e V' => e = .returned (gr4 (lay1 d f c) c) ∧ Below V.heap.size V V' := by
  have h4 : d.dir = 0 ∨ d.dir = 1 ∨ d.dir = 2 ∨ d.dir = 3 := by omega
  have hbd := sm4_bd (f.ways c 0) (f.ways c 1) (f.ways c 2) (f.ways c 3)
  rcases h4 with hd4 | hd4 | hd4 | hd4
  · have HE : Hid (gr4 (lay1 d f c) c = .agg #[.bool (f.wall c), .int .i64 (f.cost c), .int .i64 (1), .bool (tkB f.tgs c)]) := by
      show _ = _
      rw [gr4_of, smW_sm4]
      unfold lay1
      rw [if_neg (by omega), if_neg (by omega), if_neg (by omega)]
      simp [hd4, hk, sm4]
    rw [HE.out]
    clear hk
    rw [gr4_of]
    simp only [List.append_toArray, List.cons_append, List.nil_append]
    have hV : ∀ o o', Hid (Below V.heap.size V ((V.alloc o).alloc o')) := fun o o' => ((Below.refl _ V).alloc (Nat.le_refl _) _).alloc (by simp) _
    have hDB : DB < V.heap.size := World.block_lt_of_cell? _ _ h5
    rw [hd4] at h5
    go_enter Tryz.func53, Tryz.ntmps53
    go_wp2
    exact bodyPost_ret (results_row rfl _ _ _ (V.heap.size + 1) 63 _ (0, 0) rfl (blk_two _ _ _ _) Tryz.underlying63 (by kernel_rfl)) rfl ⟨rfl, (hV _ _).out⟩
  · have HE : Hid (gr4 (lay1 d f c) c = .agg #[.bool (f.wall c), .int .i64 (f.cost c), .int .i64 (2), .bool (tkB f.tgs c)]) := by
      show _ = _
      rw [gr4_of, smW_sm4]
      unfold lay1
      rw [if_neg (by omega), if_neg (by omega), if_neg (by omega)]
      simp [hd4, hk, sm4]
    rw [HE.out]
    clear hk
    rw [gr4_of]
    simp only [List.append_toArray, List.cons_append, List.nil_append]
    have hV : ∀ o o', Hid (Below V.heap.size V ((V.alloc o).alloc o')) := fun o o' => ((Below.refl _ V).alloc (Nat.le_refl _) _).alloc (by simp) _
    have hDB : DB < V.heap.size := World.block_lt_of_cell? _ _ h5
    rw [hd4] at h5
    go_enter Tryz.func53, Tryz.ntmps53
    go_wp2
    exact bodyPost_ret (results_row rfl _ _ _ (V.heap.size + 1) 63 _ (0, 0) rfl (blk_two _ _ _ _) Tryz.underlying63 (by kernel_rfl)) rfl ⟨rfl, (hV _ _).out⟩
  · have HE : Hid (gr4 (lay1 d f c) c = .agg #[.bool (f.wall c), .int .i64 (f.cost c), .int .i64 (4), .bool (tkB f.tgs c)]) := by
      show _ = _
      rw [gr4_of, smW_sm4]
      unfold lay1
      rw [if_neg (by omega), if_neg (by omega), if_neg (by omega)]
      simp [hd4, hk, sm4]
    rw [HE.out]
    clear hk
    rw [gr4_of]
    simp only [List.append_toArray, List.cons_append, List.nil_append]
    have hV : ∀ o o', Hid (Below V.heap.size V ((V.alloc o).alloc o')) := fun o o' => ((Below.refl _ V).alloc (Nat.le_refl _) _).alloc (by simp) _
    have hDB : DB < V.heap.size := World.block_lt_of_cell? _ _ h5
    rw [hd4] at h5
    go_enter Tryz.func53, Tryz.ntmps53
    go_wp2
    exact bodyPost_ret (results_row rfl _ _ _ (V.heap.size + 1) 63 _ (0, 0) rfl (blk_two _ _ _ _) Tryz.underlying63 (by kernel_rfl)) rfl ⟨rfl, (hV _ _).out⟩
  · have HE : Hid (gr4 (lay1 d f c) c = .agg #[.bool (f.wall c), .int .i64 (f.cost c), .int .i64 (8), .bool (tkB f.tgs c)]) := by
      show _ = _
      rw [gr4_of, smW_sm4]
      unfold lay1
      rw [if_neg (by omega), if_neg (by omega), if_neg (by omega)]
      simp [hd4, hk, sm4]
    rw [HE.out]
    clear hk
    rw [gr4_of]
    simp only [List.append_toArray, List.cons_append, List.nil_append]
    have hV : ∀ o o', Hid (Below V.heap.size V ((V.alloc o).alloc o')) := fun o o' => ((Below.refl _ V).alloc (Nat.le_refl _) _).alloc (by simp) _
    have hDB : DB < V.heap.size := World.block_lt_of_cell? _ _ h5
    rw [hd4] at h5
    go_enter Tryz.func53, Tryz.ntmps53
    go_wp2
    exact bodyPost_ret (results_row rfl _ _ _ (V.heap.size + 1) 63 _ (0, 0) rfl (blk_two _ _ _ _) Tryz.underlying63 (by kernel_rfl)) rfl ⟨rfl, (hV _ _).out⟩
set_option maxHeartbeats 2000000 in
set_option maxRecDepth 1000000 in
theorem gateC_any (d : Dc) (hk : d.kind = 11) (f : Flo) (c : Nat) (V : World) (DB : Nat) (h5 : V.cell? ⟨DB, 5, none⟩ = some (.int .i64 d.dir)) (hd : 0 ≤ d.dir ∧ d.dir ≤ 3) :
    Calls Tryz.prog 54 (#[gr4 f c] ++ #[.pointer (some ⟨DB, 0, none⟩)]) V fun e V' => e = .returned (gr4 (lay1 d f c) c) ∧ Below V.heap.size V V' := by
  have h4 : d.dir = 0 ∨ d.dir = 1 ∨ d.dir = 2 ∨ d.dir = 3 := by omega
  have hbd := sm4_bd (f.ways c 0) (f.ways c 1) (f.ways c 2) (f.ways c 3)
  rcases h4 with hd4 | hd4 | hd4 | hd4
  · have HE : Hid (gr4 (lay1 d f c) c = .agg #[.bool (f.wall c), .int .i64 (f.cost c), .int .i64 (sm4 true (f.ways c 1) (f.ways c 2) (f.ways c 3)), .bool (tkB f.tgs c)]) := by
      show _ = _
      rw [gr4_of, smW_sm4]
      unfold lay1
      rw [if_neg (by omega), if_neg (by omega), if_neg (by omega)]
      simp [hd4, hk, sm4]
    rw [HE.out]
    clear hk
    rw [gr4_of]
    simp only [List.append_toArray, List.cons_append, List.nil_append]
    have hV : ∀ o o', Hid (Below V.heap.size V ((V.alloc o).alloc o')) := fun o o' => ((Below.refl _ V).alloc (Nat.le_refl _) _).alloc (by simp) _
    have hDB : DB < V.heap.size := World.block_lt_of_cell? _ _ h5
    rw [hd4] at h5
    rw [smW_sm4]
    have hop := (sm4_or (f.ways c 0) (f.ways c 1) (f.ways c 2) (f.ways c 3)).1
    obtain ⟨s, hs⟩ : ∃ s, sm4 (f.ways c 0) (f.ways c 1) (f.ways c 2) (f.ways c 3) = s := ⟨_, rfl⟩
    obtain ⟨s', hs'⟩ : ∃ s, sm4 true (f.ways c 1) (f.ways c 2) (f.ways c 3) = s := ⟨_, rfl⟩
    rw [hs] at hbd hop ⊢
    rw [hs'] at hop ⊢
    clear hs hs'
    go_enter Tryz.func54, Tryz.ntmps54
    go_wp2
    go_region
    go_wp2
    exact bodyPost_ret (results_row rfl _ _ _ (V.heap.size + 1) 63 _ (0, 0) rfl (blk_two _ _ _ _) Tryz.underlying63 (by kernel_rfl)) rfl ⟨rfl, (hV _ _).out.drew⟩
  · have HE : Hid (gr4 (lay1 d f c) c = .agg #[.bool (f.wall c), .int .i64 (f.cost c), .int .i64 (sm4 (f.ways c 0) true (f.ways c 2) (f.ways c 3)), .bool (tkB f.tgs c)]) := by
      show _ = _
      rw [gr4_of, smW_sm4]
      unfold lay1
      rw [if_neg (by omega), if_neg (by omega), if_neg (by omega)]
      simp [hd4, hk, sm4]
    rw [HE.out]
    clear hk
    rw [gr4_of]
    simp only [List.append_toArray, List.cons_append, List.nil_append]
    have hV : ∀ o o', Hid (Below V.heap.size V ((V.alloc o).alloc o')) := fun o o' => ((Below.refl _ V).alloc (Nat.le_refl _) _).alloc (by simp) _
    have hDB : DB < V.heap.size := World.block_lt_of_cell? _ _ h5
    rw [hd4] at h5
    rw [smW_sm4]
    have hop := (sm4_or (f.ways c 0) (f.ways c 1) (f.ways c 2) (f.ways c 3)).2.1
    obtain ⟨s, hs⟩ : ∃ s, sm4 (f.ways c 0) (f.ways c 1) (f.ways c 2) (f.ways c 3) = s := ⟨_, rfl⟩
    obtain ⟨s', hs'⟩ : ∃ s, sm4 (f.ways c 0) true (f.ways c 2) (f.ways c 3) = s := ⟨_, rfl⟩
    rw [hs] at hbd hop ⊢
    rw [hs'] at hop ⊢
    clear hs hs'
    go_enter Tryz.func54, Tryz.ntmps54
    go_wp2
    go_region
    go_wp2
    exact bodyPost_ret (results_row rfl _ _ _ (V.heap.size + 1) 63 _ (0, 0) rfl (blk_two _ _ _ _) Tryz.underlying63 (by kernel_rfl)) rfl ⟨rfl, (hV _ _).out.drew⟩
  · have HE : Hid (gr4 (lay1 d f c) c = .agg #[.bool (f.wall c), .int .i64 (f.cost c), .int .i64 (sm4 (f.ways c 0) (f.ways c 1) true (f.ways c 3)), .bool (tkB f.tgs c)]) := by
      show _ = _
      rw [gr4_of, smW_sm4]
      unfold lay1
      rw [if_neg (by omega), if_neg (by omega), if_neg (by omega)]
      simp [hd4, hk, sm4]
    rw [HE.out]
    clear hk
    rw [gr4_of]
    simp only [List.append_toArray, List.cons_append, List.nil_append]
    have hV : ∀ o o', Hid (Below V.heap.size V ((V.alloc o).alloc o')) := fun o o' => ((Below.refl _ V).alloc (Nat.le_refl _) _).alloc (by simp) _
    have hDB : DB < V.heap.size := World.block_lt_of_cell? _ _ h5
    rw [hd4] at h5
    rw [smW_sm4]
    have hop := (sm4_or (f.ways c 0) (f.ways c 1) (f.ways c 2) (f.ways c 3)).2.2.1
    obtain ⟨s, hs⟩ : ∃ s, sm4 (f.ways c 0) (f.ways c 1) (f.ways c 2) (f.ways c 3) = s := ⟨_, rfl⟩
    obtain ⟨s', hs'⟩ : ∃ s, sm4 (f.ways c 0) (f.ways c 1) true (f.ways c 3) = s := ⟨_, rfl⟩
    rw [hs] at hbd hop ⊢
    rw [hs'] at hop ⊢
    clear hs hs'
    go_enter Tryz.func54, Tryz.ntmps54
    go_wp2
    go_region
    go_wp2
    exact bodyPost_ret (results_row rfl _ _ _ (V.heap.size + 1) 63 _ (0, 0) rfl (blk_two _ _ _ _) Tryz.underlying63 (by kernel_rfl)) rfl ⟨rfl, (hV _ _).out.drew⟩
  · have HE : Hid (gr4 (lay1 d f c) c = .agg #[.bool (f.wall c), .int .i64 (f.cost c), .int .i64 (sm4 (f.ways c 0) (f.ways c 1) (f.ways c 2) true), .bool (tkB f.tgs c)]) := by
      show _ = _
      rw [gr4_of, smW_sm4]
      unfold lay1
      rw [if_neg (by omega), if_neg (by omega), if_neg (by omega)]
      simp [hd4, hk, sm4]
    rw [HE.out]
    clear hk
    rw [gr4_of]
    simp only [List.append_toArray, List.cons_append, List.nil_append]
    have hV : ∀ o o', Hid (Below V.heap.size V ((V.alloc o).alloc o')) := fun o o' => ((Below.refl _ V).alloc (Nat.le_refl _) _).alloc (by simp) _
    have hDB : DB < V.heap.size := World.block_lt_of_cell? _ _ h5
    rw [hd4] at h5
    rw [smW_sm4]
    have hop := (sm4_or (f.ways c 0) (f.ways c 1) (f.ways c 2) (f.ways c 3)).2.2.2
    obtain ⟨s, hs⟩ : ∃ s, sm4 (f.ways c 0) (f.ways c 1) (f.ways c 2) (f.ways c 3) = s := ⟨_, rfl⟩
    obtain ⟨s', hs'⟩ : ∃ s, sm4 (f.ways c 0) (f.ways c 1) (f.ways c 2) true = s := ⟨_, rfl⟩
    rw [hs] at hbd hop ⊢
    rw [hs'] at hop ⊢
    clear hs hs'
    go_enter Tryz.func54, Tryz.ntmps54
    go_wp2
    go_region
    go_wp2
    exact bodyPost_ret (results_row rfl _ _ _ (V.heap.size + 1) 63 _ (0, 0) rfl (blk_two _ _ _ _) Tryz.underlying63 (by kernel_rfl)) rfl ⟨rfl, (hV _ _).out.drew⟩
set_option maxHeartbeats 2000000 in
set_option maxRecDepth 1000000 in
theorem barC_any (d : Dc) (hk : d.kind = 12) (f : Flo) (c : Nat) (V : World) (DB : Nat) (h5 : V.cell? ⟨DB, 5, none⟩ = some (.int .i64 d.dir)) (hd : 0 ≤ d.dir ∧ d.dir ≤ 3) :
    Calls Tryz.prog 55 (#[gr4 f c] ++ #[.pointer (some ⟨DB, 0, none⟩)]) V fun e V' => e = .returned (gr4 (lay1 d f c) c) ∧ Below V.heap.size V V' := by
  have h4 : d.dir = 0 ∨ d.dir = 1 ∨ d.dir = 2 ∨ d.dir = 3 := by omega
  have hbd := sm4_bd (f.ways c 0) (f.ways c 1) (f.ways c 2) (f.ways c 3)
  rcases h4 with hd4 | hd4 | hd4 | hd4
  · have HE : Hid (gr4 (lay1 d f c) c = .agg #[.bool (f.wall c), .int .i64 (f.cost c), .int .i64 (sm4 false (f.ways c 1) (f.ways c 2) (f.ways c 3)), .bool (tkB f.tgs c)]) := by
      show _ = _
      rw [gr4_of, smW_sm4]
      unfold lay1
      rw [if_neg (by omega), if_neg (by omega), if_neg (by omega)]
      simp [hd4, hk, sm4]
    rw [HE.out]
    clear hk
    rw [gr4_of]
    simp only [List.append_toArray, List.cons_append, List.nil_append]
    have hV : ∀ o o', Hid (Below V.heap.size V ((V.alloc o).alloc o')) := fun o o' => ((Below.refl _ V).alloc (Nat.le_refl _) _).alloc (by simp) _
    have hDB : DB < V.heap.size := World.block_lt_of_cell? _ _ h5
    rw [hd4] at h5
    rw [smW_sm4]
    have hop := (sm4_not (f.ways c 0) (f.ways c 1) (f.ways c 2) (f.ways c 3)).1
    obtain ⟨s, hs⟩ : ∃ s, sm4 (f.ways c 0) (f.ways c 1) (f.ways c 2) (f.ways c 3) = s := ⟨_, rfl⟩
    obtain ⟨s', hs'⟩ : ∃ s, sm4 false (f.ways c 1) (f.ways c 2) (f.ways c 3) = s := ⟨_, rfl⟩
    rw [hs] at hbd hop ⊢
    rw [hs'] at hop ⊢
    clear hs hs'
    go_enter Tryz.func55, Tryz.ntmps55
    go_wp2
    go_region
    go_wp2
    exact bodyPost_ret (results_row rfl _ _ _ (V.heap.size + 1) 63 _ (0, 0) rfl (blk_two _ _ _ _) Tryz.underlying63 (by kernel_rfl)) rfl ⟨rfl, (hV _ _).out.drew⟩
  · have HE : Hid (gr4 (lay1 d f c) c = .agg #[.bool (f.wall c), .int .i64 (f.cost c), .int .i64 (sm4 (f.ways c 0) false (f.ways c 2) (f.ways c 3)), .bool (tkB f.tgs c)]) := by
      show _ = _
      rw [gr4_of, smW_sm4]
      unfold lay1
      rw [if_neg (by omega), if_neg (by omega), if_neg (by omega)]
      simp [hd4, hk, sm4]
    rw [HE.out]
    clear hk
    rw [gr4_of]
    simp only [List.append_toArray, List.cons_append, List.nil_append]
    have hV : ∀ o o', Hid (Below V.heap.size V ((V.alloc o).alloc o')) := fun o o' => ((Below.refl _ V).alloc (Nat.le_refl _) _).alloc (by simp) _
    have hDB : DB < V.heap.size := World.block_lt_of_cell? _ _ h5
    rw [hd4] at h5
    rw [smW_sm4]
    have hop := (sm4_not (f.ways c 0) (f.ways c 1) (f.ways c 2) (f.ways c 3)).2.1
    obtain ⟨s, hs⟩ : ∃ s, sm4 (f.ways c 0) (f.ways c 1) (f.ways c 2) (f.ways c 3) = s := ⟨_, rfl⟩
    obtain ⟨s', hs'⟩ : ∃ s, sm4 (f.ways c 0) false (f.ways c 2) (f.ways c 3) = s := ⟨_, rfl⟩
    rw [hs] at hbd hop ⊢
    rw [hs'] at hop ⊢
    clear hs hs'
    go_enter Tryz.func55, Tryz.ntmps55
    go_wp2
    go_region
    go_wp2
    exact bodyPost_ret (results_row rfl _ _ _ (V.heap.size + 1) 63 _ (0, 0) rfl (blk_two _ _ _ _) Tryz.underlying63 (by kernel_rfl)) rfl ⟨rfl, (hV _ _).out.drew⟩
  · have HE : Hid (gr4 (lay1 d f c) c = .agg #[.bool (f.wall c), .int .i64 (f.cost c), .int .i64 (sm4 (f.ways c 0) (f.ways c 1) false (f.ways c 3)), .bool (tkB f.tgs c)]) := by
      show _ = _
      rw [gr4_of, smW_sm4]
      unfold lay1
      rw [if_neg (by omega), if_neg (by omega), if_neg (by omega)]
      simp [hd4, hk, sm4]
    rw [HE.out]
    clear hk
    rw [gr4_of]
    simp only [List.append_toArray, List.cons_append, List.nil_append]
    have hV : ∀ o o', Hid (Below V.heap.size V ((V.alloc o).alloc o')) := fun o o' => ((Below.refl _ V).alloc (Nat.le_refl _) _).alloc (by simp) _
    have hDB : DB < V.heap.size := World.block_lt_of_cell? _ _ h5
    rw [hd4] at h5
    rw [smW_sm4]
    have hop := (sm4_not (f.ways c 0) (f.ways c 1) (f.ways c 2) (f.ways c 3)).2.2.1
    obtain ⟨s, hs⟩ : ∃ s, sm4 (f.ways c 0) (f.ways c 1) (f.ways c 2) (f.ways c 3) = s := ⟨_, rfl⟩
    obtain ⟨s', hs'⟩ : ∃ s, sm4 (f.ways c 0) (f.ways c 1) false (f.ways c 3) = s := ⟨_, rfl⟩
    rw [hs] at hbd hop ⊢
    rw [hs'] at hop ⊢
    clear hs hs'
    go_enter Tryz.func55, Tryz.ntmps55
    go_wp2
    go_region
    go_wp2
    exact bodyPost_ret (results_row rfl _ _ _ (V.heap.size + 1) 63 _ (0, 0) rfl (blk_two _ _ _ _) Tryz.underlying63 (by kernel_rfl)) rfl ⟨rfl, (hV _ _).out.drew⟩
  · have HE : Hid (gr4 (lay1 d f c) c = .agg #[.bool (f.wall c), .int .i64 (f.cost c), .int .i64 (sm4 (f.ways c 0) (f.ways c 1) (f.ways c 2) false), .bool (tkB f.tgs c)]) := by
      show _ = _
      rw [gr4_of, smW_sm4]
      unfold lay1
      rw [if_neg (by omega), if_neg (by omega), if_neg (by omega)]
      simp [hd4, hk, sm4]
    rw [HE.out]
    clear hk
    rw [gr4_of]
    simp only [List.append_toArray, List.cons_append, List.nil_append]
    have hV : ∀ o o', Hid (Below V.heap.size V ((V.alloc o).alloc o')) := fun o o' => ((Below.refl _ V).alloc (Nat.le_refl _) _).alloc (by simp) _
    have hDB : DB < V.heap.size := World.block_lt_of_cell? _ _ h5
    rw [hd4] at h5
    rw [smW_sm4]
    have hop := (sm4_not (f.ways c 0) (f.ways c 1) (f.ways c 2) (f.ways c 3)).2.2.2
    obtain ⟨s, hs⟩ : ∃ s, sm4 (f.ways c 0) (f.ways c 1) (f.ways c 2) (f.ways c 3) = s := ⟨_, rfl⟩
    obtain ⟨s', hs'⟩ : ∃ s, sm4 (f.ways c 0) (f.ways c 1) (f.ways c 2) false = s := ⟨_, rfl⟩
    rw [hs] at hbd hop ⊢
    rw [hs'] at hop ⊢
    clear hs hs'
    go_enter Tryz.func55, Tryz.ntmps55
    go_wp2
    go_region
    go_wp2
    exact bodyPost_ret (results_row rfl _ _ _ (V.heap.size + 1) 63 _ (0, 0) rfl (blk_two _ _ _ _) Tryz.underlying63 (by kernel_rfl)) rfl ⟨rfl, (hV _ _).out.drew⟩
set_option maxHeartbeats 2000000 in
set_option maxRecDepth 1000000 in
theorem zoneC_any (d : Dc) (hk : d.kind = 13) (f : Flo) (c : Nat) (V : World) (DB : Nat) (h6 : V.cell? ⟨DB, 6, none⟩ = some (.int .i64 d.cost)) :
    Calls Tryz.prog 56 (#[gr4 f c] ++ #[.pointer (some ⟨DB, 0, none⟩)]) V fun e V' => e = .returned (gr4 (lay1 d f c) c) ∧ Below V.heap.size V V' := by
  have HE : Hid (gr4 (lay1 d f c) c = .agg #[.bool (f.wall c), .int .i64 d.cost, .int .i64 (smW (f.ways c)), .bool (tkB f.tgs c)]) := by
    show _ = _
    rw [gr4_of]
    unfold lay1
    rw [if_neg (by omega), if_neg (by omega), if_pos hk]
    simp
  rw [HE.out]
  clear hk
  rw [gr4_of]
  simp only [List.append_toArray, List.cons_append, List.nil_append]
  have hV : ∀ o o', Hid (Below V.heap.size V ((V.alloc o).alloc o')) := fun o o' => ((Below.refl _ V).alloc (Nat.le_refl _) _).alloc (by simp) _
  go_enter Tryz.func56, Tryz.ntmps56
  have hDB : DB < V.heap.size := World.block_lt_of_cell? _ _ h6
  go_wp2
  exact bodyPost_ret (results_row rfl _ _ _ (V.heap.size + 1) 63 _ (0, 0) rfl (blk_two _ _ _ _) Tryz.underlying63 (by kernel_rfl)) rfl ⟨rfl, (hV _ _).out⟩
end Go.Proofs.YtijdlbanfdhfnaaGreatDoor

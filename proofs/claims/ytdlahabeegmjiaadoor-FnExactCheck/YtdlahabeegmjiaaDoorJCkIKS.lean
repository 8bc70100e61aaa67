/-
  The walks of impl's scopes.
-/
import Derived.Test.YtdlahabeegmjiaaDoorJCkIKM
import Derived.Test.YtdlahabeegmjiaaDoorJCkCKY
namespace Go.Proofs.YtdlahabeegmjiaaDoor
open Go.RowKit

theorem ScA.start (w : World) : ScA ((w.alloc (.map #[] 0)).alloc (.cells #[.slice none 0 0, .map (some w.heap.size)] 78)) (w.heap.size + 1) w.heap.size (.slice none 0 0) [] 0 := by
  have e : (w.alloc (.map #[] 0)).heap.size = w.heap.size + 1 := World.size_alloc _ _
  refine ⟨?_, World.ownsRow_nil _ _ _ _, ((MapS.made w).below ((Below.refl _ _).alloc (Nat.le_refl _) _)).ext (fun _ => rfl), by omega, Nat.le_refl _⟩
  rw [← e]
  exact Blk.new _ _ _

set_option maxHeartbeats 1000000 in
set_option maxRecDepth 1000000 in
theorem newScope_any (w : World) : Calls Tryd.prog 17 #[] w fun r w' => r = .returned (.pointer (some ⟨w.heap.size + 1, 0, none⟩)) ∧ ScA w' (w.heap.size + 1) w.heap.size (.slice none 0 0) [] 0 ∧ Below w.heap.size w w' := by
  have hmm := @run_makeMap Tryd.prog
  have HS := hide (ScA.start w)
  have HB : Hid (Below w.heap.size w ((w.alloc (.map #[] 0)).alloc (.cells #[.slice none 0 0, .map (some w.heap.size)] 78))) := ((Below.refl _ _).alloc (Nat.le_refl _) _).alloc (by rw [World.size_alloc]; omega) _
  go_enter Tryd.func17, Tryd.ntmps17
  go_wp2
  go_ret
  exact ⟨rfl, HS.out, HB.out⟩

set_option maxHeartbeats 1000000 in
set_option maxRecDepth 1000000 in
theorem find_any {W : World} {S M n : Nat} {bv u : Value} {vs : List (ByteArray × Int)} {nm : ByteArray} (h : ScA W S M bv vs n) (hu : BS W u nm) (hn : nm.size ≤ 1000) (hl : n ≤ 1000000) :
    Calls Tryd.prog 81 #[.pointer (some ⟨S, 0, none⟩), u] W fun r w' => r = .returned (.tuple #[.int .i64 ((vrT vs nm).getD 0), .bool (vrT vs nm).isSome]) ∧ ∃ m, w' = W.drewN m := by
  obtain ⟨h1, h2, h3⟩ := ltN_vrT nm vs
  have g0 := h.blk.cell 0
  have g1 := h.blk.cell 1
  simp only [List.getElem?_toArray, List.getElem?_cons_succ, List.getElem?_cons_zero] at g0 g1
  have hlk := fun j => (h.map.below (below_drewN (Below.refl _ _) j)).look hn
  obtain ⟨a1, b1, o1, c1, rfl, hua, huc⟩ := hu
  have hc1 : ∀ j, (convert 31 9 (.slice a1 nm.size c1)).run Tryd.prog (W.drewN j) = .ok (.string nm) (W.drewN j) := fun j => toStr_bs (BS.below ⟨a1, b1, o1, c1, rfl, hua, huc⟩ (below_drewN (Below.refl _ _) j))
  have hle := h.le
  obtain ⟨m, hm⟩ : ∃ m, ltN vs nm = m := ⟨_, rfl⟩
  rw [hm] at hlk h1 h2 h3
  cases m with
  | zero =>
    have e := h2 rfl
    rw [e]
    clear h1 h2 h3 hm e hua huc h
    go_enter Tryd.func81, Tryd.ntmps81
    go_wp2_with fail
    go_quiet (fail)
    go_wp2
    go_ret2
    exact ⟨rfl, _, rfl⟩
  | succ j =>
    obtain ⟨v, hv, _, e⟩ := h3 j rfl
    rw [e]
    obtain ⟨ba, bc, rfl⟩ := own_sl h.row
    obtain ⟨a', g', c', e1, e2, e3⟩ := RwG.of_own (G := fun _ => True) h.row (fun _ _ => trivial)
    injection e1 with e1 _ e4
    subst e1
    have hvl : 0 < vs.length := by omega
    obtain ⟨rfl, _⟩ := e2 hvl
    have hcell : W.cell? ⟨g', j * 3 + 1, none⟩ = some (.int .i64 v.2) := e3 hvl _ _ (by rw [bcs_at vs [] j v hv 1 (by omega)]; rfl)
    have hji : ((j : Int) + 1 - 1) = (j : Int) := by omega
    have hjl : (j : Int) < (vs.length : Int) := by omega
    obtain ⟨t, ht⟩ : ∃ t, v.2 = t := ⟨_, rfl⟩
    rw [ht] at hcell
    simp only [ht]
    obtain ⟨l, hl'⟩ : ∃ l, vs.length = l := ⟨_, rfl⟩
    rw [hl'] at g0 hjl hvl hle h1
    clear h2 h3 hm e hua huc h e3 hv ht hl'
    go_enter Tryd.func81, Tryd.ntmps81
    go_wp2_with fail
    go_quiet (fail)
    go_wp2
    go_ret2
    exact ⟨rfl, _, rfl⟩
-- generated from here on
theorem Tryd.infoGBn : (Tryd.prog.info? 99).map (fun i => (i.zero, i.size, i.bytes)) = some (some (.agg #[.string .empty, .int .i64 0, .int .i64 0]), 3, 32) := by kernel_rfl
theorem step_appGBn {ops : Array Oper} {o : Oper} {a : Act} {w : World} {K : Act → World → Prop} {Q : Exit → Act → World → Prop} {E : Prop} (hgd : o.guard = none) (s x : Operand)
    (ho : o.op = .call { callee := .builtin .append, args := #[s, x], argTypes := #[76, 76] }) (B : Nat) (v : Value) (n : Nat) (xs : List Value) (hs : a.eval s = v) (hown : w.ownsRow B 99 3 v n xs)
    (g f c m : Nat) (ys : List Value) (hx : a.eval x = .slice (some ⟨g, f, none⟩) m c) (hy : ys.length = m * 3) (hnews : ∀ j u, ys[j]? = some u → w.cell? ⟨g, f + j, none⟩ = some u) (hone : ∀ u ∈ ys, u.oneCell' = true) (hlen : n + m ≤ 10000000) (hbase : B ≤ w.heap.size)
    (h : ∀ v' w', w'.ownsRow B 99 3 v' (n + m) (xs ++ ys) → w.grownBy w' v.ownBlock → (v'.ownBlock = v.ownBlock ∨ v'.ownBlock = some w.heap.size) → K (a.put o.dst v') w') :
    if Region.wanted o (yielded ops a.tmps) = true then Oper.wp Tryd.prog o a w K Q else E := by
  have hw : Region.wanted o (yielded ops a.tmps) = true := by simp [Region.wanted, hgd]
  rw [if_pos hw]
  obtain ⟨i0, hi, hz0, hz1, hz2⟩ := info_partsG Tryd.infoGBn
  obtain ⟨v', w', hr, h2, h3, h4, h5⟩ := run_append_own_at (P := Tryd.prog) w B 76 o.type 99 i0 _ 3 32 Tryd.underlying76 hi hz0 hz1 hz2 rfl (by decide) v n xs hown ⟨g, f, none⟩ m c ys hy (fun j u hj => by
    have e : (⟨g, f, none⟩ : Addr).add j = ⟨g, f + j, none⟩ := by unfold Addr.add; split <;> simp_all
    rw [e]; exact hnews j u hj) hone (by unfold maxLen; omega) (by omega) hbase
  unfold Oper.wp execOp
  simp only [ho, resolve, invoke, builtin, Sem.run_bind, Sem.run_pure, Result.andThen_ok, List.map_toArray, List.map_cons, List.map_nil, hs, hx, hr]
  exact h v' w' h2 h3 h5

set_option maxHeartbeats 4000000 in
set_option maxRecDepth 1000000 in
theorem bind_any {W : World} {S M n : Nat} {bv u : Value} {vs : List (ByteArray × Int)} {nm : ByteArray} {t : Int} (h : ScA W S M bv vs n) (hu : BS W u nm) (hn : nm.size ≤ 1000) (hl : n ≤ 100000) :
    Calls Tryd.prog 53 #[.pointer (some ⟨S, 0, none⟩), u, .int .i64 t] W fun r w' => r = .returned (.tuple #[]) ∧ ScQ S M bv W (vs ++ [(nm, t)]) (n + 1) w' := by
  obtain ⟨a1, b1, o1, c1, rfl, hua, huc⟩ := hu
  have hc1 : (convert 31 9 (.slice a1 nm.size c1)).run Tryd.prog W = .ok (.string nm) W := toStr_bs ⟨a1, b1, o1, c1, rfl, hua, huc⟩
  have HA := hide h
  obtain ⟨va, vc, rfl⟩ := own_sl h.row
  have g0 := h.blk.cell 0
  have g1 := h.blk.cell 1
  have f0 := h.blk.frozen 0
  simp only [List.getElem?_toArray, List.getElem?_cons_succ, List.getElem?_cons_zero] at g0 g1
  obtain ⟨l0, hlt0⟩ : ∃ l, ltN vs nm = l := ⟨_, rfl⟩
  have HLT := hide hlt0
  have g0a := cell_kept g0 ((Below.refl W.heap.size W).alloc (Nat.le_refl _) (.cells #[.string nm, .int .i64 t, .int .i64 (l0 : Nat)] 99))
  clear h hua huc
  go_enter Tryd.func53, Tryd.ntmps53
  go_wp2_with fail
  refine wp_region_held_drew (S := fun W => Hid (MapS W M n (ltN vs) ∧ W.cell? ⟨S, 1, none⟩ = some (.map (some M)))) (by kernel_rfl) (⟨HA.out.map.below (below_drewN (Below.refl _ _) 1), g1⟩) (fun hHeld => ?_)
  refine wpAnyH_take (i := 0) (v := ?_) rfl (by kernel_rfl) (by kernel_rfl) (by kernel_rfl) (fun _ _ _ h => h) (Or.inl ⟨by rfl, ?_⟩) hHeld ?_
  rotate_left 1
  · intro Wx hSW; simp only [List.getElem_toArray, List.getElem_cons_zero]; go_simp; try with_reducible rfl
  try simp only [Act.put, List.getElem_toArray, List.getElem_cons_zero, List.setIfInBounds_toArray, List.set_cons_zero, List.set_cons_succ]
  refine wpAnyH_take (i := 1) (v := ?_) rfl (by kernel_rfl) (by kernel_rfl) (by kernel_rfl) (fun _ _ _ h => h) (Or.inl ⟨by rfl, ?_⟩) hHeld ?_
  rotate_left 1
  · intro Wx hSW; simp only [List.getElem_toArray, List.getElem_cons_zero, List.getElem_cons_succ]; go_simp; try with_reducible rfl
  try simp only [Act.put, List.getElem_toArray, List.getElem_cons_zero, List.getElem_cons_succ, List.setIfInBounds_toArray, List.set_cons_zero, List.set_cons_succ]
  refine wpAnyH_take (i := 2) (v := ?_) rfl (by kernel_rfl) (by kernel_rfl) (by kernel_rfl) (fun _ _ _ h => h) (Or.inl ⟨by rfl, ?_⟩) hHeld ?_
  rotate_left 1
  · intro Wx hSW; simp only [List.getElem_toArray, List.getElem_cons_zero, List.getElem_cons_succ]; go_simp; try with_reducible rfl
  try simp only [Act.put, List.getElem_toArray, List.getElem_cons_zero, List.getElem_cons_succ, List.setIfInBounds_toArray, List.set_cons_zero, List.set_cons_succ]
  refine wpAnyH_take (i := 3) (v := ?_) rfl (by kernel_rfl) (by kernel_rfl) (by kernel_rfl) (fun _ _ _ h => h) (Or.inl ⟨by rfl, ?_⟩) hHeld ?_
  rotate_left 1
  · intro Wx hSW; simp only [List.getElem_toArray, List.getElem_cons_zero, List.getElem_cons_succ]; go_simp; try with_reducible rfl
  try simp only [Act.put, List.getElem_toArray, List.getElem_cons_zero, List.getElem_cons_succ, List.setIfInBounds_toArray, List.set_cons_zero, List.set_cons_succ]
  refine wpAnyH_take (i := 5) (v := ?_) rfl (by kernel_rfl) (by kernel_rfl) (by kernel_rfl) (fun _ _ _ h => h) (Or.inl ⟨by rfl, ?_⟩) hHeld ?_
  rotate_left 1
  · intro Wx hSW; simp only [List.getElem_toArray, List.getElem_cons_zero, List.getElem_cons_succ]; go_simp; try with_reducible rfl
  try simp only [Act.put, List.getElem_toArray, List.getElem_cons_zero, List.getElem_cons_succ, List.setIfInBounds_toArray, List.set_cons_zero, List.set_cons_succ]
  refine wpAnyH_take (i := 6) (v := ?_) rfl (by kernel_rfl) (by kernel_rfl) (by kernel_rfl) (fun _ _ _ h => h) (Or.inl ⟨by rfl, ?_⟩) hHeld ?_
  rotate_left 1
  · intro Wx hSW; simp only [List.getElem_toArray, List.getElem_cons_zero, List.getElem_cons_succ]; go_simp; try with_reducible rfl
  try simp only [Act.put, List.getElem_toArray, List.getElem_cons_zero, List.getElem_cons_succ, List.setIfInBounds_toArray, List.set_cons_zero, List.set_cons_succ]
  refine wpAnyH_take (i := 7) (v := ?_) rfl (by kernel_rfl) (by kernel_rfl) (by kernel_rfl) (fun _ _ _ h => h) (Or.inl ⟨by rfl, ?_⟩) hHeld ?_
  rotate_left 1
  · intro Wx hSW; simp only [List.getElem_toArray, List.getElem_cons_zero, List.getElem_cons_succ]; go_simp; try with_reducible rfl
  try simp only [Act.put, List.getElem_toArray, List.getElem_cons_zero, List.getElem_cons_succ, List.setIfInBounds_toArray, List.set_cons_zero, List.set_cons_succ]
  refine wpAnyH_take (i := 8) (v := ?_) rfl (by kernel_rfl) (by kernel_rfl) (by kernel_rfl) (fun _ _ _ h => h) (Or.inl ⟨by rfl, ?_⟩) hHeld ?_
  rotate_left 1
  · intro Wx hSW; simp only [List.getElem_toArray, List.getElem_cons_zero, List.getElem_cons_succ]; go_simp; try with_reducible rfl
  try simp only [Act.put, List.getElem_toArray, List.getElem_cons_zero, List.getElem_cons_succ, List.setIfInBounds_toArray, List.set_cons_zero, List.set_cons_succ]
  refine wpAnyH_take (i := 9) (v := ?_) rfl (by kernel_rfl) (by kernel_rfl) (by kernel_rfl) (fun _ _ _ h => h) (Or.inl ⟨by rfl, ?_⟩) hHeld ?_
  rotate_left 1
  · intro Wx hSW; simp only [List.getElem_toArray, List.getElem_cons_zero, List.getElem_cons_succ]; go_simp; try with_reducible rfl
  try simp only [Act.put, List.getElem_toArray, List.getElem_cons_zero, List.getElem_cons_succ, List.setIfInBounds_toArray, List.set_cons_zero, List.set_cons_succ]
  refine wpAnyH_take (i := 10) (v := ?_) rfl (by kernel_rfl) (by kernel_rfl) (by kernel_rfl) (fun _ _ _ h => h) (Or.inl ⟨by rfl, ?_⟩) hHeld ?_
  rotate_left 1
  · intro Wx hSW; simp only [List.getElem_toArray, List.getElem_cons_zero, List.getElem_cons_succ]; obtain ⟨s0, s1⟩ := hSW.out; go_simp; try with_reducible rfl
  try simp only [Act.put, List.getElem_toArray, List.getElem_cons_zero, List.getElem_cons_succ, List.setIfInBounds_toArray, List.set_cons_zero, List.set_cons_succ]
  refine wpAnyH_take (i := 11) (v := ?_) rfl (by kernel_rfl) (by kernel_rfl) (by kernel_rfl) (fun _ _ _ h => h) (Or.inl ⟨by rfl, ?_⟩) hHeld ?_
  rotate_left 1
  · intro Wx hSW; simp only [List.getElem_toArray, List.getElem_cons_zero, List.getElem_cons_succ]; go_simp; try with_reducible rfl
  try simp only [Act.put, List.getElem_toArray, List.getElem_cons_zero, List.getElem_cons_succ, List.setIfInBounds_toArray, List.set_cons_zero, List.set_cons_succ]
  refine wpAnyH_take (i := 12) (v := ?_) rfl (by kernel_rfl) (by kernel_rfl) (by kernel_rfl) (fun _ _ _ h => h) (Or.inl ⟨by rfl, ?_⟩) hHeld ?_
  rotate_left 1
  · intro Wx hSW; simp only [List.getElem_toArray, List.getElem_cons_zero, List.getElem_cons_succ]; obtain ⟨s0, s1⟩ := hSW.out; have s2 := s0.look hn; rw [hlt0] at s2; go_simp; try with_reducible rfl
  try simp only [Act.put, List.getElem_toArray, List.getElem_cons_zero, List.getElem_cons_succ, List.setIfInBounds_toArray, List.set_cons_zero, List.set_cons_succ]
  refine wpAnyH_take (i := 13) (v := ?_) rfl (by kernel_rfl) (by kernel_rfl) (by kernel_rfl) (fun _ _ _ h => h) (Or.inl ⟨by rfl, ?_⟩) hHeld ?_
  rotate_left 1
  · intro Wx hSW; simp only [List.getElem_toArray, List.getElem_cons_zero, List.getElem_cons_succ]; go_simp; try with_reducible rfl
  try simp only [Act.put, List.getElem_toArray, List.getElem_cons_zero, List.getElem_cons_succ, List.setIfInBounds_toArray, List.set_cons_zero, List.set_cons_succ]
  apply key_rest
  · intro HKEY
    refine wpAnyH_ready (rs := [4, 14]) (by kernel_rfl) (by simp) ?_
    refine AllReadyH.cons rfl (fun K hK => ?_) (AllReadyH.cons rfl (fun K hK => ?_) AllReadyH.nil)
    · go_simp
      refine hK.out _ _ (hHeld) (fun hHeld => ?_)
      clear hK K
      try simp only [Act.put, List.getElem_toArray, List.getElem_cons_zero, List.getElem_cons_succ, List.setIfInBounds_toArray, List.set_cons_zero, List.set_cons_succ]
      refine wpAnyH_ready (rs := [14]) (by kernel_rfl) (by simp) ?_
      refine AllReadyH.cons rfl (fun K hK => ?_) AllReadyH.nil
      go_simp
      refine hK.out _ _ (⟨hHeld.out.1.below ((Below.refl _ _).alloc (Nat.le_refl _) _), cell_kept hHeld.out.2 ((Below.refl _ _).alloc (Nat.le_refl _) _)⟩) (fun hHeld => ?_)
      clear hK K
      try simp only [Act.put, List.getElem_toArray, List.getElem_cons_zero, List.getElem_cons_succ, List.setIfInBounds_toArray, List.set_cons_zero, List.set_cons_succ]
      exact HKEY.out
    · go_simp
      refine hK.out _ _ (⟨hHeld.out.1.below ((Below.refl _ _).alloc (Nat.le_refl _) _), cell_kept hHeld.out.2 ((Below.refl _ _).alloc (Nat.le_refl _) _)⟩) (fun hHeld => ?_)
      clear hK K
      try simp only [Act.put, List.getElem_toArray, List.getElem_cons_zero, List.getElem_cons_succ, List.setIfInBounds_toArray, List.set_cons_zero, List.set_cons_succ]
      refine wpAnyH_ready (rs := [4]) (by kernel_rfl) (by simp) ?_
      refine AllReadyH.cons rfl (fun K hK => ?_) AllReadyH.nil
      go_simp
      refine hK.out _ _ (hHeld) (fun hHeld => ?_)
      clear hK K
      try simp only [Act.put, List.getElem_toArray, List.getElem_cons_zero, List.getElem_cons_succ, List.setIfInBounds_toArray, List.set_cons_zero, List.set_cons_succ]
      exact HKEY.out
  obtain ⟨W5, hW5⟩ : ∃ X, (World.alloc W (.cells #[.string nm, .int .i64 t, .int .i64 (l0 : Nat)] 99)).drew = X := ⟨_, rfl⟩
  have hb5 : Below W.heap.size W W5 := by rw [← hW5]; exact ((Below.refl _ _).alloc (Nat.le_refl _) _).drew
  have hA5 := HA.out.below hb5
  have HA5 := hide hA5
  have HO5 := hide hA5.row
  have hbk : Blk W5 W.heap.size 99 #[.string nm, .int .i64 t, .int .i64 (l0 : Nat)] := by rw [← hW5]; exact Blk.new _ _ _
  have HBk := hide (Cs.of_blk hbk)
  have hsz : S + 1 ≤ W5.heap.size := by have := hA5.blk.lt; omega
  have HB5 := hide hb5
  have HLE : Hid (vs.length + 1 ≤ 10000000) := by show _ ≤ _; have := HA.out.le; omega
  rw [hW5]
  clear hA5 hbk hb5 hW5 hHeld
  refine wpAnyH_ready (rs := [15]) (by kernel_rfl) (by simp) ?_
  refine AllReadyH.cons rfl (fun K hK => ?_) AllReadyH.nil
  refine step_appGBn rfl (.tmp 13) (.tmp 23) rfl (S + 1) _ _ _ rfl HO5.out W.heap.size 0 1 1 [.string nm, .int .i64 t, .int .i64 (l0 : Nat)] rfl rfl (fun j u hj => by rw [Nat.zero_add]; exact HBk.out j u hj) (fun u hu => ?_) HLE.out hsz ?_
  · rcases List.mem_cons.1 hu with rfl | hu
    · rfl
    · rcases List.mem_cons.1 hu with rfl | hu
      · rfl
      · rw [List.mem_singleton.1 hu]; rfl
  intro v' W6 hown hgr hat
  obtain ⟨v6a, v6c, rfl⟩ := own_sl hown
  have hG6 : Gw (fun k => Value.ownBlock (.slice va vs.length vc) = some k) W5 W6 := Gw.of_grown hgr (fun _ hk _ => hk)
  have hbl6 := hG6.blk HA5.out.blk (fun q => by have := (HA5.out.row.lt _ q).1; omega)
  have w1 := hbl6.cell 1
  have w0 := hbl6.cell 0
  have wf0 := hbl6.frozen 0
  simp only [List.getElem?_toArray, List.getElem?_cons_succ, List.getElem?_cons_zero] at w0 w1
  have HM6 := hide (HA5.out.map.gw hG6 (fun q => by have := (HA5.out.row.lt _ q).1; have := HA5.out.ms; omega))
  have HG6 := hide hG6
  have HBL6 := hide hbl6
  have HOW := hide hown
  have HAT := hide hat
  clear hown hgr hat hG6 hbl6 HO5 HBk hsz HLE
  refine hK.out _ _ (⟨HM6.out, w1⟩) (fun hHeld => ?_)
  clear hK K
  try simp only [Act.put, List.getElem_toArray, List.getElem_cons_zero, List.getElem_cons_succ, List.setIfInBounds_toArray, List.set_cons_zero, List.set_cons_succ]
  refine wpAnyH_take (i := 16) (v := ?_) rfl (by kernel_rfl) (by kernel_rfl) (by kernel_rfl) (fun _ _ _ h => h) (Or.inl ⟨by rfl, ?_⟩) hHeld ?_
  rotate_left 1
  · intro Wx hSW; simp only [List.getElem_toArray, List.getElem_cons_zero, List.getElem_cons_succ]; go_simp; try with_reducible rfl
  try simp only [Act.put, List.getElem_toArray, List.getElem_cons_zero, List.getElem_cons_succ, List.setIfInBounds_toArray, List.set_cons_zero, List.set_cons_succ]
  refine wpAnyH_take (i := 17) (v := ?_) rfl (by kernel_rfl) (by kernel_rfl) (by kernel_rfl) (fun _ _ _ h => h) (Or.inl ⟨by rfl, ?_⟩) hHeld ?_
  rotate_left 1
  · intro Wx hSW; simp only [List.getElem_toArray, List.getElem_cons_zero, List.getElem_cons_succ]; go_simp; try with_reducible rfl
  try simp only [Act.put, List.getElem_toArray, List.getElem_cons_zero, List.getElem_cons_succ, List.setIfInBounds_toArray, List.set_cons_zero, List.set_cons_succ]
  refine wpAnyH_ready (rs := [18]) (by kernel_rfl) (by simp) ?_
  refine AllReadyH.cons rfl (fun K hK => ?_) AllReadyH.nil
  go_simp
  refine hK.out _ _ (⟨hHeld.out.1.gw (Gw.set _ _ _ _) (fun q => by have := HA.out.ms; omega), (HBL6.out.set 0 _).cell 1⟩) (fun hHeld => ?_)
  clear hK K
  try simp only [Act.put, List.getElem_toArray, List.getElem_cons_zero, List.getElem_cons_succ, List.setIfInBounds_toArray, List.set_cons_zero, List.set_cons_succ]
  refine wpAnyH_done (by kernel_rfl) ?_ _
  obtain ⟨W7, hW7⟩ : ∃ X, W6.setCell ⟨S, 0, none⟩ (.slice v6a (vs.length + 1) v6c) = X := ⟨_, rfl⟩
  have hG7 : Gw (· = S) W6 W7 := by rw [← hW7]; exact Gw.set _ _ _ _
  have hB7 : Blk W7 S 78 #[.slice v6a (vs.length + 1) v6c, .map (some M)] := by rw [← hW7]; exact HBL6.out.set 0 _
  have HO7 := hide (hG7.own HOW.out (fun k hk q => by have := (World.ownsRow.lt HOW.out k hk).1; omega))
  have hM7 := HM6.out.gw hG7 (fun q => by have := HA.out.ms; omega)
  have HGW : Hid (Gw (ScX S M (.slice va vs.length vc)) W W7) := ((Gw.of_below HB5.out (P := ScX S M (.slice va vs.length vc))).trans HG6.out (fun _ _ q => .inr (.inr q))).trans hG7 (fun _ _ q => .inl q)
  have e0 := hB7.cell 0
  have e1 := hB7.cell 1
  simp only [List.getElem?_toArray, List.getElem?_cons_succ, List.getElem?_cons_zero] at e0 e1
  have hll : vs.length ≤ 100000 := by have := HA.out.le; omega
  obtain ⟨W8, hrun, hM8, hG8, hz8⟩ := (hM7.below ((Below.refl _ _).drew)).put hn (v := vs.length + 1) (by omega) (by omega)
  rw [show ((vs.length + 1 : Nat) : Int) = (vs.length : Int) + 1 by omega] at hrun
  have HM8 := hide hM8
  have HG8 := hide hG8
  have HZ8 := hide hz8
  have HB7 := hide hB7
  rw [hW7]
  clear hW7 hG7 hM7 hM8 hG8 hz8 hB7 w0 w1 wf0 g0 g1 f0 g0a hHeld
  have HK8 : Hid (W8.cell? ⟨S, 0, none⟩ = some (.slice v6a (vs.length + 1) v6c) ∧ W8.cell? ⟨S, 1, none⟩ = some (.map (some M))) := ⟨HG8.out.cell e0 (fun q => by have q : S = M := q; have := HA.out.ms; omega), HG8.out.cell e1 (fun q => by have q : S = M := q; have := HA.out.ms; omega)⟩
  go_wp2_with fail
  refine wp_region_held_drew (S := fun W => Hid (W.cell? ⟨S, 0, none⟩ = some (.slice v6a (vs.length + 1) v6c) ∧ W.cell? ⟨S, 1, none⟩ = some (.map (some M)))) (by kernel_rfl) (⟨e0, e1⟩) (fun hHeld => ?_)
  refine wpAnyH_take (i := 0) (v := ?_) rfl (by kernel_rfl) (by kernel_rfl) (by kernel_rfl) (fun _ _ _ h => h) (Or.inl ⟨by rfl, ?_⟩) hHeld ?_
  rotate_left 1
  · intro Wx hSW; simp only [List.getElem_toArray, List.getElem_cons_zero]; go_simp; try with_reducible rfl
  try simp only [Act.put, List.getElem_toArray, List.getElem_cons_zero, List.setIfInBounds_toArray, List.set_cons_zero, List.set_cons_succ]
  refine wpAnyH_take (i := 1) (v := ?_) rfl (by kernel_rfl) (by kernel_rfl) (by kernel_rfl) (fun _ _ _ h => h) (Or.inl ⟨by rfl, ?_⟩) hHeld ?_
  rotate_left 1
  · intro Wx hSW; simp only [List.getElem_toArray, List.getElem_cons_zero, List.getElem_cons_succ]; go_simp; try with_reducible rfl
  try simp only [Act.put, List.getElem_toArray, List.getElem_cons_zero, List.getElem_cons_succ, List.setIfInBounds_toArray, List.set_cons_zero, List.set_cons_succ]
  refine wpAnyH_take (i := 2) (v := ?_) rfl (by kernel_rfl) (by kernel_rfl) (by kernel_rfl) (fun _ _ _ h => h) (Or.inl ⟨by rfl, ?_⟩) hHeld ?_
  rotate_left 1
  · intro Wx hSW; simp only [List.getElem_toArray, List.getElem_cons_zero, List.getElem_cons_succ]; go_simp; try with_reducible rfl
  try simp only [Act.put, List.getElem_toArray, List.getElem_cons_zero, List.getElem_cons_succ, List.setIfInBounds_toArray, List.set_cons_zero, List.set_cons_succ]
  refine wpAnyH_take (i := 3) (v := ?_) rfl (by kernel_rfl) (by kernel_rfl) (by kernel_rfl) (fun _ _ _ h => h) (Or.inl ⟨by rfl, ?_⟩) hHeld ?_
  rotate_left 1
  · intro Wx hSW; simp only [List.getElem_toArray, List.getElem_cons_zero, List.getElem_cons_succ]; obtain ⟨s0, s1⟩ := hSW.out; go_simp; try with_reducible rfl
  try simp only [Act.put, List.getElem_toArray, List.getElem_cons_zero, List.getElem_cons_succ, List.setIfInBounds_toArray, List.set_cons_zero, List.set_cons_succ]
  refine wpAnyH_take (i := 4) (v := ?_) rfl (by kernel_rfl) (by kernel_rfl) (by kernel_rfl) (fun _ _ _ h => h) (Or.inl ⟨by rfl, ?_⟩) hHeld ?_
  rotate_left 1
  · intro Wx hSW; simp only [List.getElem_toArray, List.getElem_cons_zero, List.getElem_cons_succ]; go_simp; try with_reducible rfl
  try simp only [Act.put, List.getElem_toArray, List.getElem_cons_zero, List.getElem_cons_succ, List.setIfInBounds_toArray, List.set_cons_zero, List.set_cons_succ]
  refine wpAnyH_take (i := 5) (v := ?_) rfl (by kernel_rfl) (by kernel_rfl) (by kernel_rfl) (fun _ _ _ h => h) (Or.inl ⟨by rfl, ?_⟩) hHeld ?_
  rotate_left 1
  · intro Wx hSW; simp only [List.getElem_toArray, List.getElem_cons_zero, List.getElem_cons_succ]; go_simp; try with_reducible rfl
  try simp only [Act.put, List.getElem_toArray, List.getElem_cons_zero, List.getElem_cons_succ, List.setIfInBounds_toArray, List.set_cons_zero, List.set_cons_succ]
  refine wpAnyH_take (i := 6) (v := ?_) rfl (by kernel_rfl) (by kernel_rfl) (by kernel_rfl) (fun _ _ _ h => h) (Or.inl ⟨by rfl, ?_⟩) hHeld ?_
  rotate_left 1
  · intro Wx hSW; simp only [List.getElem_toArray, List.getElem_cons_zero, List.getElem_cons_succ]; go_simp; try with_reducible rfl
  try simp only [Act.put, List.getElem_toArray, List.getElem_cons_zero, List.getElem_cons_succ, List.setIfInBounds_toArray, List.set_cons_zero, List.set_cons_succ]
  refine wpAnyH_take (i := 7) (v := ?_) rfl (by kernel_rfl) (by kernel_rfl) (by kernel_rfl) (fun _ _ _ h => h) (Or.inl ⟨by rfl, ?_⟩) hHeld ?_
  rotate_left 1
  · intro Wx hSW; simp only [List.getElem_toArray, List.getElem_cons_zero, List.getElem_cons_succ]; go_simp; try with_reducible rfl
  try simp only [Act.put, List.getElem_toArray, List.getElem_cons_zero, List.getElem_cons_succ, List.setIfInBounds_toArray, List.set_cons_zero, List.set_cons_succ]
  refine wpAnyH_take (i := 8) (v := ?_) rfl (by kernel_rfl) (by kernel_rfl) (by kernel_rfl) (fun _ _ _ h => h) (Or.inl ⟨by rfl, ?_⟩) hHeld ?_
  rotate_left 1
  · intro Wx hSW; simp only [List.getElem_toArray, List.getElem_cons_zero, List.getElem_cons_succ]; obtain ⟨s0, s1⟩ := hSW.out; go_simp; try with_reducible rfl
  try simp only [Act.put, List.getElem_toArray, List.getElem_cons_zero, List.getElem_cons_succ, List.setIfInBounds_toArray, List.set_cons_zero, List.set_cons_succ]
  refine wpAnyH_take (i := 9) (v := ?_) rfl (by kernel_rfl) (by kernel_rfl) (by kernel_rfl) (fun _ _ _ h => h) (Or.inl ⟨by rfl, ?_⟩) hHeld ?_
  rotate_left 1
  · intro Wx hSW; simp only [List.getElem_toArray, List.getElem_cons_zero, List.getElem_cons_succ]; go_simp; try with_reducible rfl
  try simp only [Act.put, List.getElem_toArray, List.getElem_cons_zero, List.getElem_cons_succ, List.setIfInBounds_toArray, List.set_cons_zero, List.set_cons_succ]
  refine wpAnyH_ready (rs := [10]) (by kernel_rfl) (by simp) ?_
  refine AllReadyH.cons rfl (fun K hK => ?_) AllReadyH.nil
  go_simp
  refine hK.out _ _ (HK8.out) (fun hHeld => ?_)
  clear hK K
  try simp only [Act.put, List.getElem_toArray, List.getElem_cons_zero, List.getElem_cons_succ, List.setIfInBounds_toArray, List.set_cons_zero, List.set_cons_succ]
  refine wpAnyH_done (by kernel_rfl) ?_ _
  go_wp2
  go_end0
  have hG : Gw (ScX S M (.slice va vs.length vc)) W W8 := HGW.out.trans ((Gw.of_below (P := ScX S M (.slice va vs.length vc)) ((Below.refl _ _).drew)).trans HG8.out (fun _ _ q => .inr (.inl q))) (fun _ _ q => q)
  refine ⟨rfl, _, ⟨HG8.out.blk HB7.out (fun q => by have q : S = M := q; have := HA.out.ms; omega), ?_, HM8.out.ext (fun x => ?_), HA.out.ms, ?_⟩, hG, ?_⟩
  · have ho : W8.ownsRow _ _ _ _ _ _ := HG8.out.own HO7.out (fun k hk q => by have := (World.ownsRow.lt HO7.out k hk).1; have := HA.out.ms; omega)
    rw [bcs_snoc, List.nil_append, List.length_append, HLT.out]
    exact ho
  · rw [ltN_snoc]
    by_cases q : x = nm
    · rw [if_pos q, if_pos q.symm]
    · rw [if_neg q, if_neg (fun h => q h.symm)]
  · rw [List.length_append]
    have := HA.out.le
    show _ + 1 ≤ _
    omega
  · rcases HAT.out with q | q
    · exact .inl q
    · exact .inr ⟨_, q, HB5.out.size⟩
end Go.Proofs.YtdlahabeegmjiaaDoor

/-
  The walks of impl's scopes: enter, leave.
-/
import Derived.Test.YtdlahabeegmjiaaDoorJCkIKS
namespace Go.Proofs.YtdlahabeegmjiaaDoor
open Go.RowKit

/-- How many bindings a scope has. -/
def scLen (S : Nat) (w : World) : Nat := match w.cell? ⟨S, 0, none⟩ with
  | some (.slice _ n _) => n
  | _ => 0
theorem bcs_take : ∀ (vs p : List (ByteArray × Int)) (m : Nat), (bcs p vs).take (m * 3) = bcs p (vs.take m)
  | [], p, m => by simp [bcs]
  | x :: vs, p, 0 => by simp [bcs]
  | x :: vs, p, m + 1 => by
    rw [bcs, List.take_succ_cons, bcs, ← bcs_take vs (p ++ [x]) m]
    show ([_, _, _] ++ bcs (p ++ [x]) vs).take ((m + 1) * 3) = _
    rw [List.take_append, List.take_of_length_le (by show 3 ≤ _; omega)]
    show _ ++ List.take ((m + 1) * 3 - 3) _ = _
    rw [show (m + 1) * 3 - 3 = m * 3 by omega]
/-- A row, cut short. -/
theorem own_trunc {w : World} {B e z n m cap : Nat} {va : Option Addr} {xs : List Value} (h : w.ownsRow B e z (.slice va n cap) n xs) (hm : m ≤ n) : w.ownsRow B e z (.slice va m cap) m (xs.take (m * z)) := by
  obtain ⟨h0, h1⟩ := h
  refine ⟨by rw [List.length_take, h0]; exact Nat.min_eq_left (Nat.mul_le_mul_right _ hm), ?_⟩
  rcases h1 with ⟨hv, hn⟩ | ⟨g, cap', cur, hv, hB, hg, hn, hc, hs, ht⟩
  · injection hv with e1 e2 e3
    left
    have : m = 0 := by omega
    subst this
    exact ⟨by rw [e1, e3], rfl⟩
  · injection hv with e1 e2 e3
    subst e3
    refine .inr ⟨g, cap, cur, by rw [e1], hB, hg, by omega, hc, hs, ?_⟩
    rw [← ht, List.take_take, Nat.min_eq_left (Nat.mul_le_mul_right _ hm)]

set_option maxHeartbeats 4000000 in
set_option maxRecDepth 1000000 in
theorem enter_any {W : World} {S M n : Nat} {bv un ut : Value} {vs : List (ByteArray × Int)} {ps : List ByteArray} {ts : List Int} (h : ScA W S M bv vs n) (hs : ∀ W', Gw (ScX S M bv) W W' → SS W' un ps ∧ IS W' ut ts) (hp : ∀ p ∈ ps, p.size ≤ 1000) (hlt : ps.length ≤ ts.length) (hl : n + ps.length ≤ 100000) :
    Calls Tryd.prog 67 #[.pointer (some ⟨S, 0, none⟩), un, ut] W fun r w' => r = .returned (.int .i64 vs.length) ∧ ScQ S M bv W (vs ++ ps.zip ts) (n + ps.length) w' := by
  obtain ⟨⟨a2, b2, o2, c2, rfl, hna, hnc⟩, ⟨a3, b3, o3, c3, rfl, hta, htc⟩⟩ := hs W (Gw.refl _ _)
  obtain ⟨va, vc, rfl⟩ := own_sl h.row
  have g0 := h.blk.cell 0
  simp only [List.getElem?_toArray, List.getElem?_cons_zero] at g0
  have HA := hide h
  have HS := hide hs
  have HP := hide hp
  have HZ : Hid ((ps.zip ts).length = ps.length) := by show _ = _; rw [List.length_zip]; omega
  clear h hs hna hnc hta htc hp
  go_enter Tryd.func67, Tryd.ntmps67
  go_wp2_with fail
  go_loopw [8, 9, 17] (fun _ _ ix wr => ∃ k : Nat, k ≤ ps.length ∧ ix = .int .i64 k ∧ ∃ bvr, Hid (ScA wr S M bvr (vs ++ (ps.zip ts).take k) (n + k) ∧ Gw (ScX S M (.slice va vs.length vc)) W wr ∧ CkM W (.slice va vs.length vc) bvr)) (fun _ _ ix _ => ps.length - (intOf ix).toNat)
  case atStart => exact ⟨0, Nat.zero_le _, rfl, _, by rw [List.take_zero, List.append_nil]; exact HA.out, Gw.refl _ _, CkM.refl _ _⟩
  case round =>
    obtain ⟨k, hk, rfl, bvr, HI⟩ := hrel
    rename World => V
    by_cases hlk : k < ps.length
    · have hlti : (k : Int) < (ps.length : Int) := by omega
      have hltt : (k : Int) < (ts.length : Int) := by omega
      obtain ⟨⟨_, nb, no, _, e1, hna, hnc⟩, ⟨_, tb, tq, _, e2, hta, htc⟩⟩ := HS.out V HI.out.2.1
      injection e1 with e1 _ e3
      injection e2 with e2 _ e4
      subst e1 e2 e3 e4
      obtain rfl := hna (by omega)
      obtain rfl := hta (by omega)
      obtain ⟨u, hu, hbs⟩ := hnc k hlk
      have x2 := htc k (by omega)
      have hz := HP.out (ps.getD k .empty) (by rw [List.getD_eq_getElem?_getD, List.getElem?_eq_getElem hlk]; exact List.getElem_mem hlk)
      have HB := hide (bind_any (t := ts.getD k 0) HI.out.1 hbs hz (by omega))
      have HT : Hid (vs ++ (ps.zip ts).take k ++ [(ps.getD k .empty, ts.getD k 0)] = vs ++ (ps.zip ts).take (k + 1)) := by
        show _ = _
        have hkt : k < ts.length := by omega
        rw [List.append_assoc, List.take_add_one, List.getElem?_eq_getElem (by rw [HZ.out]; exact hlk), List.getElem_zip, List.getD_eq_getElem?_getD, List.getD_eq_getElem?_getD, List.getElem?_eq_getElem hlk, List.getElem?_eq_getElem hkt]
        rfl
      obtain ⟨x, hx⟩ : ∃ x, ts.getD k 0 = x := ⟨_, rfl⟩
      obtain ⟨y, hy⟩ : ∃ y, ps.getD k .empty = y := ⟨_, rfl⟩
      rw [hx] at x2 HB HT
      rw [hy] at HB HT hbs
      obtain ⟨ua, ub, uo, uc, rfl, _, _⟩ := hbs
      clear hna hnc hta htc hz hx hy
      go_wp2_with fail
      refine HB.out.mono ?_
      rintro r V2 ⟨rfl, bv2, hA2, hG2, hM2⟩
      rw [HT.out] at hA2
      have HR : Hid (ScA V2 S M bv2 (vs ++ (ps.zip ts).take (k + 1)) (n + (k + 1)) ∧ Gw (ScX S M (.slice va vs.length vc)) W V2 ∧ CkM W (.slice va vs.length vc) bv2) := ⟨hA2, ScX.trans HI.out.2.1 HI.out.2.2 hG2, HI.out.2.2.trans hM2 HI.out.2.1.size⟩
      clear hA2 hG2 hM2 HB HI HT
      go_wp2
      go_roundw
      case rel => exact ⟨k + 1, by omega, by go_num, bv2, HR⟩
      case measure => simp [intOf]; omega
    · obtain rfl : k = ps.length := by omega
      have hge : ¬ (ps.length : Int) < (ps.length : Int) := by omega
      go_wp2
      go_ret
      have h1 := HI.out
      rw [List.take_of_length_le (by rw [HZ.out]; exact Nat.le_refl _)] at h1
      exact ⟨rfl, bvr, h1⟩
set_option maxHeartbeats 4000000 in
set_option maxRecDepth 1000000 in
theorem leave_any {W : World} {S M n : Nat} {bv : Value} {vs ts : List (ByteArray × Int)} (h : ScA W S M bv (vs ++ ts) n) (hp : ∀ v ∈ ts, v.1.size ≤ 1000) (hl : n + ts.length ≤ 100000) :
    Calls Tryd.prog 68 #[.pointer (some ⟨S, 0, none⟩), .int .i64 vs.length] W fun r w' => r = .returned (.tuple #[]) ∧ ScQ S M bv W vs (n + ts.length) w' := by
  obtain ⟨us, hus⟩ : ∃ us, vs ++ ts = us := ⟨_, rfl⟩
  have HUL : Hid (us.length = vs.length + ts.length) := by show _ = _; rw [← hus, List.length_append]
  have HUV : Hid (us.take vs.length = vs) := by show _ = _; rw [← hus, List.take_left]
  have HUT : Hid (∀ m v, vs.length ≤ m → us[m]? = some v → v.1.size ≤ 1000) := fun m v hm hv => by
    rw [← hus, List.getElem?_append_right hm] at hv
    exact hp v (List.mem_of_getElem? hv)
  rw [hus] at h
  have HA := hide h
  clear h hp hus
  go_enter Tryd.func68, Tryd.ntmps68
  go_wp2_with fail
  go_loopw [4] (fun _ wr => ∃ j : Nat, vs.length ≤ j ∧ j ≤ us.length ∧ ∃ bvr, Hid (ScA wr S M bvr (us.take j) (n + (us.length - j)) ∧ Gw (ScX S M bv) W wr ∧ CkM W bv bvr)) (fun _ wr => scLen S wr)
  case atStart => exact ⟨us.length, by have := HUL.out; omega, Nat.le_refl _, bv, by rw [List.take_of_length_le (Nat.le_refl _), Nat.sub_self]; exact HA.out, Gw.refl _ _, CkM.refl _ _⟩
  case round =>
    obtain ⟨j, hj, hju, bvr, HI⟩ := hrel
    rename World => V
    have hlj : (us.take j).length = j := by rw [List.length_take]; omega
    have hrow := HI.out.1.row
    rw [hlj] at hrow
    obtain ⟨ra, cap, rfl⟩ := own_sl hrow
    have c0 := HI.out.1.blk.cell 0
    have c1 := HI.out.1.blk.cell 1
    simp only [List.getElem?_toArray, List.getElem?_cons_succ, List.getElem?_cons_zero] at c0 c1
    by_cases hlt : vs.length < j
    · obtain ⟨m, rfl⟩ : ∃ m, j = m + 1 := ⟨j - 1, by omega⟩
      have hlti : (vs.length : Int) < ((m : Int) + 1) := by omega
      have hmi : (m : Int) < (m : Int) + 1 := by omega
      obtain ⟨v, hv⟩ : ∃ v, us[m]? = some v := ⟨us[m], List.getElem?_eq_getElem (by omega)⟩
      have hvt : (us.take (m + 1))[m]? = some v := by rw [List.getElem?_take_of_lt (by omega)]; exact hv
      have hsz := HUT.out m v (by omega) hv
      obtain ⟨a', g, c', e1, e2, e3⟩ := RwG.of_own (G := fun k => S + 1 ≤ k) hrow (fun _ h => h)
      injection e1 with e1 _ e4
      subst e1 e4
      obtain ⟨rfl, hgS⟩ := e2 (by omega)
      have n0 : V.cell? ⟨g, m * 3, none⟩ = some (.string v.1) := e3 (by omega) _ _ (by show (bcs [] (us.take (m + 1)))[m * 3 + 0]? = _; rw [bcs_at (us.take (m + 1)) [] m v hvt 0 (by omega)]; rfl)
      have n2 : V.cell? ⟨g, m * 3 + 2, none⟩ = some (.int .i64 (ltN (us.take m) v.1 : Nat)) := e3 (by omega) _ _ (by rw [bcs_at (us.take (m + 1)) [] m v hvt 2 (by omega), List.nil_append, List.take_take, Nat.min_eq_left (by omega)]; rfl)
      have HF : Hid (∀ x, (if x = v.1 then ltN (us.take m) v.1 else ltN (us.take (m + 1)) x) = ltN (us.take m) x) := fun x => by
        have et : us.take (m + 1) = us.take m ++ [v] := by rw [List.take_add_one, hv]; rfl
        rw [et, ltN_snoc]
        by_cases q : x = v.1
        · rw [if_pos q, q]
        · rw [if_neg q, if_neg (fun h => q h.symm)]
      have hl0 := (ltN_vrT v.1 (us.take m)).1
      obtain ⟨l0, hl0e⟩ : ∃ l, ltN (us.take m) v.1 = l := ⟨_, rfl⟩
      rw [hl0e] at n2 HF hl0
      obtain ⟨nm, hnm⟩ : ∃ y, v.1 = y := ⟨_, rfl⟩
      rw [hnm] at n0 HF hsz
      have hus5 : us.length ≤ 100000 := by have := HUL.out; have := HA.out.le; omega
      obtain ⟨W8, hrun, hM8, hG8, hz8⟩ := (HI.out.1.map.below ((Below.refl _ _).drew)).put hsz (v := l0) (by rw [List.length_take] at hl0; omega) (by have := HUL.out; omega)
      have hne : ∀ k, S ≤ k → ¬ k = M := fun k hk q => by have := HI.out.1.ms; omega
      have HK8 : Hid (W8.cell? ⟨S, 0, none⟩ = some (.slice (some ⟨g, 0, none⟩) (m + 1) cap) ∧ W8.cell? ⟨S, 1, none⟩ = some (.map (some M)) ∧ W8.cell? ⟨g, m * 3, none⟩ = some (.string nm) ∧ W8.cell? ⟨g, m * 3 + 2, none⟩ = some (.int .i64 (l0 : Nat))) := ⟨hG8.cell c0 (hne _ (Nat.le_refl _)), hG8.cell c1 (hne _ (Nat.le_refl _)), hG8.cell n0 (hne g (by omega)), hG8.cell n2 (hne g (by omega))⟩
      have hB8 := hG8.blk HI.out.1.blk (hne _ (Nat.le_refl _))
      have hO8 : W8.ownsRow _ _ _ _ _ _ := hG8.own hrow (fun k hk => hne k (by have := (World.ownsRow.lt hrow k hk).1; omega))
      have hmc : m + 1 ≤ cap := by
        rcases hrow.2 with ⟨h1, h0⟩ | ⟨_, _, _, hv', _, _, hn', _⟩
        · omega
        · injection hv' with _ _ hv'; omega
      have HS9 : Hid (ScA (W8.setCell ⟨S, 0, none⟩ (.slice (some ⟨g, 0, none⟩) m cap)) S M (.slice (some ⟨g, 0, none⟩) m cap) (us.take m) (n + (us.length - m)) ∧ Gw (ScX S M bv) W (W8.setCell ⟨S, 0, none⟩ (.slice (some ⟨g, 0, none⟩) m cap)) ∧ CkM W bv (.slice (some ⟨g, 0, none⟩) m cap)) := by
        have hgs := Gw.set W8 S 0 (.slice (some ⟨g, 0, none⟩) m cap)
        have htr := own_trunc hO8 (show m ≤ m + 1 by omega)
        rw [bcs_take, List.take_take, Nat.min_eq_left (by omega)] at htr
        have hlm : (us.take m).length = m := by rw [List.length_take]; omega
        have hgw : Gw (ScX S M bv) W (W8.setCell ⟨S, 0, none⟩ (.slice (some ⟨g, 0, none⟩) m cap)) := ((HI.out.2.1.trans (Gw.of_below (P := ScX S M bv) ((Below.refl _ _).drew)) (fun _ _ q => q)).trans hG8 (fun _ _ q => .inr (.inl q))).trans hgs (fun _ _ q => .inl q)
        refine ⟨⟨hB8.set 0 _, ?_, ?_, HI.out.1.ms, ?_⟩, hgw, ?_⟩
        · rw [hlm]
          exact hgs.own htr (fun k hk q => by have := (World.ownsRow.lt htr k hk).1; omega)
        · have := (hM8.gw hgs (fun q => by have := HI.out.1.ms; omega)).ext HF.out
          rw [show n + (us.length - (m + 1)) + 1 = n + (us.length - m) by omega] at this
          exact this
        · rw [hlm]
          have := HI.out.1.le
          rw [hlj] at this
          omega
        · exact HI.out.2.2.trans (.inl own_cut) HI.out.2.1.size
      have w0 := hB8.cell 0
      have wf0 := hB8.frozen 0
      simp only [List.getElem?_toArray, List.getElem?_cons_zero] at w0
      have HMS : Hid (scLen S (W8.setCell ⟨S, 0, none⟩ (.slice (some ⟨g, 0, none⟩) m cap)) < scLen S V) := by
        show _ < _
        have r0 := (hB8.set 0 (.slice (some ⟨g, 0, none⟩) m cap)).cell 0
        simp only [List.setIfInBounds_toArray, List.set_cons_zero, List.getElem?_toArray, List.getElem?_cons_zero] at r0
        unfold scLen
        rw [r0, c0]
        show m < m + 1
        omega
      clear hv hvt e2 e3 hl0e hnm hM8 hG8 hz8 hB8 hO8 hrow hlj hl0 hne HI
      go_wp2_with fail
      refine wp_region_held_drew (S := fun X => Hid (X.cell? ⟨S, 0, none⟩ = some (.slice (some ⟨g, 0, none⟩) (m + 1) cap) ∧ X.cell? ⟨S, 1, none⟩ = some (.map (some M)) ∧ X.cell? ⟨g, m * 3, none⟩ = some (.string nm) ∧ X.cell? ⟨g, m * 3 + 2, none⟩ = some (.int .i64 (l0 : Nat)))) (by kernel_rfl) (⟨c0, c1, n0, n2⟩) (fun hHeld => ?_)
      refine wpAnyH_take (i := 0) (v := ?_) rfl (by kernel_rfl) (by kernel_rfl) (by kernel_rfl) (fun _ _ _ h => h) (Or.inl ⟨by rfl, ?_⟩) hHeld ?_
      rotate_left 1
      · intro Wx hSW; simp only [List.getElem_toArray, List.getElem_cons_zero]; go_simp; try with_reducible rfl
      try simp only [Act.put, List.getElem_toArray, List.getElem_cons_zero, List.setIfInBounds_toArray, List.set_cons_zero, List.set_cons_succ]
      refine wpAnyH_take (i := 1) (v := ?_) rfl (by kernel_rfl) (by kernel_rfl) (by kernel_rfl) (fun _ _ _ h => h) (Or.inl ⟨by rfl, ?_⟩) hHeld ?_
      rotate_left 1
      · intro Wx hSW; simp only [List.getElem_toArray, List.getElem_cons_zero, List.getElem_cons_succ]; go_simp; try with_reducible rfl
      try simp only [Act.put, List.getElem_toArray, List.getElem_cons_zero, List.getElem_cons_succ, List.setIfInBounds_toArray, List.set_cons_zero, List.set_cons_succ]
      refine wpAnyH_take (i := 2) (v := ?_) rfl (by kernel_rfl) (by kernel_rfl) (by kernel_rfl) (fun _ _ _ h => h) (Or.inl ⟨by rfl, ?_⟩) hHeld ?_
      rotate_left 1
      · intro Wx hSW; simp only [List.getElem_toArray, List.getElem_cons_zero, List.getElem_cons_succ]; go_simp; try with_reducible rfl
      try simp only [Act.put, List.getElem_toArray, List.getElem_cons_zero, List.getElem_cons_succ, List.setIfInBounds_toArray, List.set_cons_zero, List.set_cons_succ]
      refine wpAnyH_take (i := 3) (v := ?_) rfl (by kernel_rfl) (by kernel_rfl) (by kernel_rfl) (fun _ _ _ h => h) (Or.inl ⟨by rfl, ?_⟩) hHeld ?_
      rotate_left 1
      · intro Wx hSW; simp only [List.getElem_toArray, List.getElem_cons_zero, List.getElem_cons_succ]; obtain ⟨s0, s1, s2, s3⟩ := hSW.out; go_simp; try with_reducible rfl
      try simp only [Act.put, List.getElem_toArray, List.getElem_cons_zero, List.getElem_cons_succ, List.setIfInBounds_toArray, List.set_cons_zero, List.set_cons_succ]
      refine wpAnyH_take (i := 4) (v := ?_) rfl (by kernel_rfl) (by kernel_rfl) (by kernel_rfl) (fun _ _ _ h => h) (Or.inl ⟨by rfl, ?_⟩) hHeld ?_
      rotate_left 1
      · intro Wx hSW; simp only [List.getElem_toArray, List.getElem_cons_zero, List.getElem_cons_succ]; go_simp; try with_reducible rfl
      try simp only [Act.put, List.getElem_toArray, List.getElem_cons_zero, List.getElem_cons_succ, List.setIfInBounds_toArray, List.set_cons_zero, List.set_cons_succ]
      refine wpAnyH_take (i := 5) (v := ?_) rfl (by kernel_rfl) (by kernel_rfl) (by kernel_rfl) (fun _ _ _ h => h) (Or.inl ⟨by rfl, ?_⟩) hHeld ?_
      rotate_left 1
      · intro Wx hSW; simp only [List.getElem_toArray, List.getElem_cons_zero, List.getElem_cons_succ]; go_simp; try with_reducible rfl
      try simp only [Act.put, List.getElem_toArray, List.getElem_cons_zero, List.getElem_cons_succ, List.setIfInBounds_toArray, List.set_cons_zero, List.set_cons_succ]
      refine wpAnyH_take (i := 6) (v := ?_) rfl (by kernel_rfl) (by kernel_rfl) (by kernel_rfl) (fun _ _ _ h => h) (Or.inl ⟨by rfl, ?_⟩) hHeld ?_
      rotate_left 1
      · intro Wx hSW; simp only [List.getElem_toArray, List.getElem_cons_zero, List.getElem_cons_succ]; go_simp; try with_reducible rfl
      try simp only [Act.put, List.getElem_toArray, List.getElem_cons_zero, List.getElem_cons_succ, List.setIfInBounds_toArray, List.set_cons_zero, List.set_cons_succ]
      refine wpAnyH_take (i := 7) (v := ?_) rfl (by kernel_rfl) (by kernel_rfl) (by kernel_rfl) (fun _ _ _ h => h) (Or.inl ⟨by rfl, ?_⟩) hHeld ?_
      rotate_left 1
      · intro Wx hSW; simp only [List.getElem_toArray, List.getElem_cons_zero, List.getElem_cons_succ]; obtain ⟨s0, s1, s2, s3⟩ := hSW.out; go_simp; try with_reducible rfl
      try simp only [Act.put, List.getElem_toArray, List.getElem_cons_zero, List.getElem_cons_succ, List.setIfInBounds_toArray, List.set_cons_zero, List.set_cons_succ]
      refine wpAnyH_take (i := 8) (v := ?_) rfl (by kernel_rfl) (by kernel_rfl) (by kernel_rfl) (fun _ _ _ h => h) (Or.inl ⟨by rfl, ?_⟩) hHeld ?_
      rotate_left 1
      · intro Wx hSW; simp only [List.getElem_toArray, List.getElem_cons_zero, List.getElem_cons_succ]; go_simp; try with_reducible rfl
      try simp only [Act.put, List.getElem_toArray, List.getElem_cons_zero, List.getElem_cons_succ, List.setIfInBounds_toArray, List.set_cons_zero, List.set_cons_succ]
      refine wpAnyH_take (i := 9) (v := ?_) rfl (by kernel_rfl) (by kernel_rfl) (by kernel_rfl) (fun _ _ _ h => h) (Or.inl ⟨by rfl, ?_⟩) hHeld ?_
      rotate_left 1
      · intro Wx hSW; simp only [List.getElem_toArray, List.getElem_cons_zero, List.getElem_cons_succ]; go_simp; try with_reducible rfl
      try simp only [Act.put, List.getElem_toArray, List.getElem_cons_zero, List.getElem_cons_succ, List.setIfInBounds_toArray, List.set_cons_zero, List.set_cons_succ]
      refine wpAnyH_take (i := 10) (v := ?_) rfl (by kernel_rfl) (by kernel_rfl) (by kernel_rfl) (fun _ _ _ h => h) (Or.inl ⟨by rfl, ?_⟩) hHeld ?_
      rotate_left 1
      · intro Wx hSW; simp only [List.getElem_toArray, List.getElem_cons_zero, List.getElem_cons_succ]; go_simp; try with_reducible rfl
      try simp only [Act.put, List.getElem_toArray, List.getElem_cons_zero, List.getElem_cons_succ, List.setIfInBounds_toArray, List.set_cons_zero, List.set_cons_succ]
      refine wpAnyH_take (i := 11) (v := ?_) rfl (by kernel_rfl) (by kernel_rfl) (by kernel_rfl) (fun _ _ _ h => h) (Or.inl ⟨by rfl, ?_⟩) hHeld ?_
      rotate_left 1
      · intro Wx hSW; simp only [List.getElem_toArray, List.getElem_cons_zero, List.getElem_cons_succ]; obtain ⟨s0, s1, s2, s3⟩ := hSW.out; go_simp; try with_reducible rfl
      try simp only [Act.put, List.getElem_toArray, List.getElem_cons_zero, List.getElem_cons_succ, List.setIfInBounds_toArray, List.set_cons_zero, List.set_cons_succ]
      refine wpAnyH_take (i := 12) (v := ?_) rfl (by kernel_rfl) (by kernel_rfl) (by kernel_rfl) (fun _ _ _ h => h) (Or.inl ⟨by rfl, ?_⟩) hHeld ?_
      rotate_left 1
      · intro Wx hSW; simp only [List.getElem_toArray, List.getElem_cons_zero, List.getElem_cons_succ]; go_simp; try with_reducible rfl
      try simp only [Act.put, List.getElem_toArray, List.getElem_cons_zero, List.getElem_cons_succ, List.setIfInBounds_toArray, List.set_cons_zero, List.set_cons_succ]
      refine wpAnyH_take (i := 13) (v := ?_) rfl (by kernel_rfl) (by kernel_rfl) (by kernel_rfl) (fun _ _ _ h => h) (Or.inl ⟨by rfl, ?_⟩) hHeld ?_
      rotate_left 1
      · intro Wx hSW; simp only [List.getElem_toArray, List.getElem_cons_zero, List.getElem_cons_succ]; go_simp; try with_reducible rfl
      try simp only [Act.put, List.getElem_toArray, List.getElem_cons_zero, List.getElem_cons_succ, List.setIfInBounds_toArray, List.set_cons_zero, List.set_cons_succ]
      refine wpAnyH_take (i := 14) (v := ?_) rfl (by kernel_rfl) (by kernel_rfl) (by kernel_rfl) (fun _ _ _ h => h) (Or.inl ⟨by rfl, ?_⟩) hHeld ?_
      rotate_left 1
      · intro Wx hSW; simp only [List.getElem_toArray, List.getElem_cons_zero, List.getElem_cons_succ]; go_simp; try with_reducible rfl
      try simp only [Act.put, List.getElem_toArray, List.getElem_cons_zero, List.getElem_cons_succ, List.setIfInBounds_toArray, List.set_cons_zero, List.set_cons_succ]
      refine wpAnyH_take (i := 15) (v := ?_) rfl (by kernel_rfl) (by kernel_rfl) (by kernel_rfl) (fun _ _ _ h => h) (Or.inl ⟨by rfl, ?_⟩) hHeld ?_
      rotate_left 1
      · intro Wx hSW; simp only [List.getElem_toArray, List.getElem_cons_zero, List.getElem_cons_succ]; obtain ⟨s0, s1, s2, s3⟩ := hSW.out; go_simp; try with_reducible rfl
      try simp only [Act.put, List.getElem_toArray, List.getElem_cons_zero, List.getElem_cons_succ, List.setIfInBounds_toArray, List.set_cons_zero, List.set_cons_succ]
      refine wpAnyH_take (i := 16) (v := ?_) rfl (by kernel_rfl) (by kernel_rfl) (by kernel_rfl) (fun _ _ _ h => h) (Or.inl ⟨by rfl, ?_⟩) hHeld ?_
      rotate_left 1
      · intro Wx hSW; simp only [List.getElem_toArray, List.getElem_cons_zero, List.getElem_cons_succ]; go_simp; try with_reducible rfl
      try simp only [Act.put, List.getElem_toArray, List.getElem_cons_zero, List.getElem_cons_succ, List.setIfInBounds_toArray, List.set_cons_zero, List.set_cons_succ]
      refine wpAnyH_take (i := 17) (v := ?_) rfl (by kernel_rfl) (by kernel_rfl) (by kernel_rfl) (fun _ _ _ h => h) (Or.inl ⟨by rfl, ?_⟩) hHeld ?_
      rotate_left 1
      · intro Wx hSW; simp only [List.getElem_toArray, List.getElem_cons_zero, List.getElem_cons_succ]; go_simp; try with_reducible rfl
      try simp only [Act.put, List.getElem_toArray, List.getElem_cons_zero, List.getElem_cons_succ, List.setIfInBounds_toArray, List.set_cons_zero, List.set_cons_succ]
      refine wpAnyH_take (i := 18) (v := ?_) rfl (by kernel_rfl) (by kernel_rfl) (by kernel_rfl) (fun _ _ _ h => h) (Or.inl ⟨by rfl, ?_⟩) hHeld ?_
      rotate_left 1
      · intro Wx hSW; simp only [List.getElem_toArray, List.getElem_cons_zero, List.getElem_cons_succ]; go_simp; try with_reducible rfl
      try simp only [Act.put, List.getElem_toArray, List.getElem_cons_zero, List.getElem_cons_succ, List.setIfInBounds_toArray, List.set_cons_zero, List.set_cons_succ]
      refine wpAnyH_take (i := 19) (v := ?_) rfl (by kernel_rfl) (by kernel_rfl) (by kernel_rfl) (fun _ _ _ h => h) (Or.inl ⟨by rfl, ?_⟩) hHeld ?_
      rotate_left 1
      · intro Wx hSW; simp only [List.getElem_toArray, List.getElem_cons_zero, List.getElem_cons_succ]; obtain ⟨s0, s1, s2, s3⟩ := hSW.out; go_simp; try with_reducible rfl
      try simp only [Act.put, List.getElem_toArray, List.getElem_cons_zero, List.getElem_cons_succ, List.setIfInBounds_toArray, List.set_cons_zero, List.set_cons_succ]
      refine wpAnyH_ready (rs := [20]) (by kernel_rfl) (by simp) ?_
      refine AllReadyH.cons rfl (fun K hK => ?_) AllReadyH.nil
      go_simp
      refine hK.out _ _ (HK8.out) (fun hHeld => ?_)
      clear hK K
      try simp only [Act.put, List.getElem_toArray, List.getElem_cons_zero, List.getElem_cons_succ, List.setIfInBounds_toArray, List.set_cons_zero, List.set_cons_succ]
      refine wpAnyH_done (by kernel_rfl) ?_ _
      go_wp2
      go_roundw
      case rel => exact ⟨m, by omega, by omega, _, HS9⟩
      case measure => exact HMS.out
    · obtain rfl : j = vs.length := by omega
      have hge : ¬ (vs.length : Int) < (vs.length : Int) := by omega
      clear hrow
      go_wp2
      go_end0
      have h1 := HI.out
      rw [HUV.out, show us.length - vs.length = ts.length by have := HUL.out; omega] at h1
      exact ⟨rfl, _, h1⟩
end Go.Proofs.YtdlahabeegmjiaaDoor

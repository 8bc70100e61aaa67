/-
  The walks of declAt and bytes.Clone.
-/
import Derived.Test.YtaapababeecmeaaDoorJLayoutDeclsSLD0
import Derived.BigQuiet
import Derived.Deep.QuietTactic
import Derived.Deep.AppendLies
namespace Go.Proofs.YtaapababeecmeaaDoor
open Go.RowKit

set_option maxHeartbeats 1000000 in
set_option maxRecDepth 1000000 in
theorem declAt_any (X : Int) (kind : Int) (c : Nat) (w : World) (hX : 1 ≤ X) (hc : c ≤ 100000) :
    Calls Tryd.prog 38 #[.int .i64 kind, .int .i64 X, .int .i64 (c : Nat)] w fun e w' => e = .returned (.agg #[.int .i64 kind, .int .i64 ((c : Int) % X), .int .i64 ((c : Int) / X), .int .i64 ((c : Int) % X), .int .i64 ((c : Int) / X), .int .i64 0, .int .i64 0, .slice none 0 0, .int .i64 0]) ∧ Below w.heap.size w w' := by
  have hdm : (c : Int).tdiv X = (c : Int) / X := Int.tdiv_eq_ediv_of_nonneg (by omega)
  have hmm : (c : Int).tmod X = (c : Int) % X := Int.tmod_eq_emod_of_nonneg (by omega)
  have hWne : (X == 0) = false := by rw [beq_eq_false_iff_ne]; omega
  have hq0 : 0 ≤ (c : Int) / X := Int.ediv_nonneg (by omega) (by omega)
  have hq1 : (c : Int) / X ≤ 100000 := by
    have := Int.ediv_le_self X (show (0 : Int) ≤ (c : Int) by omega)
    omega
  obtain ⟨x, hx⟩ : ∃ x, (c : Int) % X = x := ⟨_, rfl⟩
  obtain ⟨y, hy⟩ : ∃ y, (c : Int) / X = y := ⟨_, rfl⟩
  rw [hx] at hmm ⊢
  rw [hy] at hdm hq0 hq1 ⊢
  clear hx hy
  have hwy : IntKind.i64.wrap y = y := by rw [IntKind.wrap_i64]; omega
  go_enter Tryd.func38, Tryd.ntmps38
  go_wp2_with fail
  go_quiet (fail)
  have h0 : Blk ((w.alloc (.cells #[.int .i64 0, .int .i64 0, .int .i64 0, .int .i64 0, .int .i64 0, .int .i64 0, .int .i64 0, .slice none 0 0, .int .i64 0] 59)).drewN nq) w.heap.size 59 #[.int .i64 0, .int .i64 0, .int .i64 0, .int .i64 0, .int .i64 0, .int .i64 0, .int .i64 0, .slice none 0 0, .int .i64 0] := Blk.new w _ _
  have hb0 : Below w.heap.size w ((w.alloc (.cells #[.int .i64 0, .int .i64 0, .int .i64 0, .int .i64 0, .int .i64 0, .int .i64 0, .int .i64 0, .slice none 0 0, .int .i64 0] 59)).drewN nq) := below_drewN ((Below.refl _ _).alloc (Nat.le_refl _) _) nq
  have h9 := (((((((((h0.set 0 (.int .i64 kind)).set 1 (.int .i64 x)).set 2 (.int .i64 y)).set 3 (.int .i64 x)).set 4 (.int .i64 y)).set 5 (.int .i64 0)).set 6 (.int .i64 0)).set 7 (.slice none 0 0)).set 8 (.int .i64 0))
  simp only [List.setIfInBounds_toArray, List.set_cons_zero, List.set_cons_succ] at h9
  have b9 := (((((((((hb0.setCell (p := ⟨w.heap.size, 0, none⟩) (Nat.le_refl _) (.int .i64 kind)).setCell (p := ⟨w.heap.size, 1, none⟩) (Nat.le_refl _) (.int .i64 x)).setCell (p := ⟨w.heap.size, 2, none⟩) (Nat.le_refl _) (.int .i64 y)).setCell (p := ⟨w.heap.size, 3, none⟩) (Nat.le_refl _) (.int .i64 x)).setCell (p := ⟨w.heap.size, 4, none⟩) (Nat.le_refl _) (.int .i64 y)).setCell (p := ⟨w.heap.size, 5, none⟩) (Nat.le_refl _) (.int .i64 0)).setCell (p := ⟨w.heap.size, 6, none⟩) (Nat.le_refl _) (.int .i64 0)).setCell (p := ⟨w.heap.size, 7, none⟩) (Nat.le_refl _) (.slice none 0 0)).setCell (p := ⟨w.heap.size, 8, none⟩) (Nat.le_refl _) (.int .i64 0))
  have H9 := hide h9
  have B9 := hide b9
  clear h0 hb0 h9 b9
  go_wp2
  refine bodyPost_ret (results_cell_row rfl _ _ w.heap.size 59 #[.int .i64 kind, .int .i64 x, .int .i64 y, .int .i64 x, .int .i64 y, .int .i64 0, .int .i64 0, .slice none 0 0, .int .i64 0] (0, 0) _ rfl ?hg Tryd.underlying59 rfl (by kernel_rfl)) rfl ?_
  case hg => exact H9.out
  exact ⟨rfl, B9.out⟩

set_option maxHeartbeats 1000000 in
set_option maxRecDepth 1000000 in
theorem clone_any (b o n c : Nat) (s : ByteArray) (hn : s.size = n) (h0 : 0 < n) (hb : n ≤ 1048576) (w : World) (hc : ∀ j, j < n → w.cell? ⟨b, o + j, none⟩ = some (bts s j)) :
    Calls Tryd.prog 39 #[.slice (some ⟨b, o, none⟩) n c] w fun e w' => ∃ g cap, e = .returned (.slice (some ⟨g, 0, none⟩) n cap) ∧ w.heap.size ≤ g ∧ NmOk w' (.slice (some ⟨g, 0, none⟩) n cap) s ∧ Below w.heap.size w w' := by
  have HC := hide hc
  obtain ⟨i5, hi5, hz5, hs5, hy5⟩ := info_partsDc Tryd.info5n
  clear hc
  have hnil : (binOp BinOp.eql 39 (.slice (some ⟨b, o, none⟩) n c) (.slice none 0 0)).run Tryd.prog w = .ok (.bool false) w := by
    first | rfl | simp [binOp, go_sem]
  have HOW : Hid ((w.alloc (.cells #[] 5)).ownsRow w.heap.size 5 1 (.slice (some ⟨w.heap.size, 0, none⟩) 0 0) 0 []) := ⟨rfl, .inr ⟨w.heap.size, 0, #[], rfl, Nat.le_refl _, Blk.new w _ _, Nat.le_refl _, by unfold maxLen; omega, rfl, rfl⟩⟩
  have HNM : Hid (∀ j u, ((List.range s.size).map (bts s))[j]? = some u → (w.alloc (.cells #[] 5)).cell? ((⟨b, o, none⟩ : Addr).add j) = some u) := fun j u hj => by
    have hjl : j < s.size := by
      rcases Nat.lt_or_ge j s.size with h | h
      · exact h
      · rw [List.getElem?_eq_none (by simp; exact h)] at hj; cases hj
    have e : (⟨b, o, none⟩ : Addr).add j = ⟨b, o + j, none⟩ := by unfold Addr.add; split <;> simp_all
    rw [e]
    rw [List.getElem?_map, List.getElem?_range hjl] at hj
    rw [← hj]
    exact cell_kept (HC.out j (by omega)) ((Below.refl _ _).alloc (Nat.le_refl _) _)
  subst hn
  go_enter Tryd.func39, Tryd.ntmps39
  go_wp2_with (at_builtin; refine wpList_append_lies (w := w.alloc (.cells #[] 5)) rfl (.tmp 5) (.tmp 6) 39 rfl w.heap.size 5 i5 (.int .u8 0) 1 1 Tryd.underlying39 hi5 hz5 hs5 hy5 rfl (by decide) (.slice (some ⟨w.heap.size, 0, none⟩) 0 0) 0 [] rfl HOW.out ⟨b, o, none⟩ s.size c ((List.range s.size).map (bts s)) rfl (by simp) HNM.out ?o1 h0 (by unfold maxLen; omega) (by omega) (by rw [World.size_alloc]; omega) _ rfl ?_)
  case o1 =>
    intro u hu
    obtain ⟨j, _, rfl⟩ := List.mem_map.1 hu
    rfl
  intro g cap w4 hown4 hgrow4 hat4 hlt4
  have hown5 : w4.ownsRow w.heap.size 5 1 (.slice (some ⟨g, 0, none⟩) (0 + s.size) cap) (0 + s.size) ([] ++ (List.range s.size).map (bts s)) := by rw [Nat.zero_add, List.nil_append]; exact hown4
  have HN4 := hide (nmOk_new hown5)
  have hg4 : w.heap.size ≤ g := by
    rcases hat4 with h | h
    · have : w.heap.size = g := by simpa [Value.ownBlock] using h
      omega
    · omega
  have HB4 : Hid (Below w.heap.size w w4) := ((Below.refl _ _).alloc (Nat.le_refl _) _).grown hgrow4 (by rw [World.size_alloc]; omega) (fun k hk => by
    have : w.heap.size = k := by simpa [Value.ownBlock] using hk
    omega)
  clear hown4 hown5 hgrow4 hat4 hlt4
  go_wp2
  go_ret
  exact ⟨g, cap, by simp, hg4, HN4.out, HB4.out⟩
end Go.Proofs.YtaapababeecmeaaDoor

/-
  The walk of impl.appendQuoted.
-/
import Derived.Test.YtaapababeecmeaaDoorJShowLayoutV
import Derived.Test.YtaapababeecmeaaDoorJShowLayoutShelf
import Derived.Lib.AppendStr
namespace Go.Proofs.YtaapababeecmeaaDoor
open Go.RowKit

/-- A string's iterator stands as it stood. -/
def KeepIt (w w' : World) : Prop := ∀ (k : Nat) (s : ByteArray) (p : Nat), w.heap[k]? = some (Obj.stringIter s p) → w'.heap[k]? = some (Obj.stringIter s p)
theorem KeepIt.refl (w : World) : KeepIt w w := fun _ _ _ h => h
theorem KeepIt.trans {a b c : World} (h : KeepIt a b) (k : KeepIt b c) : KeepIt a c := fun i s p hi => k i s p (h i s p hi)
theorem KeepIt.alloc (w : World) (o : Obj) : KeepIt w (w.alloc o) := fun i _ _ hi => by
  rw [Below.heap_alloc w o i (Array.getElem?_eq_some_iff.1 hi).1]; exact hi
theorem KeepIt.grown {w w' : World} {B : Nat} {v : Value} {n : Nat} {xs : List Value} (hown : w.ownsRow B 5 1 v n xs) (hg : w.grownBy w' v.ownBlock) : KeepIt w w' := by
  intro k s p hk
  rw [hg.block k (Array.getElem?_eq_some_iff.1 hk).1 ?_]
  · exact hk
  · intro e
    rcases hown.2 with ⟨rfl, _⟩ | ⟨g, cap, cur, rfl, _, hgg, _⟩
    · cases e
    · have : k = g := Option.some.inj e
      subst this
      rw [hk] at hgg
      cases hgg

/-- What an appending call leaves. -/
def Adds (B : Nat) (w w' : World) (v' : Value) (l : List Nat) : Prop := w'.ownsRow B 5 1 v' l.length (cv l) ∧ Below B w w' ∧ KeepIt w w'

theorem adds_of {B : Nat} {w w' : World} {v v' : Value} {n : Nat} {xs : List Value} {l : List Nat} (hB : B ≤ w.heap.size) (hown : w.ownsRow B 5 1 v n xs) (o : Obj) (ho : w'.ownsRow B 5 1 v' l.length (cv l)) (hg : (w.alloc o).grownBy w' v.ownBlock) : Adds B w w' v' l :=
  ⟨ho, ((Below.refl _ w).alloc hB o).grown hg (by simp; omega) (fun k hk => (hown.lt k hk).1), (KeepIt.alloc w o).trans (KeepIt.grown (hown.alloc o) hg)⟩

set_option maxHeartbeats 400000 in
set_option maxRecDepth 1000000 in
theorem aq_quote (B : Nat) (v : Value) (l : List Nat) (r : Nat) (w : World) (hr : r = 34 ∨ r = 92) (hl : l.length ≤ 80000000) (hBw : B ≤ w.heap.size) (hown : w.ownsRow B 5 1 v l.length (cv l)) :
    Calls Tryd.prog 67 #[v, .int .i32 r] w fun e w' => ∃ v', e = .returned v' ∧ Adds B w w' v' (l ++ [92, r]) := by
  have HO := hide hown
  clear hown
  rcases hr with rfl | rfl
  · go_enter Tryd.func67, Tryd.ntmps67
    go_wp2_with (at_builtin; refine wp_app rfl (.tmp 11) (.tmp 14) rfl B _ l rfl (HO.out.alloc _) w.heap.size 2 [92, 34] rfl ?n1 ?l1 ?b1 ?_)
    case n1 => (intro j hj; match j, hj with | 0, _ => simp | 1, _ => simp)
    case l1 => (show l.length + 2 ≤ _; omega)
    case b1 => (simp; omega)
    intro v' w' l' hl' ho hg
    go_wp2
    go_ret
    exact ⟨v', rfl, by rw [← hl'.out]; exact adds_of hBw HO.out _ ho hg⟩
  · go_enter Tryd.func67, Tryd.ntmps67
    go_wp2_with (at_builtin; refine wp_app rfl (.tmp 11) (.tmp 14) rfl B _ l rfl (HO.out.alloc _) w.heap.size 2 [92, 92] rfl ?n1 ?l1 ?b1 ?_)
    case n1 => (intro j hj; match j, hj with | 0, _ => simp | 1, _ => simp)
    case l1 => (show l.length + 2 ≤ _; omega)
    case b1 => (simp; omega)
    intro v' w' l' hl' ho hg
    go_wp2
    go_ret
    exact ⟨v', rfl, by rw [← hl'.out]; exact adds_of hBw HO.out _ ho hg⟩

set_option maxHeartbeats 400000 in
set_option maxRecDepth 1000000 in
theorem aq_rune (B : Nat) (v : Value) (l ys : List Nat) (r : Nat) (w : World) (h34 : ((r : Int) == 34) = false) (h92 : ((r : Int) == 92) = false) (h32 : decide ((r : Int) < 32) = false) (h127 : ((r : Int) == 127) = false) (hr : r ≤ 1114111) (hys : cv ys = Lib.runeCells (r : Int)) (hl : l.length ≤ 80000000) (hBw : B ≤ w.heap.size) (hown : w.ownsRow B 5 1 v l.length (cv l)) :
    Calls Tryd.prog 67 #[v, .int .i32 r] w fun e w' => ∃ v', e = .returned v' ∧ Adds B w w' v' (l ++ ys) := by
  have HO := hide hown
  have H22 := hide (Tryd.utf8_AppendRune_plain B v l.length (cv l) (r : Int) (by omega) (by omega) w hown (by omega) hBw)
  have HY := hide hys
  clear hown hys
  go_enter Tryd.func67, Tryd.ntmps67
  go_wp2_with fail
  refine H22.out.mono ?_
  rintro e w' ⟨v', rfl, ho, o, hg⟩
  go_wp2
  go_ret
  refine ⟨v', rfl, adds_of hBw HO.out o ?_ hg⟩
  have := ho
  rw [← HY.out, ← cv_append, cv_length, ← List.length_append] at this
  exact this

/-- append of a constant text onto a row of the call's own. -/
theorem wp_app_str {ops : Array Oper} {rest : List Oper} {o : Oper} {a : Act} {Q : Exit → Act → World → Prop} {w : World} (hgd : o.guard = none) (s x : Operand)
    (ho : o.op = .call { callee := .builtin .append, args := #[s, x], argTypes := #[39, 9] }) (B : Nat) (v : Value) (xs : List Nat) (hs : a.eval s = v) (hown : w.ownsRow B 5 1 v xs.length (cv xs))
    (t : ByteArray) (ys : List Nat) (hx : a.eval x = .string t) (hys : Lib.strCells t = cv ys) (hlen : xs.length + ys.length ≤ 100000000) (hbase : B ≤ w.heap.size)
    (h : ∀ v' w' l, Hid (l = xs ++ ys) → w'.ownsRow B 5 1 v' l.length (cv l) → w.grownBy w' v.ownBlock → wpList Tryd.prog ops Q rest (a.put o.dst v') w') : wpList Tryd.prog ops Q (o :: rest) a w := by
  obtain ⟨i0, hi, hz0, hz1, hz2⟩ := info_parts Tryd.info5
  have hsz : t.size = ys.length := by have := congrArg List.length hys; rw [cv_length] at this; simpa [Lib.strCells] using this
  refine Lib.wpList_append_own_string _ hgd s x 39 9 ho B 5 i0 Tryd.underlying39 Tryd.underlying9 hi hz0 hz1 hz2 v xs.length (cv xs) hs hown t hx (by unfold maxLen; omega) (by omega) hbase (fun v' w' h1 h2 _ => ?_)
  refine h v' w' (xs ++ ys) rfl ?_ h2
  rw [List.length_append, cv_append, ← hys, ← hsz]
  exact h1

theorem esc_cells : Lib.strCells { data := #[92, 117, 123] } = cv [92, 117, 123] := by kernel_rfl

set_option maxHeartbeats 400000 in
set_option maxRecDepth 1000000 in
theorem aq_esc (B : Nat) (v : Value) (l : List Nat) (r : Nat) (w : World) (hc : ∀ w', Below B w w' → w'.cell? ⟨7, 15, none⟩ = some (.int .u8 4)) (hr : r < 256) (h34 : ((r : Int) == 34) = false) (h92 : ((r : Int) == 92) = false) (h32 : decide ((r : Int) < 32) = true ∨ (decide ((r : Int) < 32) = false ∧ ((r : Int) == 127) = true)) (hl : l.length ≤ 80000000) (hBw : B ≤ w.heap.size) (hown : w.ownsRow B 5 1 v l.length (cv l)) :
    Calls Tryd.prog 67 #[v, .int .i32 r] w fun e w' => ∃ v', e = .returned v' ∧ Adds B w w' v' (l ++ [92, 117, 123] ++ hexL r ++ [125]) := by
  have HO := hide hown
  have HC := hide hc
  have hri : (r : Int) < 256 := by omega
  have hhl := hexL_le r
  clear hown hc
  rcases h32 with h32 | ⟨h32, h127⟩
  all_goals
    go_enter Tryd.func67, Tryd.ntmps67
    go_wp2_with (at_builtin; refine wp_app_str rfl (.tmp 22) _ rfl B _ l rfl HO.out { data := #[92, 117, 123] } [92, 117, 123] rfl esc_cells ?l1 ?b1 ?_)
    case l1 => (show l.length + 3 ≤ _; omega)
    case b1 => exact hBw
    intro v1 w1 l1 hl1 ho1 hg1
    have HB1 : Hid (Below B w w1) := (Below.refl _ w).grown hg1 hBw (fun k hk => (HO.out.lt k hk).1)
    have HK1 : Hid (KeepIt w w1) := KeepIt.grown HO.out hg1
    have e1 : l1.length = l.length + 3 := by rw [hl1.out]; simp
    have H21 := hide (appendInt_any B v1 l1 r w1 (HC.out w1 HB1.out) (by omega) hr (Nat.le_trans hBw HB1.out.size) ho1)
    have HO1 := hide ho1
    clear ho1 hg1
    go_wp2_with fail
    refine H21.out.mono ?_
    rintro e w2 ⟨v2, rfl, ho2, o, hg2⟩
    have HA := hide (adds_of (Nat.le_trans hBw HB1.out.size) HO1.out o ho2 hg2)
    have hle2 : (l1 ++ hexL r).length ≤ l.length + 5 := by rw [List.length_append]; omega
    obtain ⟨l2, hl2⟩ : ∃ l2, l1 ++ hexL r = l2 := ⟨_, rfl⟩
    rw [hl2] at HA hle2
    have HL2 := hide hl2
    have hsz : B ≤ w2.heap.size := Nat.le_trans hBw (Nat.le_trans HB1.out.size HA.out.2.1.size)
    clear ho2 hg2 hl2
    go_wp2_with (at_builtin; refine wp_app rfl (.tmp 28) (.tmp 29) rfl B _ l2 rfl (HA.out.1.alloc _) w2.heap.size 1 [125] rfl ?n3 ?l3 ?b3 ?_)
    case n3 => (intro j hj; match j, hj with | 0, _ => simp)
    case l3 => (show l2.length + 1 ≤ _; omega)
    case b3 => (simp; omega)
    intro v' w' l' hl' ho hg
    go_wp2
    go_ret
    have h3 := adds_of hsz HA.out.1 _ ho hg
    refine ⟨v', rfl, ?_, (HB1.out.trans HA.out.2.1).trans h3.2.1, (HK1.out.trans HA.out.2.2).trans h3.2.2⟩
    rw [← hl1.out, HL2.out, ← hl'.out]
    exact ho
end Go.Proofs.YtaapababeecmeaaDoor

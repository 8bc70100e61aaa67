/-
  The walk of impl.takeThrough.
-/
import Derived.Test.YtohilccbfdienaaJCoIRW
import Derived.Test.YtohilccbfdienaaJCoRFB
import Derived.Shelf.Abstract
import Derived.Shelf.RegionOpen
import Derived.WalkKit
import Derived.OwnWalkIn
import Derived.TacticsInMore
import Derived.LoopNIn
import Derived.LoopIn
import Derived.Maps.OwnIn
import Derived.Maps.AppendAt
namespace Go.Proofs.Ytohilccbfdienaa
open Go.RowKit Go.Shelf

attribute [local go_sem] Oper.semAt_some

set_option maxHeartbeats 1000000 in
set_option maxRecDepth 1000000 in
theorem take_same (RW g c k : Nat) (x : Int) (w : World) (hbx : Boxed w RW 45 (.slice (some ⟨g, 0, none⟩) (k + 1) c)) (hx : w.cell? ⟨g, k, none⟩ = some (.int .i64 x)) (hc : k + 1 ≤ c) (hk : k ≤ 100000) :
    Calls Try.prog 37 #[.pointer (some ⟨RW, 0, none⟩)] w fun e w' => e = .returned (.tuple #[.int .i64 x, .bool true]) ∧ w' = w.drew.setCell ⟨RW, 0, none⟩ (.slice (some ⟨g, 0, none⟩) k c) := by
  have c0 := hbx.cell
  have f0 := hbx.frozen
  have hci : (k : Int) ≤ (c : Int) := by omega
  have hwr : IntKind.i64.wrap ((k : Int) + 1 - 1) = (k : Int) := by rw [IntKind.wrap_i64]; omega
  clear hbx
  go_enter Try.func37, Try.ntmps37
  go_wp2_with fail
  go_region
  go_wp2
  go_ret2
  exact ⟨rfl, rfl⟩
set_option maxRecDepth 1000000 in
set_option maxHeartbeats 2000000 in
theorem rest_box (RW : Nat) (w : World) :
    Calls Try.prog 30 #[.pointer (some ⟨RW, 0, none⟩)] w fun e w' => e = .returned (.func (.func 36) #[] #[.pointer (some ⟨w.heap.size, 0, none⟩)]) ∧ w' = w.alloc (.cells #[.pointer (some ⟨RW, 0, none⟩)] 50) := by
  go_enter Try.func30, Try.ntmps30
  go_wp2
  go_ret
  exact ⟨rfl, rfl⟩
theorem box_put {W : World} {b l : Nat} {t : TypeId} {v : Value} {o o' : Obj} (h : Boxed W b t v) (hl : W.heap[l]? = some o) (ho : o.isCells = false) : Boxed (W.putObj l o') b t v :=
  (World.putObj_heap_other (fun e => by subst e; rw [show W.heap[b]? = _ from h] at hl; cases hl; cases ho)).trans h
/-- How takeThrough stands: r are left, A is taken. -/
structure TtS (w : World) (RW EB g c : Nat) (e : Int) (r : Nat) (A : List Int) (W : World) : Prop where
  box : Boxed W RW 45 (.slice (some ⟨g, 0, none⟩) r c)
  tk : ∃ u, Boxed W (EB + 1) 22 u ∧ IOw W (EB + 3) u A
  en : Boxed W EB 3 (.int .i64 e)
  rr : Boxed W (EB + 2) 50 (.pointer (some ⟨RW, 0, none⟩))
  old : ∀ k, k < EB → k ≠ RW → W.heap[k]? = w.heap[k]?
  os : W.os = w.os
  tape : W.tape = w.tape
  output : W.output = w.output
  sz : EB + 3 ≤ W.heap.size
theorem TtS.putObj {w : World} {RW EB g c r l : Nat} {e : Int} {A : List Int} {W : World} {o o' : Obj} (h : TtS w RW EB g c e r A W) (hE : EB + 3 ≤ l) (hl : W.heap[l]? = some o) (ho : o.isCells = false) : TtS w RW EB g c e r A (W.putObj l o') := by
  obtain ⟨u, h1, h2⟩ := h.tk
  have hs := (grownBy_putObj' W l o').size
  exact ⟨box_put h.box hl ho, ⟨u, box_put h1 hl ho, ownsRow_putObj h2 o' hl ho⟩, box_put h.en hl ho, box_put h.rr hl ho, fun k hk hr => (World.putObj_heap_other (by omega)).trans (h.old k hk hr), h.os, h.tape, h.output, Nat.le_trans h.sz hs⟩
theorem TtS.alloc {w : World} {RW EB g c r : Nat} {e : Int} {A : List Int} {W : World} (h : TtS w RW EB g c e r A W) (o : Obj) : TtS w RW EB g c e r A (W.alloc o) := by
  obtain ⟨u, h1, h2⟩ := h.tk
  have hs := h.sz
  exact ⟨h.box.alloc o, ⟨u, h1.alloc o, World.ownsRow.alloc h2 o⟩, h.en.alloc o, h.rr.alloc o, fun k hk hr => (Below.heap_alloc _ _ _ (by omega)).trans (h.old k hk hr), h.os, h.tape, h.output, by rw [World.size_alloc]; omega⟩
/-- One more is taken off. -/
theorem TtS.take {w : World} {RW EB g c r r' : Nat} {e : Int} {A : List Int} {W : World} (h : TtS w RW EB g c e r A W) (hR : RW < EB) : TtS w RW EB g c e r' A (W.drew.setCell ⟨RW, 0, none⟩ (.slice (some ⟨g, 0, none⟩) r' c)) := by
  obtain ⟨u, h1, h2⟩ := h.tk
  have ne : ∀ b, b ≠ RW → (W.drew.setCell ⟨RW, 0, none⟩ (.slice (some ⟨g, 0, none⟩) r' c)).heap[b]? = W.heap[b]? := fun b hb => Below.heap_setCell _ _ _ _ hb
  refine ⟨Boxed.set (W := W.drew) _ h.box, ⟨u, (ne _ (by omega)).trans h1, ?_⟩, (ne _ (by omega)).trans h.en, (ne _ (by omega)).trans h.rr, fun k hk hr => (ne k hr).trans (h.old k hk hr), h.os, h.tape, h.output, by rw [World.size_setCell]; exact h.sz⟩
  exact World.ownsRow.kept (w := W.drew) h2 (row := some RW) (grownBy_setCell' _ _ _) (.inr (fun q => by have := (World.ownsRow.lt h2 RW q).1; omega))
/-- One is appended. -/
theorem TtS.app {w : World} {RW EB g c r : Nat} {e x : Int} {A : List Int} {W W' : World} {u u' : Value} (h : TtS w RW EB g c e r A W) (hR : RW < EB) (hu : IOw W (EB + 3) u A) (ho : IOw W' (EB + 3) u' (A ++ [x])) (hg : W.grownBy W' u.ownBlock) : TtS w RW EB g c e r (A ++ [x]) (W'.setCell ⟨EB + 1, 0, none⟩ u') := by
  have hlow : ∀ k, k < EB + 3 → W'.heap[k]? = W.heap[k]? := fun k hk => hg.block k (by have := h.sz; omega) (fun q => by have := (World.ownsRow.lt hu k q.symm).1; omega)
  have ne : ∀ b, b ≠ EB + 1 → (W'.setCell ⟨EB + 1, 0, none⟩ u').heap[b]? = W'.heap[b]? := fun b hb => Below.heap_setCell _ _ _ _ hb
  obtain ⟨u0, h1, _⟩ := h.tk
  refine ⟨(ne _ (by omega)).trans ((hlow _ (by omega)).trans h.box), ⟨u', Boxed.set _ ((hlow _ (by omega)).trans h1 : Boxed W' (EB + 1) _ u0), ?_⟩, (ne _ (by omega)).trans ((hlow _ (by omega)).trans h.en), (ne _ (by omega)).trans ((hlow _ (by omega)).trans h.rr), fun k hk hr => (ne k (by omega)).trans ((hlow k (by omega)).trans (h.old k hk hr)), hg.os.trans h.os, hg.tape.trans h.tape, hg.output.trans h.output, by rw [World.size_setCell]; exact Nat.le_trans h.sz hg.size⟩
  exact World.ownsRow.kept ho (row := some (EB + 1)) (grownBy_setCell' _ _ _) (.inr (fun q => by have := (World.ownsRow.lt ho _ q).1; omega))
/-- append of a number in a fence. -/
theorem wpIn_appJ {F : Fence} {nF : Nat} {ops : Array Oper} {rest : List Oper} {o : Oper} {a : Act} {Q : Exit → Act → World → Prop} {w : World} (hgd : o.guard = none) (s x : Operand)
    (ho : o.op = .call { callee := .builtin .append, args := #[s, x], argTypes := #[22, 22] }) (G : Nat) (v : Value) (xs : List Int) (hs : a.eval s = v) (hown : IOw w G v xs)
    (g c : Nat) (y : Int) (hx : a.eval x = .slice (some ⟨g, 0, none⟩) 1 c) (hnew : w.cell? ⟨g, 0, none⟩ = some (.int .i64 y)) (hlen : xs.length ≤ 10000000) (hbase : G ≤ w.heap.size)
    (h : ∀ v' w', Hid (IOw w' G v' (xs ++ [y])) → Hid (w.grownBy w' v.ownBlock) → wpListIn F nF Try.prog ops Q rest (a.put o.dst v') w') : wpListIn F nF Try.prog ops Q (o :: rest) a w := by
  obtain ⟨i0, hi, hz0, hz1, hz2⟩ := info_partsJ Try.infoJ
  refine wpListIn_append_own_at _ hgd s x 22 ho G 3 i0 (.int .i64 0) 1 8 Try.underlying22 hi hz0 hz1 hz2 rfl (by decide) v xs.length (cis xs) hs hown ⟨g, 0, none⟩ 1 c (cis [y]) hx (cis_length [y]) (fun j u hj => ?_) (cis_one _) (by unfold maxLen; omega) (by omega) hbase (fun v' w' h1 h2 _ _ => ?_)
  · have hj0 : j = 0 := by
      rcases Nat.lt_or_ge j 1 with h | h
      · omega
      · rw [List.getElem?_eq_none (by rw [cis_length]; exact h)] at hj; cases hj
    subst hj0
    have e : (⟨g, 0, none⟩ : Addr).add 0 = ⟨g, 0, none⟩ := by unfold Addr.add; split <;> simp_all
    rw [e, hnew]
    exact hj
  · refine h v' w' ?_ h2
    show World.ownsRow _ _ _ _ _ _ _
    rw [List.length_append, cis_append]
    exact h1

set_option maxRecDepth 1000000 in
set_option maxHeartbeats 2000000 in
theorem rest1_brk (n : Nat) (hn : 1 ≤ n) (l : Nat) (w : World) (RW EB g c N m : Nat) (e : Int) (q : Nat → Int) (hR : RW < EB) (hgE : g < EB) (hgR : g ≠ RW) (hNc : N ≤ c) (hN : N ≤ 100000) (hm : m < N)
    (hcells : ∀ k, k ≤ m → w.cell? ⟨g, N - k - 1, none⟩ = some (.int .i64 (q k))) (acc : Nat → List Int) (Rd Rx : World → Prop) (W : World)
    (hRd : ∀ {A A' : World}, Rd A → KeepsOthers A A' → Rd A')
    (hY : ∀ k W1, k < m → TtS w RW EB g c e (N - k - 1) (acc k) W1 → Rd W1 → YieldAt Fence.wide (n - 1) Try.prog l #[.int .i64 (q k)] W1 fun e' W' => e' = .returned (.bool true) ∧ TtS w RW EB g c e (N - (k + 1)) (acc (k + 1)) W' ∧ Rd W')
    (hX : ∀ W1, TtS w RW EB g c e (N - m - 1) (acc m) W1 → Rd W1 → YieldAt Fence.wide (n - 1) Try.prog l #[.int .i64 (q m)] W1 fun e' W' => e' = .returned (.bool false) ∧ Rx W')
    (h0 : TtS w RW EB g c e (N - 0) (acc 0) W) (hr : Rd W) :
    CallsIn Fence.wide n Try.prog 36 #[.func (.yield l) #[] #[], .pointer (some ⟨EB + 2, 0, none⟩)] W fun e' W' => (∃ v, e' = .returned v) ∧ Rx W' := by
  have HTK := hide (fun k V (hk : k ≤ m) (h : TtS w RW EB g c e (N - k) (acc k) V) => (take_same RW g c (N - k - 1) (q k) V (by have := h.box; rw [show N - k = N - k - 1 + 1 by omega] at this; exact this) (by
    rw [World.cell?_of_block (w := w) (a := ⟨g, N - k - 1, none⟩) (h.old g hgE hgR)]
    exact hcells k hk) (by omega) (by omega) : Calls Try.prog 37 #[.pointer (some ⟨RW, 0, none⟩)] V fun e w' => e = .returned (.tuple #[.int .i64 (q k), .bool true]) ∧ w' = V.drew.setCell ⟨RW, 0, none⟩ (.slice (some ⟨g, 0, none⟩) (N - k - 1) c)))
  have HKO := hide (fun (V : World) (v : Value) => ((KeepsOthers.drew V).trans (KeepsOthers.setCell V.drew ⟨RW, 0, none⟩ v) : KeepsOthers V (V.drew.setCell ⟨RW, 0, none⟩ v)))
  have HY := hide hY
  have HX := hide hX
  have H0 := hide h0
  have HR0 := hide hr
  have c0 := h0.rr.cell
  clear hY hX h0 hr hcells
  refine callsIn_of_wp Try.func36 rfl trivial ?_ rfl
  simp only [Try.ntmps36, List.size_toArray, List.length_cons, List.length_nil, Nat.reduceAdd, Nat.reduceSub, Array.replicate_succ, Array.replicate_zero, List.push_toArray, List.append_toArray, List.nil_append, List.cons_append]
  gi_wp2_with fail
  refine ⟨trivial, (callsIn_wide.2 (HTK.out 0 W (Nat.zero_le _) H0.out)).mono ?_⟩
  rintro e1 W1 ⟨rfl, hW1⟩
  have HS1 : Hid (TtS w RW EB g c e (N - 0 - 1) (acc 0) W1 ∧ Rd W1) := by rw [hW1]; exact ⟨H0.out.take hR, hRd HR0.out (HKO.out _ _)⟩
  clear hW1 c0
  gi_wp2_with fail
  gi_loopw [3, 4] (fun it ok wr => ∃ k, k ≤ m ∧ it = .int .i64 (q k) ∧ ok = .bool true ∧ TtS w RW EB g c e (N - k - 1) (acc k) wr ∧ Rd wr) (fun _ _ wr => match wr.cell? ⟨RW, 0, none⟩ with | some (.slice _ k _) => k | _ => 0)
  case atStart => exact ⟨0, Nat.zero_le _, rfl, rfl, HS1.out⟩
  case round =>
    clear HS1
    obtain ⟨k, hk, rfl, rfl, hst, hrd⟩ := hrel
    have HST := hide hst
    by_cases hkm : k < m
    · obtain ⟨fn, tmps, assign, body, hy, hR2⟩ := HY.out k wr hkm hst hrd
      have HR2 := hide hR2
      clear hR2 hst hrd
      gi_wp2_with fail
      refine HR2.out.mono ?_
      rintro e2 W2 ⟨rfl, hs2, hr2⟩
      have c2 := hs2.rr.cell
      have HT2 := hide (HTK.out (k + 1) W2 hkm hs2)
      have HS2 := hide hs2
      have HRD2 := hide hr2
      clear hs2 hr2
      gi_wp2_with fail
      refine ⟨trivial, (callsIn_wide.2 HT2.out).mono ?_⟩
      rintro e3 W3 ⟨rfl, hW3⟩
      have HS3 : Hid (TtS w RW EB g c e (N - (k + 1) - 1) (acc (k + 1)) W3 ∧ Rd W3) := by rw [hW3]; exact ⟨HS2.out.take hR, hRd HRD2.out (HKO.out _ _)⟩
      clear hW3 c2
      gi_wp2_with fail
      go_roundw
      case rel => exact ⟨k + 1, hkm, rfl, rfl, HS3.out⟩
      case measure =>
        rw [HS3.out.1.box.cell, HST.out.box.cell]
        show N - (k + 1) - 1 < N - k - 1
        omega
    · obtain rfl : k = m := by omega
      obtain ⟨fn, tmps, assign, body, hy, hR2⟩ := HX.out wr hst hrd
      have HR2 := hide hR2
      clear hR2 hst hrd
      gi_wp2_with fail
      refine HR2.out.mono ?_
      rintro e2 W2 ⟨rfl, hx2⟩
      have HX2 := hide hx2
      clear hx2
      gi_wp2
      exact ⟨rfl, _, results_none rfl _ _ _, ⟨_, rfl⟩, HX2.out⟩
/-- What takeThrough leaves. -/
def TtP (w w' : World) (RW g c r : Nat) (A : List Int) (e : Ending) : Prop := ∃ u, e = .returned u ∧ IOw w' (w.heap.size + 3) u A ∧ Boxed w' RW 45 (.slice (some ⟨g, 0, none⟩) r c) ∧ (∀ k, k < w.heap.size → k ≠ RW → w'.heap[k]? = w.heap[k]?) ∧ w'.os = w.os ∧ w'.tape = w.tape ∧ w'.output = w.output ∧ w.heap.size + 3 ≤ w'.heap.size
def accq (q : Nat → Int) (k : Nat) : List Int := (List.range k).map q
theorem accq_succ (q : Nat → Int) (k : Nat) : accq q (k + 1) = accq q k ++ [q k] := by unfold accq; rw [List.range_succ, List.map_append]; rfl
theorem accq_len (q : Nat → Int) (k : Nat) : (accq q k).length = k := by unfold accq; simp

set_option maxRecDepth 1000000 in
set_option maxHeartbeats 4000000 in
theorem takeThrough_any (RW g c N m : Nat) (e : Int) (q : Nat → Int) (w : World) (hbx : Boxed w RW 45 (.slice (some ⟨g, 0, none⟩) N c)) (hg : g < w.heap.size) (hgR : g ≠ RW) (hNc : N ≤ c) (hN : N ≤ 100000) (hm : m < N)
    (hcells : ∀ k, k ≤ m → w.cell? ⟨g, N - k - 1, none⟩ = some (.int .i64 (q k))) (hqe : q m = e) (hqn : ∀ k, k < m → q k ≠ e) :
    Calls Try.prog 24 #[.pointer (some ⟨RW, 0, none⟩), .int .i64 e] w fun e' w' => TtP w w' RW g c (N - m - 1) (accq q (m + 1)) e' := by
  have hRl : RW < w.heap.size := hbx.lt
  have HBX := hide hbx
  have HCE := hide hcells
  have HQE := hide hqe
  have HQN := hide hqn
  obtain ⟨EB, hEB⟩ : ∃ B, w.heap.size = B := ⟨_, rfl⟩
  have HEB := hide hEB
  rw [hEB] at hg hRl
  obtain ⟨W3, hW3⟩ : ∃ W, ((w.alloc (.cells #[.int .i64 e] 3)).alloc (.cells #[.slice none 0 0] 22)).alloc (.cells #[.pointer (some ⟨RW, 0, none⟩)] 50) = W := ⟨_, rfl⟩
  have HS0 : Hid (TtS w RW EB g c e N [] W3) := by
    have a1 : (w.alloc (.cells #[.int .i64 e] 3)).heap.size = EB + 1 := by rw [World.size_alloc, hEB]
    have a2 : ((w.alloc (.cells #[.int .i64 e] 3)).alloc (.cells #[.slice none 0 0] 22)).heap.size = EB + 2 := by rw [World.size_alloc, a1]
    rw [← hW3]
    refine ⟨((hbx.alloc _).alloc _).alloc _, ⟨_, Boxed.alloc (a1 ▸ Boxed.new _ _ _) _, IOw.nil _ _⟩, Boxed.alloc (Boxed.alloc (hEB ▸ Boxed.new _ _ _) _) _, a2 ▸ Boxed.new _ _ _, fun k hk _ => ?_, rfl, rfl, rfl, by rw [World.size_alloc, a2]; omega⟩
    rw [Below.heap_alloc _ _ _ (by rw [a2]; omega), Below.heap_alloc _ _ _ (by rw [a1]; omega), Below.heap_alloc _ _ _ (by rw [hEB]; exact hk)]
  have HW3 := hide hW3
  have HRB := hide (rest_box RW ((w.alloc (.cells #[.int .i64 e] 3)).alloc (.cells #[.slice none 0 0] 22)))
  have a2 : ((w.alloc (.cells #[.int .i64 e] 3)).alloc (.cells #[.slice none 0 0] 22)).heap.size = EB + 2 := by rw [World.size_alloc, World.size_alloc, hEB]
  rw [hW3, a2] at HRB
  clear hbx hcells hqe hqn hW3 hEB a2
  refine (callsIn_wide (n := 4)).1 ?_
  refine callsIn_of_wp_marks Try.func24 rfl trivial ?_ rfl
  simp only [Try.ntmps24, List.size_toArray, List.length_cons, List.length_nil, Nat.reduceAdd, Nat.reduceSub, Array.replicate_succ, Array.replicate_zero, List.push_toArray, List.append_toArray, List.nil_append, List.cons_append]
  gi_wp2_with fail
  refine ⟨trivial, (callsIn_wide.2 HRB.out).mono ?_⟩
  rintro e1 W4 ⟨rfl, hW4⟩
  subst hW4
  rw [HEB.out]
  gi_wp2_with fail
  have HWZ : Hid (EB + 3 ≤ W4.heap.size) := HS0.out.sz
  refine wpIn_rangeFunc_brk rfl (by omega) (gf := 36) (lb := #[.pointer (some ⟨EB + 2, 0, none⟩)]) rfl trivial (enters_of Try.func36 (by kernel_rfl) rfl) (enc := fun k => .int .i64 (q k)) rfl m
    (fun k W => TtS w RW EB g c e (N - k) (accq q k) W) (fun k W => TtS w RW EB g c e (N - k - 1) (accq q k) W) (fun d W => d = .exit 0 ∧ TtS w RW EB g c e (N - m - 1) (accq q (m + 1)) W)
    (fun hl hk ho h => h.putObj (Nat.le_trans HWZ.out hl) hk ho) (fun hl hk ho h => h.putObj (Nat.le_trans HWZ.out hl) hk ho) (fun hl hk ho h => ⟨h.1, h.2.putObj (Nat.le_trans HWZ.out hl) hk ho⟩) (fun W o h => h.alloc o) HS0.out ?seq
    (fun k => { tmps := #[.pointer (some ⟨RW, 0, none⟩), .int .i64 e, undef, .pointer (some ⟨EB, 0, none⟩), .slice none 0 0, .pointer (some ⟨EB + 1, 0, none⟩), .int .i64 (q k), .pointer (some ⟨RW, 0, none⟩), .func (.func 36) #[] #[.pointer (some ⟨EB + 2, 0, none⟩)], .int .i64 (q k), undef, undef, undef, undef, undef, undef, undef, undef], defers := [] }) ?assign ?body ?last ?stop
  case seq =>
    intro l Rd Rx W hz hRd hY hX h0 hr
    exact rest1_brk (4 - 1) (by omega) l w RW EB g c N m e q hRl hg hgR hNc hN hm HCE.out (accq q) Rd Rx W (fun h k => hRd h (k.from _)) hY hX h0 hr
  case assign =>
    intro l k W K hK
    gi_wp2
    exact hK
  case body =>
    intro l k W hk h1
    have hs := h1.alloc (.cells #[.int .i64 (q k)] 3)
    obtain ⟨u, hu1, hu2⟩ := hs.tk
    obtain ⟨u0, hu01, hu02⟩ := h1.tk
    obtain rfl : u0 = u := by
      have e1 := (hu01.alloc (.cells #[.int .i64 (q k)] 3)).cell
      have e2 := hu1.cell
      rw [e1] at e2
      exact Option.some.inj e2
    have t0 := hu01.cell
    have HNEW : Hid ((W.alloc (.cells #[.int .i64 (q k)] 3)).cell? ⟨W.heap.size, 0, none⟩ = some (.int .i64 (q k))) := (Blk.new _ _ _).cell 0
    have HU2 := hide hu2
    have HSA := hide hs
    have HBS : Hid (EB + 3 ≤ (W.alloc (.cells #[.int .i64 (q k)] 3)).heap.size) := hs.sz
    have HKA : Hid (KeepsOthers W (W.alloc (.cells #[.int .i64 (q k)] 3))) := KeepsOthers.alloc _ _
    have HEN := hide h1.en
    have hLen : (accq q k).length ≤ 10000000 := by rw [accq_len]; omega
    have HAS := hide (accq_succ q k)
    obtain ⟨x, hx⟩ : ∃ x, q k = x := ⟨_, rfl⟩
    rw [hx] at HNEW HU2 HSA HBS HKA HAS ⊢
    have HX := hide hx
    have tx : (x == e) = false := by rw [beq_eq_false_iff_ne, ← HX.out]; exact HQN.out k hk
    obtain ⟨au, cu, hau⟩ : ∃ a c, u0 = .slice a (accq q k).length c := by
      rcases hu02.2 with ⟨y1, y2⟩ | ⟨g5, c5, cur, y1, _⟩
      · exact ⟨none, 0, by rw [y1, y2]⟩
      · exact ⟨_, c5, y1⟩
    subst hau
    clear hs hu1 hu2 hu01 hu02 h1 hx
    have HGO : Hid (∀ v' w', Hid (IOw w' (EB + 3) v' (accq q k ++ [x])) → Hid ((W.alloc (.cells #[.int .i64 x] 3)).grownBy w' (Value.slice au (accq q k).length cu).ownBlock) → ∃ g' c', v' = .slice (some ⟨g', 0, none⟩) ((accq q k).length + 1) c' ∧ (∃ u9, w'.cell? ⟨EB + 1, 0, none⟩ = some u9) ∧ w'.frozen? ⟨EB + 1, 0, none⟩ = false ∧ (w'.setCell ⟨EB + 1, 0, none⟩ v').cell? ⟨EB, 0, none⟩ = some (.int .i64 e) ∧ KeepsOthers W (w'.setCell ⟨EB + 1, 0, none⟩ v') ∧ TtS w RW EB g c e (N - k - 1) (accq q k ++ [x]) (w'.setCell ⟨EB + 1, 0, none⟩ v')) := by
     intro v' w' ho' hg'
     have HFIN := hide (HSA.out.app hRl HU2.out ho'.out hg'.out)
     have hlow : ∀ j, j < EB + 3 → w'.heap[j]? = (W.alloc (.cells #[.int .i64 x] 3)).heap[j]? := fun j hj => hg'.out.block j (by have := HBS.out; omega) (fun y => by have := (World.ownsRow.lt HU2.out j y.symm).1; omega)
     obtain ⟨u9, hu91, _⟩ := HSA.out.tk
     have hbT : Boxed w' (EB + 1) 22 u9 := (hlow _ (by omega)).trans hu91
     have hbE : Boxed w' EB 3 (.int .i64 e) := (hlow _ (by omega)).trans HSA.out.en
     have b0 := hbT.cell
     have b1 := hbT.frozen
     have hbE2 : Boxed (w'.setCell ⟨EB + 1, 0, none⟩ v') EB 3 (.int .i64 e) := (Below.heap_setCell _ _ _ _ (by show EB ≠ EB + 1; omega)).trans hbE
     have b2 := hbE2.cell
     have HKK : Hid (KeepsOthers W (w'.setCell ⟨EB + 1, 0, none⟩ v')) := (HKA.out.trans (KeepsOthers.of_grownBy hg'.out (fun j o y ho => by
       rcases HU2.out.2 with ⟨h1, _⟩ | ⟨g1, c1, cur, hv, _, hgc, _⟩
       · rw [h1] at y; cases y
       · rw [hv] at y; cases y
         rw [hgc] at ho; cases ho; rfl))).trans (KeepsOthers.setCell _ _ _)
     obtain ⟨g', c', hv'⟩ : ∃ g c, v' = .slice (some ⟨g, 0, none⟩) (accq q k ++ [x]).length c := by
       rcases ho'.out.2 with ⟨_, h0⟩ | ⟨g, c, cur, hv, _⟩
       · rw [List.length_append, List.length_singleton] at h0; omega
       · exact ⟨g, c, hv⟩
     exact ⟨g', c', by rw [hv', List.length_append, List.length_singleton], ⟨u9, b0⟩, b1, b2, HKK.out, HFIN.out⟩
    gi_wp2_with (gi_at_builtin; refine wpIn_appJ rfl (.tmp 10) (.tmp 12) rfl (EB + 3) (.slice au (accq q k).length cu) (accq q k) rfl HU2.out W.heap.size 1 x rfl HNEW.out hLen HBS.out ?_; intro v' w' ho' hg'; obtain ⟨g', c', hv', ⟨u9, b0⟩, b1, b2, hkk, hfin⟩ := HGO.out v' w' ho' hg'; subst hv'; have HKK := hide hkk; have HFIN := hide hfin; clear ho' hg' hkk hfin)
    exact ⟨HKK.out.from _, by have := HFIN.out; rw [← HAS.out, show N - k - 1 = N - (k + 1) by omega] at this; exact this⟩
  case last =>
    intro l W h1
    have hs := h1.alloc (.cells #[.int .i64 (q m)] 3)
    obtain ⟨u, hu1, hu2⟩ := hs.tk
    obtain ⟨u0, hu01, hu02⟩ := h1.tk
    obtain rfl : u0 = u := by
      have e1 := (hu01.alloc (.cells #[.int .i64 (q m)] 3)).cell
      have e2 := hu1.cell
      rw [e1] at e2
      exact Option.some.inj e2
    have t0 := hu01.cell
    have HNEW : Hid ((W.alloc (.cells #[.int .i64 (q m)] 3)).cell? ⟨W.heap.size, 0, none⟩ = some (.int .i64 (q m))) := (Blk.new _ _ _).cell 0
    have HU2 := hide hu2
    have HSA := hide hs
    have HBS : Hid (EB + 3 ≤ (W.alloc (.cells #[.int .i64 (q m)] 3)).heap.size) := hs.sz
    have HKA : Hid (KeepsOthers W (W.alloc (.cells #[.int .i64 (q m)] 3))) := KeepsOthers.alloc _ _
    have HEN := hide h1.en
    have hLen : (accq q m).length ≤ 10000000 := by rw [accq_len]; omega
    have HAS := hide (accq_succ q m)
    obtain ⟨x, hx⟩ : ∃ x, q m = x := ⟨_, rfl⟩
    rw [hx] at HNEW HU2 HSA HBS HKA HAS ⊢
    have HX := hide hx
    have tx : (x == e) = true := by rw [beq_iff_eq, ← HX.out]; exact HQE.out
    obtain ⟨au, cu, hau⟩ : ∃ a c, u0 = .slice a (accq q m).length c := by
      rcases hu02.2 with ⟨y1, y2⟩ | ⟨g5, c5, cur, y1, _⟩
      · exact ⟨none, 0, by rw [y1, y2]⟩
      · exact ⟨_, c5, y1⟩
    subst hau
    clear hs hu1 hu2 hu01 hu02 h1 hx
    have HGO : Hid (∀ v' w', Hid (IOw w' (EB + 3) v' (accq q m ++ [x])) → Hid ((W.alloc (.cells #[.int .i64 x] 3)).grownBy w' (Value.slice au (accq q m).length cu).ownBlock) → ∃ g' c', v' = .slice (some ⟨g', 0, none⟩) ((accq q m).length + 1) c' ∧ (∃ u9, w'.cell? ⟨EB + 1, 0, none⟩ = some u9) ∧ w'.frozen? ⟨EB + 1, 0, none⟩ = false ∧ (w'.setCell ⟨EB + 1, 0, none⟩ v').cell? ⟨EB, 0, none⟩ = some (.int .i64 e) ∧ KeepsOthers W (w'.setCell ⟨EB + 1, 0, none⟩ v') ∧ TtS w RW EB g c e (N - m - 1) (accq q m ++ [x]) (w'.setCell ⟨EB + 1, 0, none⟩ v')) := by
     intro v' w' ho' hg'
     have HFIN := hide (HSA.out.app hRl HU2.out ho'.out hg'.out)
     have hlow : ∀ j, j < EB + 3 → w'.heap[j]? = (W.alloc (.cells #[.int .i64 x] 3)).heap[j]? := fun j hj => hg'.out.block j (by have := HBS.out; omega) (fun y => by have := (World.ownsRow.lt HU2.out j y.symm).1; omega)
     obtain ⟨u9, hu91, _⟩ := HSA.out.tk
     have hbT : Boxed w' (EB + 1) 22 u9 := (hlow _ (by omega)).trans hu91
     have hbE : Boxed w' EB 3 (.int .i64 e) := (hlow _ (by omega)).trans HSA.out.en
     have b0 := hbT.cell
     have b1 := hbT.frozen
     have hbE2 : Boxed (w'.setCell ⟨EB + 1, 0, none⟩ v') EB 3 (.int .i64 e) := (Below.heap_setCell _ _ _ _ (by show EB ≠ EB + 1; omega)).trans hbE
     have b2 := hbE2.cell
     have HKK : Hid (KeepsOthers W (w'.setCell ⟨EB + 1, 0, none⟩ v')) := (HKA.out.trans (KeepsOthers.of_grownBy hg'.out (fun j o y ho => by
       rcases HU2.out.2 with ⟨h1, _⟩ | ⟨g1, c1, cur, hv, _, hgc, _⟩
       · rw [h1] at y; cases y
       · rw [hv] at y; cases y
         rw [hgc] at ho; cases ho; rfl))).trans (KeepsOthers.setCell _ _ _)
     obtain ⟨g', c', hv'⟩ : ∃ g c, v' = .slice (some ⟨g, 0, none⟩) (accq q m ++ [x]).length c := by
       rcases ho'.out.2 with ⟨_, h0⟩ | ⟨g, c, cur, hv, _⟩
       · rw [List.length_append, List.length_singleton] at h0; omega
       · exact ⟨g, c, hv⟩
     exact ⟨g', c', by rw [hv', List.length_append, List.length_singleton], ⟨u9, b0⟩, b1, b2, HKK.out, HFIN.out⟩
    gi_wp2_with (gi_at_builtin; refine wpIn_appJ rfl (.tmp 10) (.tmp 12) rfl (EB + 3) (.slice au (accq q m).length cu) (accq q m) rfl HU2.out W.heap.size 1 x rfl HNEW.out hLen HBS.out ?_; intro v' w' ho' hg'; obtain ⟨g', c', hv', ⟨u9, b0⟩, b1, b2, hkk, hfin⟩ := HGO.out v' w' ho' hg'; subst hv'; have HKK := hide hkk; have HFIN := hide hfin; clear ho' hg' hkk hfin)
    exact ⟨HKK.out.from _, rfl, by have := HFIN.out; rw [← HAS.out] at this; exact this⟩
  case stop =>
    rintro D d W hD ⟨rfl, hS⟩ hK
    have HS := hide hS
    have HKD := hide hK
    obtain ⟨u, hu1, hu2⟩ := hS.tk
    have t0 := hu1.cell
    have HU := hide hu2
    clear hS hK hu1 hu2
    gi_wp2
    refine ⟨by simp, .inl ⟨_, _, rfl, run_takeDeferred HKD.out, ?_⟩⟩
    refine ⟨_, results_tmp rfl _ _ _, ?_⟩
    have hQ := HS.out.putObj (o' := .deferred none) (Nat.le_trans HWZ.out hD) HKD.out rfl
    refine ⟨_, rfl, ?_, hQ.box, fun k hk hr => ?_, hQ.os, hQ.tape, hQ.output, ?_⟩
    · rw [HEB.out]; exact ownsRow_putObj HU.out _ HKD.out rfl
    · exact hQ.old k (by rw [← HEB.out]; exact hk) hr
    · rw [HEB.out]; exact hQ.sz
end Go.Proofs.Ytohilccbfdienaa

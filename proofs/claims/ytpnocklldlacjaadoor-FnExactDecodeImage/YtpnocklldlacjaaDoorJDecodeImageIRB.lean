/-
  The walk of impl's reader: tables.
  What impl's reader of tables leaves.
  The walks of errors.Is at one sentinel.
  The image's writer: a box that holds a row of bytes; appends onto it.
-/
import Derived.Test.YtpnocklldlacjaaDoorJDecodeImageIRH
import Derived.Test.YtpnocklldlacjaaDoorJDecodeImageIRX
import Derived.Test.YtpnocklldlacjaaDoorJDecodeImageK
import Derived.Deep.RegionWith
import Derived.Test.YtpnocklldlacjaaDoorJDecodeImageT
import Derived.WalkKit
import Derived.LaidEql
import Derived.Stop.Asserts
import Derived.RowKitTokens
import Derived.Test.YtpnocklldlacjaaDoorJDecodeImageIMD
import Derived.Test.YtpnocklldlacjaaDoorJDecodeImageSTC
import Derived.Laws.AppendOwn
namespace Go.Proofs.YtpnocklldlacjaaDoor
open Go.RowKit

set_option maxHeartbeats 1000000 in
theorem isSide_rd (n : Int) (w : World) : Calls Tryd.prog 30 #[.int .i64 n] w fun e w' => e = .returned (.bool (decide (1 ≤ n) && decide (n ≤ 40))) ∧ w' = w := by
  by_cases q : 1 ≤ n
  · have t : decide (1 ≤ n) = true := decide_eq_true q
    rw [t, Bool.true_and]
    go_enter Tryd.func30, Tryd.ntmps30
    go_wp2
    go_ret
    exact ⟨rfl, rfl⟩
  · have t : decide (1 ≤ n) = false := decide_eq_false q
    rw [t, Bool.false_and]
    go_enter Tryd.func30, Tryd.ntmps30
    go_wp2
    go_ret
    exact ⟨rfl, rfl⟩
/-- No image at all. -/
def NoIm (s : ByteArray) : Prop := diF s = ⟨0, 0, [], [], []⟩ ∧ diC s = 9
/-- The sign of an image. -/
def sgn : ByteArray := ⟨#[87, 72, 76, 49]⟩
theorem no_sign {s : ByteArray} (h : (rb (fb s) s.size (0, false) 4).1 ≠ sgn) : NoIm s := by
  refine di_no fun ⟨d, hd, hs⟩ => h ?_
  have hl : (im d).length = s.size := by rw [← hs, byt_size]
  have hlo := im_lo hd
  have h4 : 4 ≤ s.size := by
    rw [← hl]
    unfold im imB
    rw [List.length_append, List.length_append, List.length_append, imH_len]
    omega
  have hf : ∀ j, j < 4 → fb s j = [87, 72, 76, 49].getD j 0 := fun j hj => by
    have h1 := lies_byt hlo j (by omega)
    rw [hs, Nat.zero_add] at h1
    refine h1.trans ?_
    unfold im imB imH
    simp only [List.append_assoc]
    match j, hj with
    | 0, _ => rfl
    | 1, _ => rfl
    | 2, _ => rfl
    | 3, _ => rfl
  unfold rb
  rw [if_neg (by simp; omega)]
  show byt ((List.range 4).map fun j => fb s (0 + j)) = sgn
  have e : (List.range 4).map (fun j => fb s (0 + j)) = [fb s (0 + 0), fb s (0 + 1), fb s (0 + 2), fb s (0 + 3)] := rfl
  rw [e, Nat.zero_add, Nat.zero_add, Nat.zero_add, Nat.zero_add, hf 0 (by omega), hf 1 (by omega), hf 2 (by omega), hf 3 (by omega)]
  rfl
theorem no_side {s : ByteArray} {n1 n2 n3 : Nat} {s3 : Nat × Bool} (hH : rH (fb s) s.size = (n1, n2, n3, s3)) (h : ¬ (1 ≤ n1 ∧ n1 ≤ 40 ∧ 1 ≤ n2 ∧ n2 ≤ 40 ∧ n3 ≤ 30)) : NoIm s := by
  refine di_no fun ⟨d, hd, hs⟩ => h ?_
  have hr := di_read hd hs
  have w0 := hd.w0; have w1 := hd.w1; have h0 := hd.h0; have h1 := hd.h1; have t1 := hd.tg.len
  have hl : (im d).length = s.size := by rw [← hs, byt_size]
  have hh : rH (fb s) s.size = (d.w.toNat, d.h.toNat, d.targets.length, (10, false)) := by
    have hli := lies_byt (im_lo hd)
    rw [hs] at hli
    refine rH_ok hd ?_ ?_
    · rw [← hl]
      unfold im imB
      rw [List.length_append, List.length_append, List.length_append, imH_len]
      omega
    · unfold im imB at hli
      exact hli.left.left.left
  rw [hH] at hh
  injection hh with e1 e2
  injection e2 with e2 e3
  injection e3 with e3 e4
  omega
theorem rTs_bad {f : Nat → Nat} {N : Nat} {st : Nat × Bool} (h : st.2 = true) : ∀ k, (rTs f N st k).2.2 = true
  | 0 => h
  | k + 1 => by
    show (rb f N _ _).2.2 = true
    unfold rb
    split
    · rfl
    · rename_i hx
      exfalso
      apply hx
      left
      have ih := rTs_bad (f := f) (N := N) h k
      have e : ∀ s n, s.2 = true → (rn f N s n).2.2 = true := fun s n hs => by unfold rn; rw [if_pos (.inl hs)]
      exact e _ _ (e _ _ (e _ _ ih))
theorem no_bad {s : ByteArray} {n1 n2 n3 : Nat} {s3 : Nat × Bool} (h4 : 4 ≤ s.size) (hH : rH (fb s) s.size = (n1, n2, n3, s3)) (h : s3.2 = true) : NoIm s := by
  refine di_none ?_
  show rI (fb s) s.size = none
  unfold rI
  rw [if_neg (by omega), hH]
  split
  · rfl
  · simp only
    have hb := rTs_bad (f := fb s) (N := s.size) h n3
    have hr := rRs_bad (f := fb s) (N := s.size) (C := n1 * n2) (s4 := (rTs (fb s) s.size s3 n3).2) hb (k := 0) rfl n3
    rw [Nat.zero_add] at hr
    rw [hr]
    simp only [hb, if_true]
end Go.Proofs.YtpnocklldlacjaaDoor

namespace Go.Proofs.YtpnocklldlacjaaDoor
open Go.RowKit

/-- Tables that were read, with the reader behind them. -/
structure RtO (w0 : World) (g b o c : Nat) (a : Addr) (s : ByteArray) (w : World) (d : Tb) (vT vD vH : Value) (st : Nat × Bool) : Prop where
  rz : Rz w g b o c a s st
  wr : Wrs [g] w0 w
  no : st.2 = true → NoIm s
  yes : st.2 = false → rI (fb s) s.size = some d
  own : ∃ B LT LH LD, w0.heap.size ≤ B ∧ TS w B vT vH vD LT LH LD ∧ Els w B (nbl LT) ∧ Els w B (ibl LH ++ ibl LD) ∧ d.targets = LT.map (·.1) ∧ d.dist = LD.map (·.1) ∧ d.hop = LH.map (·.1) ∧ LT.length ≤ 30 ∧ LH.length ≤ 30 ∧ LD.length ≤ 30 ∧ (∀ p ∈ LT, p.1.name.size ≤ 256 ∧ 0 ≤ p.1.kind ∧ p.1.kind < 65536 ∧ 0 ≤ p.1.cell ∧ p.1.cell < 65536) ∧ (∀ p ∈ LH, p.1.length ≤ 1600) ∧ (∀ p ∈ LD, p.1.length ≤ 1600)
end Go.Proofs.YtpnocklldlacjaaDoor

namespace Go.Proofs.YtpnocklldlacjaaDoor
open Go.RowKit Go.Extern.Stop Go.Stop Go.Extern

theorem Tryd.isTypeOf (v : Value) (w : World) : (Extern.ReflectliteType.typeOf #[.iface 136 v]).run Tryd.prog w = .ok (.iface 114 (.agg #[.pointer (some ⟨5, 136, none⟩)])) w := by kernel_rfl
/-- What Comparable runs. -/
def cmpF : Array Value → Sem Value := Extern.ReflectliteType.method fun t => do Go.Extern.Rtype.noPackHeld "Comparable" t; pure (.bool (← typeInfo t).comparable)
theorem Tryd.isComparable (w : World) : (cmpF #[.agg #[.pointer (some ⟨5, 136, none⟩)]]).run Tryd.prog w = .ok (.bool true) w := by kernel_rfl
theorem Tryd.isMethodComparable (v : Value) (w : World) : (Go.method 273 114 v "Comparable").run Tryd.prog w = .ok (113, v) w := by kernel_rfl
theorem Tryd.isComp : (Tryd.prog.info? 136).map (·.comparable) = some true := by kernel_rfl
theorem Tryd.isSize : (Tryd.prog.info? 161).map (·.size) = some 1 := by kernel_rfl

set_option maxHeartbeats 1000000 in
set_option maxRecDepth 1000000 in
theorem is_same (a : Addr) (w : World) :
    Calls Tryd.prog 46 #[.iface 136 (.pointer (some a)), .iface 136 (.pointer (some a))] w fun e w' => e = .returned (.bool true) ∧ w' = w := by
  obtain ⟨i, hi, hcmp⟩ := Option.map_eq_some_iff.1 Tryd.isComp
  obtain ⟨j, hj, hjs⟩ := Option.map_eq_some_iff.1 Tryd.isSize
  have h8 := @run_callFunc_extern Tryd.prog 73 _ Extern.ReflectliteType.typeOf Tryd.func73 (by kernel_rfl) (by kernel_rfl) (by kernel_rfl) (by kernel_rfl)
  have h32 := @run_callFunc_extern Tryd.prog 113 _ cmpF Tryd.func113 (by kernel_rfl) (by kernel_rfl) (by kernel_rfl) (by kernel_rfl)
  have tT := Tryd.isTypeOf
  have cT := Tryd.isComparable
  have mR := Tryd.isMethodComparable
  have heq := run_eql_iface_ptr_same (P := Tryd.prog) w a Tryd.underlying75 Tryd.underlying136 hi hcmp hj
  go_enter Tryd.func46, Tryd.ntmps46
  go_wp2
  refine wp_loop_rounds 1 ?_
  rw [rounds_succ]
  go_wp2
  go_ret
  exact ⟨rfl, rfl⟩

set_option maxHeartbeats 1000000 in
set_option maxRecDepth 1000000 in
theorem is_nilErr (b : Addr) (w : World) :
    Calls Tryd.prog 46 #[.nilIface, .iface 136 (.pointer (some b))] w fun e w' => e = .returned (.bool false) ∧ w' = w := by
  have hn := run_eql_iface_nil_left (P := Tryd.prog) w 136 (.pointer (some b)) Tryd.underlying75
  go_enter Tryd.func46, Tryd.ntmps46
  go_wp2
  go_ret
  exact ⟨rfl, rfl⟩
end Go.Proofs.YtpnocklldlacjaaDoor

namespace Go.Proofs.YtpnocklldlacjaaDoor
open Go.RowKit

/-- Below P all lies as it lay, and so do all blocks that are no rows of bytes and no writers. -/
structure Kp (P : Nat) (w V : World) : Prop where
  bel : Below P w V
  row : ∀ Z t cs, t ≠ 5 → t ≠ 59 → Blk w Z t cs → Blk V Z t cs
theorem Kp.refl (P : Nat) (w : World) : Kp P w w := ⟨Below.refl _ _, fun _ _ _ _ _ h => h⟩
theorem Kp.trans {P : Nat} {a b c : World} (h : Kp P a b) (k : Kp P b c) : Kp P a c := ⟨h.bel.trans k.bel, fun Z t cs h5 h6 q => k.row Z t cs h5 h6 (h.row Z t cs h5 h6 q)⟩
theorem Kp.alloc {P : Nat} {w V : World} (h : Kp P w V) (hP : P ≤ V.heap.size) (o : Obj) : Kp P w (V.alloc o) := ⟨h.bel.alloc hP o, fun Z t cs h5 h6 q => (h.row Z t cs h5 h6 q).alloc o⟩
theorem Kp.drew {P : Nat} {w V : World} (h : Kp P w V) : Kp P w V.drew := ⟨h.bel.drew, fun Z t cs h5 h6 q => h.row Z t cs h5 h6 q⟩
theorem Kp.all {P : Nat} {w V X : World} (h : Kp P w V) (hP : P ≤ V.heap.size) (k : Below V.heap.size V X) : Kp P w X := ⟨h.bel.trans (k.mono hP), fun Z t cs h5 h6 q => (h.row Z t cs h5 h6 q).below k⟩
theorem Kp.set {P B : Nat} {w V : World} {cs0 : Array Value} (h : Kp P w V) (hB : Blk V B 59 cs0) (hP : P ≤ B) (k : Nat) (v : Value) : Kp P w (V.setCell ⟨B, k, none⟩ v) :=
  ⟨h.bel.setCell hP v, fun Z t cs h5 h6 q => (h.row Z t cs h5 h6 q).other k v (fun e => by
    have h1 := h.row Z t cs h5 h6 q
    rw [e] at h1
    unfold Blk at h1 hB
    rw [hB] at h1
    injection h1 with h1
    injection h1 with _ h2
    exact h6 h2.symm)⟩
/-- A value that reads as a row of bytes: of the call's own, or full. -/
def ImV (w : World) (F : Nat) (v : Value) (l : List Nat) : Prop :=
  w.ownsRow F 5 1 v l.length (cv l) ∨ ∃ g, v = .slice (some ⟨g, 0, none⟩) l.length l.length ∧ ∀ j, j < l.length → w.cell? ⟨g, j, none⟩ = some (.int .u8 (l.getD j 0 : Nat))
/-- The writer's box. -/
def Im (w : World) (P F : Nat) (l : List Nat) : Prop := ∃ v, Blk w P 59 #[v] ∧ ImV w F v l
def ImO (w : World) (P F : Nat) (l : List Nat) : Prop := ∃ v, Blk w P 59 #[v] ∧ w.ownsRow F 5 1 v l.length (cv l)
theorem ImO.im {w : World} {P F : Nat} {l : List Nat} (h : ImO w P F l) : Im w P F l := by
  obtain ⟨v, h1, h2⟩ := h
  exact ⟨v, h1, .inl h2⟩
theorem ImV.below {w V : World} {F : Nat} {v : Value} {l : List Nat} (h : ImV w F v l) (hb : Below w.heap.size w V) : ImV V F v l := by
  rcases h with h | ⟨g, h1, h2⟩
  · exact .inl (kept_below h hb)
  · exact .inr ⟨g, h1, fun j hj => cell_kept (h2 j hj) hb⟩
theorem ImV.slice {w : World} {F : Nat} {v : Value} {l : List Nat} (h : ImV w F v l) (h0 : 0 < l.length) : ∃ g c, v = .slice (some ⟨g, 0, none⟩) l.length c := by
  rcases h with h | ⟨g, h1, _⟩
  · obtain ⟨g, c, h1, _⟩ := own_slice h h0
    exact ⟨g, c, h1⟩
  · exact ⟨g, _, h1⟩
theorem Im.below {w V : World} {P F : Nat} {l : List Nat} (h : Im w P F l) (hb : Below w.heap.size w V) : Im V P F l := by
  obtain ⟨v, h1, h2⟩ := h
  exact ⟨v, h1.below hb, h2.below hb⟩
theorem im_set {w : World} {P F : Nat} {l : List Nat} {v v0 : Value} (h : w.ownsRow F 5 1 v l.length (cv l)) (hP : P < F) (hb : Blk w P 59 #[v0]) : ImO (w.setCell ⟨P, 0, none⟩ v) P F l := by
  refine ⟨v, hb.set 0 v, h.kept (row := some P) ⟨rfl, rfl, rfl, by simp, fun k hk hne => Below.heap_setCell _ _ _ _ (fun e => hne (by rw [e]))⟩ (.inr fun e => ?_)⟩
  have := (h.lt P e).1
  omega
theorem Kp.app {P F : Nat} {w V X : World} (h : Kp P w V) (hP : P ≤ F) (hbs : ∀ b t cs, t ≠ 5 → Blk V b t cs → Blk X b t cs) (hbl : ∀ P, P ≤ F → Below P V X) : Kp P w X := ⟨h.bel.trans (hbl P hP), fun Z t cs h5 h6 q => hbs Z t cs h5 (h.row Z t cs h5 h6 q)⟩

/-- append of bytes onto it. -/
theorem run_app_im {w : World} {F : Nat} {v : Value} {xs : List Nat} (him : ImV w F v xs) (ty : TypeId) (g f c : Nat) (ys : List Nat)
    (hnews : ∀ j, j < ys.length → w.cell? ⟨g, f + j, none⟩ = some (.int .u8 (ys.getD j 0 : Nat))) (hys : 0 < ys.length) (hlen : xs.length + ys.length ≤ 100000000) (hbase : F ≤ w.heap.size) :
    ∃ v' w', (Builtin.append_ #[37, 37] ty #[v, .slice (some ⟨g, f, none⟩) ys.length c]).run Tryd.prog w = .ok v' w' ∧ w'.ownsRow F 5 1 v' (xs ++ ys).length (cv (xs ++ ys)) ∧ (∀ b t cs, t ≠ 5 → Blk w b t cs → Blk w' b t cs) ∧ (∀ P, P ≤ F → Below P w w') := by
  obtain ⟨i0, hi, hz0, hz1, hz2⟩ := info_parts Tryd.info5
  have key : ∀ (b o : Nat) (zs : List Nat), (∀ j, j < zs.length → w.cell? ⟨b, o + j, none⟩ = some (.int .u8 (zs.getD j 0 : Nat))) → ∀ j u, (cv zs)[j]? = some u → w.cell? ((⟨b, o, none⟩ : Addr).add j) = some u := fun b o zs hz j u hj => by
    have hjl : j < zs.length := by
      rcases Nat.lt_or_ge j zs.length with h | h
      · exact h
      · rw [List.getElem?_eq_none (by rw [cv_length]; exact h)] at hj; cases hj
    have e : (⟨b, o, none⟩ : Addr).add j = ⟨b, o + j, none⟩ := by unfold Addr.add; split <;> simp_all
    rw [e, hz j hjl, ← hj]
    simp [cv, List.getD, hjl]
  rcases him with hown | ⟨g0, rfl, hold⟩
  · obtain ⟨v', w', hr, h2, h3, _⟩ := run_append_own (P := Tryd.prog) w F 37 ty 5 i0 (.int .u8 0) 1 1 Tryd.underlying37 hi hz0 hz1 hz2 rfl (by decide) v xs.length (cv xs) hown ⟨g, f, none⟩ ys.length c (cv ys) (by rw [cv_length, Nat.mul_one]) (key g f ys hnews) (cv_one ys) (by unfold maxLen; omega) (by omega) hbase
    refine ⟨v', w', hr, ?_, fun b t cs ht hb => blk_app hb ht hown h3, fun P hP => (Below.refl _ w).grown h3 (by omega) (fun k hk => by have := (hown.lt k hk).1; omega)⟩
    rw [List.length_append, cv_append]
    exact h2
  · have hr := run_append_grow (P := Tryd.prog) w 37 ty 5 i0 (.int .u8 0) Tryd.underlying37 hi hz0 ⟨g0, 0, none⟩ xs.length xs.length (cv xs) (by rw [cv_length, hz1, Nat.mul_one]) (key g0 0 xs (fun j hj => by rw [Nat.zero_add]; exact hold j hj)) ⟨g, f, none⟩ ys.length c (cv ys) (by rw [cv_length, hz1, Nat.mul_one]) (key g f ys hnews) (by omega) (by omega) (growslice_fits (by omega) (by rw [hz2]; omega))
    have hbl : Below w.heap.size w (w.drew.alloc (.cells ((cv xs).toArray ++ (cv ys).toArray ++ Builtin.zeroCells (Value.int IntKind.u8 0).cells (grownCap w (xs.length + ys.length) xs.length 5 - (xs.length + ys.length))) 5)) := ⟨rfl, rfl, rfl, by simp, fun k hk => heap_alloc_old w.drew _ hk⟩
    refine ⟨_, _, hr, ?_, fun b t cs _ hb => hb.below hbl, fun P hP => hbl.mono (by omega)⟩
    have hge := grownCap_ge w (xs.length + ys.length) xs.length 5
    rw [List.length_append, cv_append]
    refine ⟨by simp [cv_length], .inr ⟨w.heap.size, _, _, rfl, hbase, heap_alloc_new w.drew _, hge, grownCap_le_maxLen w _ _ 5 (by unfold maxLen; omega), ?_, ?_⟩⟩
    · simp only [Array.size_append, List.size_toArray, size_zeroCells, cv_length]
      have : (Value.int IntKind.u8 0).cells.size = 1 := rfl
      rw [this]
      omega
    · simp only [Array.toList_append, List.append_assoc]
      rw [← List.append_assoc]
      have : (xs.length + ys.length) * 1 = (cv xs ++ cv ys).length := by rw [List.length_append, cv_length, cv_length, Nat.mul_one]
      rw [this]
      exact List.take_left

/-- .. as one step of a region that draws. -/
theorem step_app_im {ops : Array Oper} {o : Oper} {a : Act} {w : World} {K : Act → World → Prop} {Q : Exit → Act → World → Prop} {E : Prop} (hgd : o.guard = none) (s x : Operand)
    (ho : o.op = .call { callee := .builtin .append, args := #[s, x], argTypes := #[37, 37] }) (F : Nat) (v : Value) (xs : List Nat) (hs : a.eval s = v) (him : ImV w F v xs)
    (g f c : Nat) (ys : List Nat) (hx : a.eval x = .slice (some ⟨g, f, none⟩) ys.length c) (hnews : ∀ j, j < ys.length → w.cell? ⟨g, f + j, none⟩ = some (.int .u8 (ys.getD j 0 : Nat))) (hys : 0 < ys.length) (hlen : xs.length + ys.length ≤ 100000000) (hbase : F ≤ w.heap.size)
    (h : ∀ v' w' l, Hid (l = xs ++ ys) → w'.ownsRow F 5 1 v' l.length (cv l) → (∀ b t cs, t ≠ 5 → Blk w b t cs → Blk w' b t cs) → (∀ P, P ≤ F → Below P w w') → K (a.put o.dst v') w') :
    if Region.wanted o (yielded ops a.tmps) = true then Oper.wp Tryd.prog o a w K Q else E := by
  have hw : Region.wanted o (yielded ops a.tmps) = true := by simp [Region.wanted, hgd]
  rw [if_pos hw]
  obtain ⟨v', w', hr, h1, h2, h3⟩ := run_app_im him o.type g f c ys hnews hys hlen hbase
  unfold Oper.wp execOp
  simp only [ho, resolve, invoke, builtin, Sem.run_bind, Sem.run_pure, Result.andThen_ok, List.map_toArray, List.map_cons, List.map_nil, hs, hx, hr]
  exact h v' w' (xs ++ ys) rfl h1 h2 h3
/-- .. in a region that does not. -/
theorem wp_app_im {ops : Array Oper} {rest : List Oper} {o : Oper} {a : Act} {Q : Exit → Act → World → Prop} {w : World} (hgd : o.guard = none) (s x : Operand)
    (ho : o.op = .call { callee := .builtin .append, args := #[s, x], argTypes := #[37, 37] }) (F : Nat) (v : Value) (xs : List Nat) (hs : a.eval s = v) (him : ImV w F v xs)
    (g f c : Nat) (ys : List Nat) (hx : a.eval x = .slice (some ⟨g, f, none⟩) ys.length c) (hnews : ∀ j, j < ys.length → w.cell? ⟨g, f + j, none⟩ = some (.int .u8 (ys.getD j 0 : Nat))) (hys : 0 < ys.length) (hlen : xs.length + ys.length ≤ 100000000) (hbase : F ≤ w.heap.size)
    (h : ∀ v' w' l, Hid (l = xs ++ ys) → w'.ownsRow F 5 1 v' l.length (cv l) → (∀ b t cs, t ≠ 5 → Blk w b t cs → Blk w' b t cs) → (∀ P, P ≤ F → Below P w w') → wpList Tryd.prog ops Q rest (a.put o.dst v') w') : wpList Tryd.prog ops Q (o :: rest) a w := by
  obtain ⟨v', w', hr, h1, h2, h3⟩ := run_app_im him o.type g f c ys hnews hys hlen hbase
  refine wpList_plain hgd fun K hK => ?_
  unfold Oper.wp execOp
  simp only [ho, resolve, invoke, builtin, Sem.run_bind, Sem.run_pure, Result.andThen_ok, List.map_toArray, List.map_cons, List.map_nil, hs, hx, hr]
  exact hK _ _ (h v' w' (xs ++ ys) rfl h1 h2 h3)
end Go.Proofs.YtpnocklldlacjaaDoor

/-
  append of numbers onto a row of the call's own.
  Rows and boxes told apart by their types.
  Four rows of numbers of the call's own, and what appends and writes leave of them.
-/
import Derived.Test.YtijdlbanfdhfnaaGreatDoorJDnT
import Derived.Test.YtijdlbanfdhfnaaGreatDoorJDnDc2
import Derived.Maps.AppendAt
namespace Go.Proofs.YtijdlbanfdhfnaaGreatDoor
open Go.RowKit

/-- Numbers in cells. -/
def ci (l : List Int) : List Value := l.map fun n => Value.int .i64 n
theorem ci_length (l : List Int) : (ci l).length = l.length := by simp [ci]
theorem ci_append (a b : List Int) : ci (a ++ b) = ci a ++ ci b := by simp [ci]
theorem ci_one (l : List Int) : ∀ u ∈ ci l, u.oneCell' = true := by
  intro u hu
  obtain ⟨n, _, rfl⟩ := List.mem_map.1 hu
  rfl
theorem Tryz.info3 : (Tryz.prog.info? 3).map (fun i => (i.zero, i.size, i.bytes)) = some (some (.int .i64 0), 1, 8) := by kernel_rfl

theorem info_partsI {P : Program} {t : TypeId} {z : Value} {a b : Nat} (h : (P.info? t).map (fun i => (i.zero, i.size, i.bytes)) = some (some z, a, b)) : ∃ i, P.info? t = some i ∧ i.zero = some z ∧ i.size = a ∧ i.bytes = b := by
  cases hi : P.info? t with
  | none => rw [hi] at h; cases h
  | some i => rw [hi] at h; simp at h; exact ⟨i, rfl, h.1, h.2.1, h.2.2⟩
/-- append of numbers onto a row of the call's own. -/
theorem wp_app_i {ops : Array Oper} {rest : List Oper} {o : Oper} {a : Act} {Q : Exit → Act → World → Prop} {w : World} (hgd : o.guard = none) (s x : Operand)
    (ho : o.op = .call { callee := .builtin .append, args := #[s, x], argTypes := #[24, 24] }) (B : Nat) (v : Value) (xs : List Int) (hs : a.eval s = v) (hown : w.ownsRow B 3 1 v xs.length (ci xs))
    (g c : Nat) (ys : List Int) (hx : a.eval x = .slice (some ⟨g, 0, none⟩) ys.length c) (hnews : ∀ j, j < ys.length → w.cell? ⟨g, j, none⟩ = some (.int .i64 (ys.getD j 0))) (hlen : xs.length + ys.length ≤ 100000000) (hbase : B ≤ w.heap.size)
    (h : ∀ v' w' l, Hid (l = xs ++ ys) → w'.ownsRow B 3 1 v' l.length (ci l) → w.grownBy w' v.ownBlock → wpList Tryz.prog ops Q rest (a.put o.dst v') w') : wpList Tryz.prog ops Q (o :: rest) a w := by
  obtain ⟨i0, hi, hz0, hz1, hz2⟩ := info_partsI Tryz.info3
  refine wpList_append_own _ hgd s x 24 ho B 3 i0 (.int .i64 0) 1 8 Tryz.underlying24 hi hz0 hz1 hz2 rfl (by decide) v xs.length (ci xs) hs hown ⟨g, 0, none⟩ ys.length c (ci ys) hx (by rw [ci_length, Nat.mul_one]) (fun j u hj => ?_) (ci_one ys) (by unfold maxLen; omega) (by omega) hbase (fun v' w' h1 h2 _ => ?_)
  · have hjl : j < ys.length := by
      rcases Nat.lt_or_ge j ys.length with h | h
      · exact h
      · rw [List.getElem?_eq_none (by rw [ci_length]; exact h)] at hj; cases hj
    have e : (⟨g, 0, none⟩ : Addr).add j = ⟨g, 0 + j, none⟩ := by unfold Addr.add; split <;> simp_all
    rw [e, Nat.zero_add, hnews j hjl, ← hj]
    simp [ci, List.getD, hjl]
  · refine h v' w' (xs ++ ys) rfl ?_ h2
    rw [List.length_append, ci_append]
    exact h1
theorem app_below_i {B : Nat} {w0 w w' : World} {v : Value} {n : Nat} {xs : List Value} (h : Below B w0 w) (hown : w.ownsRow B 3 1 v n xs) (hB : B ≤ w.heap.size) (hg : w.grownBy w' v.ownBlock) : Below B w0 w' :=
  h.grown hg hB (fun k hk => (hown.lt k hk).1)
theorem kept_i {w w' : World} {B : Nat} {v : Value} {n : Nat} {xs : List Value} (h : w.ownsRow B 3 1 v n xs) (hb : Below w.heap.size w w') : w'.ownsRow B 3 1 v n xs :=
  h.kept (row := none) ⟨hb.os, hb.tape, hb.output, hb.size, fun k hk _ => hb.block k hk⟩ (by cases v.ownBlock <;> simp)
theorem own_is {w : World} {B : Nat} {v : Value} {l : List Int} (h : w.ownsRow B 3 1 v l.length (ci l)) : IS w v l := by
  rcases h.2 with ⟨hv, h0⟩ | ⟨g, c, cur, hv, hb, hg, _⟩
  · have e : l = [] := List.length_eq_zero_iff.1 h0
    subst e
    exact ⟨none, 0, 0, 0, hv, fun h => absurd h (Nat.not_lt_zero _), fun j hj => absurd hj (Nat.not_lt_zero _)⟩
  · refine ⟨some ⟨g, 0, none⟩, g, 0, c, hv, fun _ => rfl, fun j hj => ?_⟩
    rw [hv] at h
    rw [Nat.zero_add, h.cellAt j (by omega)]
    simp [ci, List.getD, hj]
theorem is_nil (w : World) (c : Nat) : IS w (.slice none 0 c) [] := ⟨none, 0, 0, c, rfl, fun h => absurd h (by decide), fun j hj => absurd hj (Nat.not_lt_zero _)⟩
theorem if_nil (w : World) (c : Nat) : IF w (.slice none 0 c) [] [] := ⟨none, 0, 0, c, rfl, fun h => absurd h (by decide), rfl, fun j hj => absurd hj (Nat.not_lt_zero _)⟩
end Go.Proofs.YtijdlbanfdhfnaaGreatDoor

namespace Go.Proofs.YtijdlbanfdhfnaaGreatDoor
open Go.RowKit

/-- A row of the call's own stays where its block stays. -/
theorem own_typed {w w' : World} {B e sz n : Nat} {v : Value} {xs : List Value} (h : w.ownsRow B e sz v n xs) (hk : ∀ g cur, Blk w g e cur → Blk w' g e cur) : w'.ownsRow B e sz v n xs := by
  refine ⟨h.1, ?_⟩
  rcases h.2 with hn | ⟨g, cap, cur, hv, hb, hgg, rest⟩
  · exact .inl hn
  · exact .inr ⟨g, cap, cur, hv, hb, hk g cur hgg, rest⟩
/-- Behind an append the blocks of other types are as they were. -/
theorem app_typed {w w' : World} {B b e sz n : Nat} {v : Value} {xs : List Value} {t : TypeId} {cs : Array Value} (h : Blk w b t cs) (ht : t ≠ e) (hown : w.ownsRow B e sz v n xs) (hg : w.grownBy w' v.ownBlock) : Blk w' b t cs := by
  refine (hg.block b h.lt (fun q => ht ?_)).trans h
  rcases hown.2 with ⟨rfl, _⟩ | ⟨g, cap, cur, rfl, _, hgg, _⟩
  · simp [Value.ownBlock] at q
  · simp only [Value.ownBlock, Option.some.injEq] at q
    subst q
    unfold Blk at h
    rw [h] at hgg
    injection hgg with h1
    injection h1 with _ h2
theorem set_typed {w : World} {M k g : Nat} {v : Value} {t T : TypeId} {cs cs0 : Array Value} (hM : Blk w M T cs0) (h : Blk w g t cs) (ht : t ≠ T) : Blk (w.setCell ⟨M, k, none⟩ v) g t cs :=
  h.other k v (fun e => by
    subst e
    unfold Blk at h hM
    rw [h] at hM
    injection hM with h1
    injection h1 with _ h2
    exact ht h2)
theorem wrs_new {bl : List Nat} {w w' : World} {M k : Nat} {v : Value} (h : Wrs bl w w') (hM : w.heap.size ≤ M) : Wrs bl w (w'.setCell ⟨M, k, none⟩ v) :=
  ⟨h.os, h.tape, h.output, by rw [World.size_setCell]; exact h.size, fun g hg hb => (Below.heap_setCell _ _ _ _ (by show g ≠ M; omega)).trans (h.blk g hg hb)⟩
theorem own_base {w : World} {B B' e sz n : Nat} {v : Value} {xs : List Value} (h : w.ownsRow B e sz v n xs) (hB : B' ≤ B) : w.ownsRow B' e sz v n xs := by
  refine ⟨h.1, ?_⟩
  rcases h.2 with h | ⟨g, cap, cur, h1, h2, h3⟩
  · exact .inl h
  · exact .inr ⟨g, cap, cur, h1, Nat.le_trans hB h2, h3⟩
theorem wrs_blk {w w' : World} {g k : Nat} {t : TypeId} {cs : Array Value} (hw : Wrs [g] w w') (h : Blk w k t cs) (hk : k ≠ g) : Blk w' k t cs := (hw.blk k h.lt (by simp; exact hk)).trans h
theorem wrs_far {bl : List Nat} {w0 w w' : World} {B e sz n : Nat} {v : Value} {xs : List Value} (h : Wrs bl w0 w) (hB : w0.heap.size ≤ B) (hown : w.ownsRow B e sz v n xs) (hg : w.grownBy w' v.ownBlock) : Wrs bl w0 w' := by
  have h1 : Below w0.heap.size w w' := (Below.refl _ w).grown hg h.size (fun k hk => by have := (hown.lt k hk).1; omega)
  exact ⟨h1.os.trans h.os, h1.tape.trans h.tape, h1.output.trans h.output, Nat.le_trans h.size h1.size, fun g hg hb => (h1.block g hg).trans (h.blk g hg hb)⟩
end Go.Proofs.YtijdlbanfdhfnaaGreatDoor

namespace Go.Proofs.YtijdlbanfdhfnaaGreatDoor
open Go.RowKit

theorem grown_set (W : World) (b i : Nat) (v : Value) : W.grownBy (W.setCell ⟨b, i, none⟩ v) (some b) :=
  ⟨rfl, rfl, rfl, by rw [World.size_setCell]; exact Nat.le_refl _, fun k _ hk => Below.heap_setCell _ _ _ _ (fun e => hk (by rw [e]))⟩
/-- A row of numbers of the call's own. -/
def Ow (W : World) (B : Nat) (v : Value) (L : List Int) : Prop := W.ownsRow B 3 1 v L.length (ci L)
/-- Two rows lie apart. -/
def Apt (v u : Value) : Prop := v.ownBlock = none ∨ v.ownBlock ≠ u.ownBlock
theorem Apt.symm {v u : Value} (h : Apt v u) : Apt u v := by
  unfold Apt at *
  cases hu : u.ownBlock with
  | none => exact .inl rfl
  | some x =>
    right
    rcases h with h | h
    · rw [h]; intro e; cases e
    · rw [hu] at h; exact fun e => h e.symm
theorem Apt.nil (u : Value) : Apt (.slice none 0 0) u := .inl rfl
/-- What is left: blocks below B, and those of other types outside A. -/
structure Kt (A : List Nat) (B : Nat) (W W' : World) : Prop where
  bl : Below B W W'
  ty : ∀ k t cs, k ∉ A → t ≠ 3 → Blk W k t cs → Blk W' k t cs
theorem Kt.of_below {A : List Nat} {B : Nat} {W W' : World} (h : Below W.heap.size W W') (hB : B ≤ W.heap.size) : Kt A B W W' :=
  ⟨⟨h.os, h.tape, h.output, h.size, fun k hk => h.block k (by omega)⟩, fun _ _ _ _ _ hb => hb.below h⟩
theorem Kt.grown {A : List Nat} {B : Nat} {W W' : World} {v : Value} {L : List Int} (h : Ow W B v L) (hg : W.grownBy W' v.ownBlock) (hB : B ≤ W.heap.size) : Kt A B W W' :=
  ⟨(Below.refl _ W).grown hg hB (fun k hk => (World.ownsRow.lt h k hk).1), fun _ _ _ _ ht hb => app_typed hb ht h hg⟩
theorem Kt.setA {A : List Nat} {B : Nat} {W : World} {G k : Nat} (v : Value) (hA : G ∈ A) (hG : B ≤ G) : Kt A B W (W.setCell ⟨G, k, none⟩ v) :=
  ⟨⟨rfl, rfl, rfl, by rw [World.size_setCell]; exact Nat.le_refl _, fun g hg => Below.heap_setCell _ _ _ _ (by show g ≠ G; omega)⟩, fun g _ _ hk _ hb => hb.other k v (fun e => hk (by first | (rw [e]; exact hA) | (rw [← e]; exact hA)))⟩
theorem Kt.set3 {A : List Nat} {B : Nat} {W : World} {G k : Nat} {cs0 : Array Value} (v : Value) (hM : Blk W G 3 cs0) (hG : B ≤ G) : Kt A B W (W.setCell ⟨G, k, none⟩ v) :=
  ⟨⟨rfl, rfl, rfl, by rw [World.size_setCell]; exact Nat.le_refl _, fun g hg => Below.heap_setCell _ _ _ _ (by show g ≠ G; omega)⟩, fun _ _ _ _ ht hb => set_typed hM hb ht⟩
theorem Ow.nil (W : World) (B : Nat) : Ow W B (.slice none 0 0) [] := World.ownsRow_nil _ _ _ _
theorem Ow.below {W W' : World} {B : Nat} {v : Value} {L : List Int} (h : Ow W B v L) (hb : Below W.heap.size W W') : Ow W' B v L := kept_i h hb
theorem Ow.apart {W W' : World} {B : Nat} {u v : Value} {L : List Int} (h : Ow W B u L) (hg : W.grownBy W' v.ownBlock) (ha : Apt u v) : Ow W' B u L := World.ownsRow.kept h hg ha
theorem Ow.lt {W : World} {B : Nat} {v : Value} {L : List Int} (h : Ow W B v L) : ∀ k, v.ownBlock = some k → B ≤ k ∧ k < W.heap.size := fun k hk => World.ownsRow.lt h k hk
theorem Apt.new {W : World} {B : Nat} {u v v' : Value} {L : List Int} (ha : Apt u v) (hu : Ow W B u L) (hv : v'.ownBlock = v.ownBlock ∨ v'.ownBlock = some W.heap.size) : Apt u v' := by
  unfold Apt at *
  rcases hv with hv | hv
  · rw [hv]; exact ha
  · right
    rw [hv]
    intro e
    have := (hu.lt _ e).2
    omega
/-- A cell of another type's block was written. -/
theorem Ow.other {W : World} {B G k : Nat} {v x : Value} {L : List Int} {T : TypeId} {cs : Array Value} (h : Ow W B v L) (hG : Blk W G T cs) (hT : T ≠ 3) : Ow (W.setCell ⟨G, k, none⟩ x) B v L :=
  own_typed h fun _ _ hb => set_typed hG hb (fun e => hT e.symm)
theorem Ow.slc {W : World} {B : Nat} {v : Value} {L : List Int} (h : Ow W B v L) : ∃ a c, v = .slice a L.length c ∧ (0 < L.length → ∃ g, a = some ⟨g, 0, none⟩) ∧ L.length ≤ c := by
  rcases h.2 with ⟨h1, h0⟩ | ⟨g, c, cur, h1, _, _, hn, _⟩
  · exact ⟨none, 0, by rw [h1, h0], fun h => absurd h (by omega), by omega⟩
  · exact ⟨_, c, h1, fun _ => ⟨g, rfl⟩, hn⟩
theorem Ow.rd {W : World} {B : Nat} {v : Value} {L : List Int} (h : Ow W B v L) : IS W v L := own_is h
/-- One number of such a row was written. -/
theorem Ow.set {W : World} {B g c i : Nat} {L : List Int} (h : Ow W B (.slice (some ⟨g, 0, none⟩) L.length c) L) (x : Int) : Ow (W.setCell ⟨g, i, none⟩ (.int .i64 x)) B (.slice (some ⟨g, 0, none⟩) L.length c) (L.set i x) := by
  rcases h.2 with ⟨h1, _⟩ | ⟨g', c', cur, h1, hb, hg, hn, hm, hs, ht⟩
  · cases h1
  · cases h1
    refine ⟨by rw [ci_length, Nat.mul_one], .inr ⟨g, c, cur.setIfInBounds i (.int .i64 x), by rw [List.length_set], hb, Blk.set hg i _, by rw [List.length_set]; exact hn, hm, by rw [Array.size_setIfInBounds]; exact hs, ?_⟩⟩
    rw [Nat.mul_one, List.length_set, Array.toList_setIfInBounds, List.take_set]
    rw [Nat.mul_one] at ht
    rw [ht]
    unfold ci
    rw [List.map_set]
theorem Ow.blk {W : World} {B g c : Nat} {L : List Int} (h : Ow W B (.slice (some ⟨g, 0, none⟩) L.length c) L) : B ≤ g ∧ ∃ cur, Blk W g 3 cur := by
  rcases h.2 with ⟨h1, _⟩ | ⟨g', c', cur, h1, hb, hg, _⟩
  · cases h1
  · cases h1; exact ⟨hb, cur, hg⟩
theorem Ow.blk' {W : World} {B g n c : Nat} {L : List Int} (h : Ow W B (.slice (some ⟨g, 0, none⟩) n c) L) : B ≤ g ∧ ∃ cur, Blk W g 3 cur := by
  rcases h.2 with ⟨h1, _⟩ | ⟨g', c', cur, h1, hb, hg, _⟩
  · cases h1
  · cases h1; exact ⟨hb, cur, hg⟩
theorem Ow.cell {W : World} {B g c i : Nat} {L : List Int} (h : Ow W B (.slice (some ⟨g, 0, none⟩) L.length c) L) (hi : i < L.length) : W.cell? ⟨g, i, none⟩ = some (.int .i64 (L.getD i 0)) := by
  rw [World.ownsRow.cellAt h i (by omega)]
  simp [ci, List.getD, hi]
/-- Four of them. -/
structure R4 (W : World) (B : Nat) (v1 v2 v3 v4 : Value) (L1 L2 L3 L4 : List Int) : Prop where
  o1 : Ow W B v1 L1
  o2 : Ow W B v2 L2
  o3 : Ow W B v3 L3
  o4 : Ow W B v4 L4
  a12 : Apt v1 v2
  a13 : Apt v1 v3
  a14 : Apt v1 v4
  a23 : Apt v2 v3
  a24 : Apt v2 v4
  a34 : Apt v3 v4
theorem R4.below {W W' : World} {B : Nat} {v1 v2 v3 v4 : Value} {L1 L2 L3 L4 : List Int} (h : R4 W B v1 v2 v3 v4 L1 L2 L3 L4) (hb : Below W.heap.size W W') : R4 W' B v1 v2 v3 v4 L1 L2 L3 L4 :=
  ⟨h.o1.below hb, h.o2.below hb, h.o3.below hb, h.o4.below hb, h.a12, h.a13, h.a14, h.a23, h.a24, h.a34⟩
theorem R4.other {W : World} {B G k : Nat} {v1 v2 v3 v4 x : Value} {L1 L2 L3 L4 : List Int} {T : TypeId} {cs : Array Value} (h : R4 W B v1 v2 v3 v4 L1 L2 L3 L4) (hG : Blk W G T cs) (hT : T ≠ 3) : R4 (W.setCell ⟨G, k, none⟩ x) B v1 v2 v3 v4 L1 L2 L3 L4 :=
  ⟨h.o1.other hG hT, h.o2.other hG hT, h.o3.other hG hT, h.o4.other hG hT, h.a12, h.a13, h.a14, h.a23, h.a24, h.a34⟩
/-- What is known of an append: the row, and its block. -/
structure Ap (W W' : World) (B : Nat) (v v' : Value) (L : List Int) : Prop where
  own : Ow W' B v' L
  gr : W.grownBy W' v.ownBlock
  at' : v'.ownBlock = v.ownBlock ∨ v'.ownBlock = some W.heap.size
theorem R4.app1 {W W' : World} {B : Nat} {v1 v2 v3 v4 v' : Value} {L1 L2 L3 L4 L : List Int} (h : R4 W B v1 v2 v3 v4 L1 L2 L3 L4) (a : Ap W W' B v1 v' L) : R4 W' B v' v2 v3 v4 L L2 L3 L4 :=
  ⟨a.own, h.o2.apart a.gr h.a12.symm, h.o3.apart a.gr h.a13.symm, h.o4.apart a.gr h.a14.symm, (h.a12.symm.new h.o2 a.at').symm, (h.a13.symm.new h.o3 a.at').symm, (h.a14.symm.new h.o4 a.at').symm, h.a23, h.a24, h.a34⟩
theorem R4.app2 {W W' : World} {B : Nat} {v1 v2 v3 v4 v' : Value} {L1 L2 L3 L4 L : List Int} (h : R4 W B v1 v2 v3 v4 L1 L2 L3 L4) (a : Ap W W' B v2 v' L) : R4 W' B v1 v' v3 v4 L1 L L3 L4 :=
  ⟨h.o1.apart a.gr h.a12, a.own, h.o3.apart a.gr h.a23.symm, h.o4.apart a.gr h.a24.symm, h.a12.new h.o1 a.at', h.a13, h.a14, (h.a23.symm.new h.o3 a.at').symm, (h.a24.symm.new h.o4 a.at').symm, h.a34⟩
theorem R4.app3 {W W' : World} {B : Nat} {v1 v2 v3 v4 v' : Value} {L1 L2 L3 L4 L : List Int} (h : R4 W B v1 v2 v3 v4 L1 L2 L3 L4) (a : Ap W W' B v3 v' L) : R4 W' B v1 v2 v' v4 L1 L2 L L4 :=
  ⟨h.o1.apart a.gr h.a13, h.o2.apart a.gr h.a23, a.own, h.o4.apart a.gr h.a34.symm, h.a12, h.a13.new h.o1 a.at', h.a14, h.a23.new h.o2 a.at', h.a24, (h.a34.symm.new h.o4 a.at').symm⟩
theorem R4.app4 {W W' : World} {B : Nat} {v1 v2 v3 v4 v' : Value} {L1 L2 L3 L4 L : List Int} (h : R4 W B v1 v2 v3 v4 L1 L2 L3 L4) (a : Ap W W' B v4 v' L) : R4 W' B v1 v2 v3 v' L1 L2 L3 L :=
  ⟨h.o1.apart a.gr h.a14, h.o2.apart a.gr h.a24, h.o3.apart a.gr h.a34, a.own, h.a12, h.a13, h.a14.new h.o1 a.at', h.a23, h.a24.new h.o2 a.at', h.a34.new h.o3 a.at'⟩
/-- One number of the first row was written. -/
theorem R4.set1 {W : World} {B g c i : Nat} {v2 v3 v4 : Value} {L1 L2 L3 L4 : List Int} (h : R4 W B (.slice (some ⟨g, 0, none⟩) L1.length c) v2 v3 v4 L1 L2 L3 L4) (x : Int) : R4 (W.setCell ⟨g, i, none⟩ (.int .i64 x)) B (.slice (some ⟨g, 0, none⟩) L1.length c) v2 v3 v4 (L1.set i x) L2 L3 L4 := by
  have hg : W.grownBy (W.setCell ⟨g, i, none⟩ (.int .i64 x)) (some g) := grown_set _ _ _ _
  have key : ∀ {v L}, Ow W B v L → Apt (.slice (some ⟨g, 0, none⟩) L1.length c) v → Ow (W.setCell ⟨g, i, none⟩ (.int .i64 x)) B v L := fun h1 h2 => World.ownsRow.kept h1 hg h2.symm
  exact ⟨h.o1.set x, key h.o2 h.a12, key h.o3 h.a13, key h.o4 h.a14, h.a12, h.a13, h.a14, h.a23, h.a24, h.a34⟩
/-- append of one number. -/
theorem wp_app1 {ops : Array Oper} {rest : List Oper} {o : Oper} {a : Act} {Q : Exit → Act → World → Prop} {w : World} (hgd : o.guard = none) (s x : Operand)
    (ho : o.op = .call { callee := .builtin .append, args := #[s, x], argTypes := #[24, 24] }) (B : Nat) (v : Value) (xs : List Int) (hs : a.eval s = v) (hown : Ow w B v xs)
    (g c : Nat) (y : Int) (hx : a.eval x = .slice (some ⟨g, 0, none⟩) 1 c) (hnew : w.cell? ⟨g, 0, none⟩ = some (.int .i64 y)) (hlen : xs.length ≤ 10000000) (hbase : B ≤ w.heap.size)
    (h : ∀ v' w', Ap w w' B v v' (xs ++ [y]) → wpList Tryz.prog ops Q rest (a.put o.dst v') w') : wpList Tryz.prog ops Q (o :: rest) a w := by
  obtain ⟨i0, hi, hz0, hz1, hz2⟩ := info_partsI Tryz.info3
  refine wpList_append_own_at _ hgd s x 24 ho B 3 i0 (.int .i64 0) 1 8 Tryz.underlying24 hi hz0 hz1 hz2 rfl (by decide) v xs.length (ci xs) hs hown ⟨g, 0, none⟩ 1 c (ci [y]) hx (ci_length [y]) (fun j u hj => ?_) (ci_one _) (by unfold maxLen; omega) (by omega) hbase (fun v' w' h1 h2 _ h4 => ?_)
  · have hj0 : j = 0 := by
      rcases Nat.lt_or_ge j 1 with h | h
      · omega
      · rw [List.getElem?_eq_none (by rw [ci_length]; exact h)] at hj; cases hj
    subst hj0
    have e : (⟨g, 0, none⟩ : Addr).add 0 = ⟨g, 0, none⟩ := by unfold Addr.add; split <;> simp_all
    rw [e, hnew]
    exact hj
  · refine h v' w' ⟨?_, h2, h4⟩
    unfold Ow
    rw [List.length_append, ci_append]
    exact h1
/-- Such a row as a result. -/
theorem Ow.fr {W : World} {B : Nat} {v : Value} {L : List Int} (h : Ow W B v L) : ∃ bl, IF W v L bl ∧ ∀ g ∈ bl, v.ownBlock = some g ∧ bl = [g] := by
  rcases h.2 with ⟨h1, h0⟩ | ⟨g, c, cur, h1, hb, hg, hn, _⟩
  · refine ⟨[], ⟨none, 0, 0, 0, by rw [h1, h0], fun h => absurd h (by omega), by rw [if_neg (by omega)], fun j hj => absurd hj (by omega)⟩, fun g hg => by cases hg⟩
  · subst h1
    refine ⟨if 0 < L.length then [g] else [], ⟨some ⟨g, 0, none⟩, g, 0, c, rfl, fun _ => rfl, rfl, fun j hj => ?_⟩, fun k hk => ?_⟩
    · rw [Nat.zero_add]
      exact ⟨h.cell hj, Blk.frozen hg j⟩
    · by_cases q : 0 < L.length
      · rw [if_pos q] at hk ⊢
        rw [List.mem_singleton.1 hk]
        exact ⟨rfl, rfl⟩
      · rw [if_neg q] at hk; cases hk
end Go.Proofs.YtijdlbanfdhfnaaGreatDoor

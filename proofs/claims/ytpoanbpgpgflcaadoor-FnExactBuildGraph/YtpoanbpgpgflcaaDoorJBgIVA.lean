/-
  The walks of slices.Values and of the function that it answers, at edges.
  Rows and boxes told apart by their types.
  Rows of loop.example/s02126/impl.edge of the call's own; appends onto them.
-/
import Derived.Test.YtpoanbpgpgflcaaDoorJBgKP
import Derived.Test.YtpoanbpgpgflcaaDoorJBgSRW
import Derived.Sort.QuietIn
import Derived.BigQuiet
import Derived.Test.YtpoanbpgpgflcaaDoorJBgMK
namespace Go.Proofs.YtpoanbpgpgflcaaDoor
open Go.RowKit Go.Shelf

attribute [local go_sem] Oper.semAt_some

set_option maxRecDepth 1000000 in
set_option maxHeartbeats 1000000 in
theorem values_any (a : Option Addr) (L c : Nat) (w : World) :
    Calls Tryd.prog 41 #[.slice a L c] w fun e w' => e = .returned (.func (.func 54) #[] #[.pointer (some ⟨w.heap.size, 0, none⟩)]) ∧ w' = w.alloc (.cells #[.slice a L c] 52) := by
  go_enter Tryd.func41, Tryd.ntmps41
  go_wp2
  go_ret
  exact ⟨rfl, rfl⟩

set_option maxRecDepth 1000000 in
set_option maxHeartbeats 4000000 in
theorem values1_in (n : Nat) (hn : 1 ≤ n) (l B1 D c : Nat) (S : List Ed) (a : Option Addr) (hm : S.length ≤ 1048576) (ha : 0 < S.length → a = some ⟨D, 0, none⟩) (J : Nat → World → Prop) (W : World) (hal : ∀ k W o, J k W → J k (W.alloc o))
    (hE : ∀ k W, J k W → ∀ j, j < S.length → EdC W D (j * 4) (S.getD j .nul))
    (hY : ∀ k W1, k < S.length → J k W1 → YieldAt Fence.wide (n - 1) Tryd.prog l #[edagg (S.getD k .nul)] W1 fun e W' => e = .returned (.bool true) ∧ J (k + 1) W')
    (hB1 : W.cell? ⟨B1, 0, none⟩ = some (.slice a S.length c)) (h0 : J 0 W) :
    CallsIn Fence.wide n Tryd.prog 54 #[.func (.yield l) #[] #[], .pointer (some ⟨B1, 0, none⟩)] W fun e W' => (∃ v, e = .returned v) ∧ J S.length W' := by
  have HAL := hide hal
  have HY := hide hY
  have H0 := hide h0
  have HE := hide hE
  clear hal hY h0 hE
  refine callsIn_of_wp Tryd.func54 rfl trivial ?_ rfl
  simp only [Tryd.ntmps54, List.size_toArray, List.length_cons, List.length_nil, Nat.reduceAdd, Nat.reduceSub, Array.replicate_succ, Array.replicate_zero, List.push_toArray, List.append_toArray, List.nil_append, List.cons_append]
  gi_wp2
  gi_loopw [7] (fun ix wr => ∃ k : Nat, ix = .int .i64 k ∧ k ≤ S.length ∧ Hid (J k wr)) (fun ix _ => S.length - (intOf ix).toNat)
  case atStart => exact ⟨0, rfl, Nat.zero_le _, H0⟩
  case round =>
    obtain ⟨k, rfl, hk, HJS⟩ := hrel
    clear hB1
    by_cases hlt : k < S.length
    · have hqi : (k : Int) < (S.length : Int) := by omega
      obtain rfl := ha (by omega)
      have hE1 := HE.out k wr HJS.out k hlt
      obtain ⟨x, hx⟩ : ∃ x, S.getD k .nul = x := ⟨_, rfl⟩
      rw [hx] at hE1
      have HX := hide hx
      have p0 : wr.cell? ⟨D, k * 4, none⟩ = some (.int .i64 x.f) := hE1.f
      have p1 : wr.cell? ⟨D, k * 4 + 1, none⟩ = some (.int .i64 x.t) := hE1.t
      have p2 : wr.cell? ⟨D, k * 4 + 2, none⟩ = some (.int .i64 x.d) := hE1.d
      have p3 : wr.cell? ⟨D, k * 4 + 3, none⟩ = some (.int .i64 x.c) := hE1.c
      obtain ⟨WA, hWA⟩ : ∃ W, wr.alloc (.cells #[.int .i64 x.f, .int .i64 x.t, .int .i64 x.d, .int .i64 x.c] 59) = W := ⟨_, rfl⟩
      have HJA : Hid (J k WA) := by rw [← hWA]; exact HAL.out k wr _ HJS.out
      have HWA := hide hWA
      clear hE1 hx hWA
      obtain ⟨fn, tmps, assign, body, hy, hR⟩ := HY.out k WA hlt HJA.out
      rw [HX.out] at hy
      unfold edagg at hy
      rw [← HWA.out] at hy
      gi_wp2_with fail
      rw [HWA.out]
      refine hR.mono ?_
      rintro e W3 ⟨rfl, hJ3⟩
      have HJ3 := hide hJ3
      clear hJ3 hy hR p0 p1 p2 p3
      gi_wp2
      go_roundw
      case rel => exact ⟨k + 1, by first | rfl | go_num, by omega, HJ3⟩
      case measure => simp [intOf]; omega
    · have hqi : ¬ (k : Int) < (S.length : Int) := by omega
      obtain rfl : k = S.length := by omega
      gi_wp2
      go_end0
      exact ⟨⟨_, rfl⟩, HJS.out⟩
end Go.Proofs.YtpoanbpgpgflcaaDoor

namespace Go.Proofs.YtpoanbpgpgflcaaDoor
open Go.RowKit

/-- A row of the call's own stays where its block stays. -/
theorem own_typed {w w' : World} {B e sz n : Nat} {v : Value} {xs : List Value} (h : w.ownsRow B e sz v n xs) (hk : ∀ g cur, Blk w g e cur → Blk w' g e cur) : w'.ownsRow B e sz v n xs := by
  refine ⟨h.1, ?_⟩
  rcases h.2 with hn | ⟨g, cap, cur, hv, hb, hgg, rest⟩
  · exact .inl hn
  · exact .inr ⟨g, cap, cur, hv, hb, hk g cur hgg, rest⟩
/-- Behind an append the blocks of other types are as they were. -/
theorem app_typed {w w' : World} {B b e sz n : Nat} {v : Value} {xs : List Value} {t : TypeId} {cs : Array Value} (h : Blk w b t cs) (ht : t ≠ e) (hown : w.ownsRow B e sz v n xs) (hg : w.grownBy w' v.ownBlock) : Blk w' b t cs := by
  refine (hg.block b h.lt (fun q => ht ?_)).trans h
  rcases hown.2 with ⟨rfl, _⟩ | ⟨g, cap, cur, rfl, _, hgg, _⟩
  · simp [Value.ownBlock] at q
  · simp only [Value.ownBlock, Option.some.injEq] at q
    subst q
    unfold Blk at h
    rw [h] at hgg
    injection hgg with h1
    injection h1 with _ h2
theorem set_typed {w : World} {M k g : Nat} {v : Value} {t T : TypeId} {cs cs0 : Array Value} (hM : Blk w M T cs0) (h : Blk w g t cs) (ht : t ≠ T) : Blk (w.setCell ⟨M, k, none⟩ v) g t cs :=
  h.other k v (fun e => by
    subst e
    unfold Blk at h hM
    rw [h] at hM
    injection hM with h1
    injection h1 with _ h2
    exact ht h2)
theorem wrs_new {bl : List Nat} {w w' : World} {M k : Nat} {v : Value} (h : Wrs bl w w') (hM : w.heap.size ≤ M) : Wrs bl w (w'.setCell ⟨M, k, none⟩ v) :=
  ⟨h.os, h.tape, h.output, by rw [World.size_setCell]; exact h.size, fun g hg hb => (Below.heap_setCell _ _ _ _ (by show g ≠ M; omega)).trans (h.blk g hg hb)⟩
theorem own_base {w : World} {B B' e sz n : Nat} {v : Value} {xs : List Value} (h : w.ownsRow B e sz v n xs) (hB : B' ≤ B) : w.ownsRow B' e sz v n xs := by
  refine ⟨h.1, ?_⟩
  rcases h.2 with h | ⟨g, cap, cur, h1, h2, h3⟩
  · exact .inl h
  · exact .inr ⟨g, cap, cur, h1, Nat.le_trans hB h2, h3⟩
theorem wrs_blk {w w' : World} {g k : Nat} {t : TypeId} {cs : Array Value} (hw : Wrs [g] w w') (h : Blk w k t cs) (hk : k ≠ g) : Blk w' k t cs := (hw.blk k h.lt (by simp; exact hk)).trans h
theorem wrs_far {bl : List Nat} {w0 w w' : World} {B e sz n : Nat} {v : Value} {xs : List Value} (h : Wrs bl w0 w) (hB : w0.heap.size ≤ B) (hown : w.ownsRow B e sz v n xs) (hg : w.grownBy w' v.ownBlock) : Wrs bl w0 w' := by
  have h1 : Below w0.heap.size w w' := (Below.refl _ w).grown hg h.size (fun k hk => by have := (hown.lt k hk).1; omega)
  exact ⟨h1.os.trans h.os, h1.tape.trans h.tape, h1.output.trans h.output, Nat.le_trans h.size h1.size, fun g hg hb => (h1.block g hg).trans (h.blk g hg hb)⟩
end Go.Proofs.YtpoanbpgpgflcaaDoor

namespace Go.Proofs.YtpoanbpgpgflcaaDoor
open Go.RowKit

/-- A slice of the call's own holds them. -/
def EiOw (w : World) (B : Nat) (v : Value) (L : List Ed) : Prop := w.ownsRow B 59 4 v L.length (edcs L)
theorem EiOw.nil (w : World) (B : Nat) : EiOw w B (.slice none 0 0) [] := World.ownsRow_nil _ _ _ _
theorem EiOw.kept {w w' : World} {B : Nat} {v : Value} {L : List Ed} (h : EiOw w B v L) (hb : Below w.heap.size w w') : EiOw w' B v L :=
  World.ownsRow.kept h (row := none) ⟨hb.os, hb.tape, hb.output, hb.size, fun k hk _ => hb.block k hk⟩ (by cases v.ownBlock <;> simp)
theorem EiOw.below {B : Nat} {w0 w w' : World} {v : Value} {L : List Ed} (h : EiOw w B v L) (hb : Below B w0 w) (hB : B ≤ w.heap.size) (hg : w.grownBy w' v.ownBlock) : Below B w0 w' :=
  hb.grown hg hB (fun k hk => (World.ownsRow.lt h k hk).1)
theorem EiOw.rd {w : World} {B : Nat} {v : Value} {L : List Ed} (h : EiOw w B v L) : EdS w v L := by
  obtain ⟨hl, h⟩ := h
  rcases h with ⟨rfl, h0⟩ | ⟨g, c, cur, rfl, hb, hg, hn, _, hcz, ht⟩
  · exact ⟨none, 0, 0, 0, by rw [h0], fun h => absurd h (by omega), fun j hj => absurd hj (by omega)⟩
  · refine ⟨_, g, 0, c, rfl, fun _ => rfl, fun j hj p hp => ?_⟩
    have key : ∀ i, i < 4 → w.cell? ⟨g, 0 + j * 4 + i, none⟩ = (edc p)[i]? := by
      intro i hi
      rw [← edcs_at L j p hp i hi, ← ht]
      have hlt : j * 4 + i < L.length * 4 := by
        have : (j + 1) * 4 ≤ L.length * 4 := Nat.mul_le_mul_right _ hj
        omega
      rw [List.getElem?_take, if_pos hlt, Array.getElem?_toList, Nat.zero_add]
      simp [World.cell?, hg]
    exact ⟨key 0 (by omega), key 1 (by omega), key 2 (by omega), key 3 (by omega)⟩

theorem Tryd.infoEiOw : (Tryd.prog.info? 59).map (fun i => (i.zero, i.size, i.bytes)) = some (some (.agg #[.int .i64 0, .int .i64 0, .int .i64 0, .int .i64 0]), 4, 32) := by kernel_rfl
theorem info_partsEiOw {P : Program} {t : TypeId} {z : Value} {a b : Nat} (h : (P.info? t).map (fun i => (i.zero, i.size, i.bytes)) = some (some z, a, b)) : ∃ i, P.info? t = some i ∧ i.zero = some z ∧ i.size = a ∧ i.bytes = b := by
  cases hi : P.info? t with
  | none => rw [hi] at h; cases h
  | some i => rw [hi] at h; simp at h; exact ⟨i, rfl, h.1, h.2.1, h.2.2⟩
/-- append of one onto a row of the call's own. -/
theorem wp_appEiOw {ops : Array Oper} {rest : List Oper} {o : Oper} {a : Act} {Q : Exit → Act → World → Prop} {w : World} (hgd : o.guard = none) (s x : Operand)
    (ho : o.op = .call { callee := .builtin .append, args := #[s, x], argTypes := #[52, 52] }) (B : Nat) (v : Value) (xs : List Ed) (hs : a.eval s = v) (hown : EiOw w B v xs)
    (g c : Nat) (y : Ed) (hx : a.eval x = .slice (some ⟨g, 0, none⟩) 1 c) (hnews : ∀ i, i < 4 → w.cell? ⟨g, i, none⟩ = (edc y)[i]?) (hlen : xs.length ≤ 10000000) (hbase : B ≤ w.heap.size)
    (h : ∀ v' w' l, Hid (l = xs ++ [y]) → EiOw w' B v' l → w.grownBy w' v.ownBlock → wpList Tryd.prog ops Q rest (a.put o.dst v') w') : wpList Tryd.prog ops Q (o :: rest) a w := by
  obtain ⟨i0, hi, hz0, hz1, hz2⟩ := info_partsEiOw Tryd.infoEiOw
  refine wpList_append_own_at _ hgd s x 52 ho B 59 i0 _ 4 32 Tryd.underlying52 hi hz0 hz1 hz2 rfl (by decide) v xs.length (edcs xs) hs hown ⟨g, 0, none⟩ 1 c (edcs [y]) hx (edcs_length [y]) (fun j u hj => ?_) (edcs_one _) (by unfold maxLen; omega) (by omega) hbase (fun v' w' h1 h2 _ h4 => ?_)
  · have hjl : j < 4 := by
      rcases Nat.lt_or_ge j 4 with h | h
      · exact h
      · rw [List.getElem?_eq_none (by rw [edcs_length]; exact h)] at hj; cases hj
    have e : (⟨g, 0, none⟩ : Addr).add j = ⟨g, j, none⟩ := by unfold Addr.add; split <;> simp_all
    rw [e, hnews j hjl]
    have := edcs_at [y] 0 y rfl j hjl
    rw [Nat.zero_mul, Nat.zero_add] at this
    rw [← this]
    exact hj
  · refine h v' w' (xs ++ [y]) rfl ?_ h2
    unfold EiOw
    rw [List.length_append, edcs_append]
    exact h1
/-- .. as one step of a region that draws. -/
theorem step_appEiOw {ops : Array Oper} {o : Oper} {a : Act} {w : World} {K : Act → World → Prop} {Q : Exit → Act → World → Prop} {E : Prop} (hgd : o.guard = none) (s x : Operand)
    (ho : o.op = .call { callee := .builtin .append, args := #[s, x], argTypes := #[52, 52] }) (B : Nat) (v : Value) (xs : List Ed) (hs : a.eval s = v) (hown : EiOw w B v xs)
    (g c : Nat) (y : Ed) (hx : a.eval x = .slice (some ⟨g, 0, none⟩) 1 c) (hnews : ∀ i, i < 4 → w.cell? ⟨g, i, none⟩ = (edc y)[i]?) (hlen : xs.length ≤ 10000000) (hbase : B ≤ w.heap.size)
    (h : ∀ v' w' l, Hid (l = xs ++ [y]) → EiOw w' B v' l → w.grownBy w' v.ownBlock → K (a.put o.dst v') w') :
    if Region.wanted o (yielded ops a.tmps) = true then Oper.wp Tryd.prog o a w K Q else E := by
  have hw : Region.wanted o (yielded ops a.tmps) = true := by simp [Region.wanted, hgd]
  rw [if_pos hw]
  obtain ⟨i0, hi, hz0, hz1, hz2⟩ := info_partsEiOw Tryd.infoEiOw
  refine wp_append_own w s x 52 ho B 59 i0 _ 4 32 Tryd.underlying52 hi hz0 hz1 hz2 rfl (by decide) v xs.length (edcs xs) hs hown ⟨g, 0, none⟩ 1 c (edcs [y]) hx (edcs_length [y]) (fun j u hj => ?_) (edcs_one _) (by unfold maxLen; omega) (by omega) hbase (fun v' w' h1 h2 _ => ?_)
  · have hjl : j < 4 := by
      rcases Nat.lt_or_ge j 4 with h | h
      · exact h
      · rw [List.getElem?_eq_none (by rw [edcs_length]; exact h)] at hj; cases hj
    have e : (⟨g, 0, none⟩ : Addr).add j = ⟨g, j, none⟩ := by unfold Addr.add; split <;> simp_all
    rw [e, hnews j hjl]
    have := edcs_at [y] 0 y rfl j hjl
    rw [Nat.zero_mul, Nat.zero_add] at this
    rw [← this]
    exact hj
  · refine h v' w' (xs ++ [y]) rfl ?_ h2
    unfold EiOw
    rw [List.length_append, edcs_append]
    exact h1
end Go.Proofs.YtpoanbpgpgflcaaDoor

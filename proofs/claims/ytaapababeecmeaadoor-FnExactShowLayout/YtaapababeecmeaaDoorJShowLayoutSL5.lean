/-
  The walk of l4bits.
-/
import Derived.Test.YtaapababeecmeaaDoorJShowLayoutIN0
import Derived.Maps.AppendAt
namespace Go.Proofs.YtaapababeecmeaaDoor
open Go.RowKit

/-- A number halved k times. -/
def hv : Nat → Int → Int
  | 0, e => e
  | k + 1, e => hv k e / 2
theorem hv_nn (k : Nat) {e : Int} (h : 0 ≤ e) : 0 ≤ hv k e := by
  induction k with
  | zero => exact h
  | succ k ih => simp only [hv]; omega
theorem hv_le (k : Nat) {e : Int} (h : 0 ≤ e) : hv k e ≤ e := by
  induction k with
  | zero => exact Int.le_refl _
  | succ k ih => have := hv_nn k h; simp only [hv]; omega
/-- Whether bit d is set. -/
def bitAt (e : Int) (d : Nat) : Bool := hv d e % 2 == 1
/-- Bools in cells. -/
def cb (l : List Bool) : List Value := l.map fun b => Value.bool b
theorem cb_length (l : List Bool) : (cb l).length = l.length := by simp [cb]
theorem cb_append (a b : List Bool) : cb (a ++ b) = cb a ++ cb b := by simp [cb]
theorem cb_one (l : List Bool) : ∀ u ∈ cb l, u.oneCell' = true := by
  intro u hu
  obtain ⟨n, _, rfl⟩ := List.mem_map.1 hu
  rfl
theorem Tryd.info4 : (Tryd.prog.info? 4).map (fun i => (i.zero, i.size, i.bytes)) = some (some (.bool false), 1, 1) := by kernel_rfl
theorem info_parts4 {P : Program} {t : TypeId} {z : Value} {a b : Nat} (h : (P.info? t).map (fun i => (i.zero, i.size, i.bytes)) = some (some z, a, b)) : ∃ i, P.info? t = some i ∧ i.zero = some z ∧ i.size = a ∧ i.bytes = b := by
  cases hi : P.info? t with
  | none => rw [hi] at h; cases h
  | some i => rw [hi] at h; simp at h; exact ⟨i, rfl, h.1, h.2.1, h.2.2⟩

/-- append of bools onto a row of the call's own. -/
theorem wp_app_b {ops : Array Oper} {rest : List Oper} {o : Oper} {a : Act} {Q : Exit → Act → World → Prop} {w : World} (hgd : o.guard = none) (s x : Operand)
    (ho : o.op = .call { callee := .builtin .append, args := #[s, x], argTypes := #[46, 46] }) (B : Nat) (v : Value) (xs : List Bool) (hs : a.eval s = v) (hown : w.ownsRow B 4 1 v xs.length (cb xs))
    (g c : Nat) (ys : List Bool) (hx : a.eval x = .slice (some ⟨g, 0, none⟩) ys.length c) (hnews : ∀ j, j < ys.length → w.cell? ⟨g, j, none⟩ = some (.bool (ys.getD j false))) (hlen : xs.length + ys.length ≤ 100000000) (hbase : B ≤ w.heap.size)
    (h : ∀ v' w' l, Hid (l = xs ++ ys) → w'.ownsRow B 4 1 v' l.length (cb l) → w.grownBy w' v.ownBlock → wpList Tryd.prog ops Q rest (a.put o.dst v') w') : wpList Tryd.prog ops Q (o :: rest) a w := by
  obtain ⟨i0, hi, hz0, hz1, hz2⟩ := info_parts4 Tryd.info4
  refine wpList_append_own _ hgd s x 46 ho B 4 i0 (.bool false) 1 1 Tryd.underlying46 hi hz0 hz1 hz2 rfl (by decide) v xs.length (cb xs) hs hown ⟨g, 0, none⟩ ys.length c (cb ys) hx (by rw [cb_length, Nat.mul_one]) (fun j u hj => ?_) (cb_one ys) (by unfold maxLen; omega) (by omega) hbase (fun v' w' h1 h2 _ => ?_)
  · have hjl : j < ys.length := by
      rcases Nat.lt_or_ge j ys.length with h | h
      · exact h
      · rw [List.getElem?_eq_none (by rw [cb_length]; exact h)] at hj; cases hj
    have e : (⟨g, 0, none⟩ : Addr).add j = ⟨g, 0 + j, none⟩ := by unfold Addr.add; split <;> simp_all
    rw [e, Nat.zero_add, hnews j hjl, ← hj]
    simp [cb, List.getD, hjl]
  · refine h v' w' (xs ++ ys) rfl ?_ h2
    rw [List.length_append, cb_append]
    exact h1
theorem app_below_b {B : Nat} {w0 w w' : World} {v : Value} {n : Nat} {xs : List Value} (h : Below B w0 w) (hown : w.ownsRow B 4 1 v n xs) (hB : B ≤ w.heap.size) (hg : w.grownBy w' v.ownBlock) : Below B w0 w' :=
  h.grown hg hB (fun k hk => (hown.lt k hk).1)
/-- A slice of bools reads as l. -/
def LS (w : World) (v : Value) (l : List Bool) : Prop := ∃ a b o c, v = .slice a l.length c ∧ (0 < l.length → a = some ⟨b, o, none⟩) ∧ ∀ j, j < l.length → w.cell? ⟨b, o + j, none⟩ = some (.bool (l.getD j false))
theorem LS.below {w w' : World} {v : Value} {l : List Bool} (h : LS w v l) (hb : Below w.heap.size w w') : LS w' v l := by
  obtain ⟨a, b, o, c, h1, h2, h3⟩ := h
  exact ⟨a, b, o, c, h1, h2, fun j hj => cell_kept (h3 j hj) hb⟩
theorem own_ls {w : World} {B : Nat} {v : Value} {l : List Bool} (h : w.ownsRow B 4 1 v l.length (cb l)) : LS w v l := by
  rcases h.2 with ⟨hv, h0⟩ | ⟨g, c, cur, hv, hb, hg, _⟩
  · have e : l = [] := List.length_eq_zero_iff.1 h0
    subst e
    exact ⟨none, 0, 0, 0, hv, fun h => absurd h (Nat.not_lt_zero _), fun j hj => absurd hj (Nat.not_lt_zero _)⟩
  · refine ⟨some ⟨g, 0, none⟩, g, 0, c, hv, fun _ => rfl, fun j hj => ?_⟩
    rw [hv] at h
    rw [Nat.zero_add, h.cellAt j (by omega)]
    simp [cb, List.getD, hj]

set_option maxHeartbeats 1000000 in
set_option maxRecDepth 1000000 in
theorem l4bits_own (e : Int) (w : World) (h0 : 0 ≤ e) (h1 : e ≤ 1000000) :
    Calls Tryd.prog 25 #[.int .i64 e] w fun x w' => ∃ u, x = .returned u ∧ w'.ownsRow w.heap.size 4 1 u [bitAt e 0, bitAt e 1, bitAt e 2, bitAt e 3].length (cb [bitAt e 0, bitAt e 1, bitAt e 2, bitAt e 3]) ∧ Below w.heap.size w w' := by
  go_enter Tryd.func25, Tryd.ntmps25
  go_wp2
  go_loopw [0, 3, 4] (fun x out ix wr => ∃ (k : Nat) (X : List Bool), k ≤ 4 ∧ ix = .int .i64 k ∧ x = .int .i64 (hv k e) ∧ X.length = k ∧ X = [bitAt e 0, bitAt e 1, bitAt e 2, bitAt e 3].take k ∧ wr.ownsRow w.heap.size 4 1 out X.length (cb X) ∧ Below w.heap.size w wr) (fun _ _ ix _ => 4 - (intOf ix).toNat)
  case atStart => exact ⟨0, [], Nat.zero_le _, rfl, rfl, rfl, rfl, World.ownsRow_nil _ _ _ _, Below.refl _ _⟩
  case round =>
    obtain ⟨k, X, hk, rfl, rfl, hXl, hX, hown, hb⟩ := hrel
    have HO := hide hown
    have HB := hide hb
    have HX := hide hX
    have HXL := hide hXl
    have hv0 := hv_nn k h0
    have hv1 := hv_le k h0
    have HBA : Hid (bitAt e k = (hv k e % 2 == 1)) := rfl
    have HV : Hid (hv k e / 2 = hv (k + 1) e) := rfl
    obtain ⟨z, hz⟩ : ∃ z, hv k e = z := ⟨_, rfl⟩
    rw [hz] at hv0 hv1 HBA HV
    rw [hz]
    have hwr := hb.size
    clear hz hown hb hX hXl
    by_cases hlt : k < 4
    · have hlti : (k : Int) < 4 := by omega
      go_wp2_with (at_builtin; refine wp_app_b rfl _ _ rfl w.heap.size _ X rfl (HO.out.alloc _) wr.heap.size 1 [z % 2 == 1] rfl ?n1 ?l1 ?b1 ?_)
      case n1 =>
        intro j hj
        obtain rfl : j = 0 := by simp at hj; omega
        exact (Blk.new _ _ _).cell 0
      case l1 => have := HXL.out; first | omega | (simp; omega)
      case b1 => first | omega | (simp; omega)
      intro v' w3 l hl3 ho hg
      have HO3 := hide ho
      have HB3 : Hid (Below w.heap.size w w3) := app_below_b (HB.out.alloc hwr _) (HO.out.alloc _) (by simp; omega) hg
      have HL := hl3
      have HLL : Hid (l.length = k + 1) := by show _ = _; rw [hl3.out]; simp [HXL.out]
      have HLX : Hid (l = [bitAt e 0, bitAt e 1, bitAt e 2, bitAt e 3].take (k + 1)) := by
        show _ = _
        rw [HL.out, ← HBA.out, HX.out]
        have : k = 0 ∨ k = 1 ∨ k = 2 ∨ k = 3 := by omega
        rcases this with rfl | rfl | rfl | rfl <;> rfl
      clear ho hg hl3
      go_wp2
      rw [HV.out]
      go_roundw
      case rel => exact ⟨k + 1, l, by omega, by go_num, rfl, HLL.out, HLX.out, HO3.out, HB3.out⟩
      case measure => simp [intOf]; omega
    · have hlti : ¬ (k : Int) < 4 := by omega
      have HXX : Hid (X = [bitAt e 0, bitAt e 1, bitAt e 2, bitAt e 3]) := by show _ = _; rw [HX.out, show k = 4 by omega]; rfl
      go_wp2
      go_ret
      have HO' := HO.out
      rw [HXX.out] at HO'
      exact ⟨_, rfl, HO', HB.out⟩
theorem l4bits_any (e : Int) (w : World) (h0 : 0 ≤ e) (h1 : e ≤ 1000000) :
    Calls Tryd.prog 25 #[.int .i64 e] w fun x w' => ∃ u, x = .returned u ∧ LS w' u [bitAt e 0, bitAt e 1, bitAt e 2, bitAt e 3] ∧ Below w.heap.size w w' :=
  (l4bits_own e w h0 h1).mono fun _ _ ⟨u, h2, h3, h4⟩ => ⟨u, h2, own_ls h3, h4⟩
/-- The same, with the block of its answer. -/
theorem l4bits_blk (e : Int) (w : World) (h0 : 0 ≤ e) (h1 : e ≤ 1000000) :
    Calls Tryd.prog 25 #[.int .i64 e] w fun x w' => ∃ g c cur, x = .returned (.slice (some ⟨g, 0, none⟩) 4 c) ∧ Blk w' g 4 cur ∧ (∀ j, j < 4 → cur[j]? = some (.bool (bitAt e j))) ∧ Below w.heap.size w w' :=
  (l4bits_own e w h0 h1).mono fun _ _ ⟨u, h2, h3, h4⟩ => by
    obtain ⟨_, h3⟩ := h3
    rcases h3 with ⟨_, h0⟩ | ⟨g, c, cur, hv, _, hg, _, _, _, ht⟩
    · simp at h0
    · refine ⟨g, c, cur, by rw [h2, hv]; rfl, hg, fun j hj => ?_, h4⟩
      have hj4 : j = 0 ∨ j = 1 ∨ j = 2 ∨ j = 3 := by omega
      have hh := congrArg (fun l => l[j]?) ht
      simp only [List.getElem?_take, List.length_cons, List.length_nil, Nat.mul_one, if_pos hj, Array.getElem?_toList] at hh
      rw [hh]
      rcases hj4 with rfl | rfl | rfl | rfl <;> rfl
end Go.Proofs.YtaapababeecmeaaDoor

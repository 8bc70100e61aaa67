/-
  spec.l2sign, l2bind, l2way.
  The reader of trees: names; signs and ways.
  The walk of spec.l2node.
  Reading parts: what a reading function leaves, its result under way, leaves and rows of parts.
  The walk of spec.l1value.
  The walks of spec.l1digit and spec.l1escape.
  The walk of spec.l1escape, its long form.
  The walk of spec.l1literal.
  The walk of spec.l1hex.
  The walk of spec.QuoteText.
  The walk of spec.UnquoteText.
  Plainly: what an unquoted literal holds: how long it is, and that its numbers are bytes.
  The walk of spec.l2readUnary.
  The walk of spec.l2readUnary: numbers, texts, names.
  The walk of spec.l2readExpr.
  Rows of parts that grow.
  The walks of spec.l2readCell, l2readArea and l2readWay.
  The walk of spec.l2readBlock.
  The walk of spec.l2readIf.
  Six cells written one behind the other.
  A flat statement under way: its node in a block, its parts.
-/
import Derived.Test.YtdlahabeegmjiaaDoorJCkCKV
import Derived.Test.YtdlahabeegmjiaaDoorJCkIN0
import Derived.Test.YtdlahabeegmjiaaDoorJCkTYP
import Derived.Lib.ConvBytes
import Derived.Test.YtdlahabeegmjiaaDoorJCkPNS
import Derived.Test.YtdlahabeegmjiaaDoorJCkVB
import Derived.Test.YtdlahabeegmjiaaDoorJCkC
import Derived.Test.YtdlahabeegmjiaaDoorJCkT
import Derived.Test.YtdlahabeegmjiaaDoorJCkAP
import Derived.Deep.RegionLaw
namespace Go.Proofs.YtdlahabeegmjiaaDoor
open Go.RowKit

end Go.Proofs.YtdlahabeegmjiaaDoor

namespace Go.Proofs.YtdlahabeegmjiaaDoor
open Go.RowKit

/-- A string's bytes in a new block. -/
theorem conv_bg (W : World) (s : ByteArray) : ∃ gc W', (convert 9 31 (.string s)).run Tryd.prog W = .ok (.slice (some ⟨W.heap.size, 0, none⟩) s.size gc) W' ∧ Below W.heap.size W W' ∧ BG W' (fun g => W.heap.size ≤ g) (.slice (some ⟨W.heap.size, 0, none⟩) s.size gc) s ∧ (∀ j, j < s.size → W'.cell? ⟨W.heap.size, j, none⟩ = some (bts s j)) ∧ W'.heap.size = W.heap.size + 1 := by
  have hc : ∀ j, j < s.size → (Lib.bytesWorld W 5 s).cell? ⟨W.heap.size, j, none⟩ = some (bts s j) := fun j hj => by
    rw [Lib.bytesWorld_cell W 5 s j hj]; unfold bts; rw [Utf8W.get!_of_lt s j hj]; have hj' : j < s.data.toList.length := by rw [Array.length_toList]; exact hj
    rw [List.getD_eq_getElem?_getD, List.getElem?_eq_getElem hj', Option.getD_some, Array.getElem_toList]; rfl
  refine ⟨grownCap W s.size 0 5, Lib.bytesWorld W 5 s, Lib.run_convert_string_bytes (P := Tryd.prog) W 9 31 5 s Tryd.underlying9 Tryd.underlying31 Tryd.underlying5, ⟨rfl, rfl, rfl, by rw [Lib.bytesWorld_size]; omega, fun j hj => Lib.bytesWorld_at_old W 5 s j hj⟩, ⟨_, W.heap.size, _, rfl, fun _ => ⟨rfl, Nat.le_refl _⟩, fun _ j u hj => ?_⟩, hc, by rw [Lib.bytesWorld_size]⟩
  have hl : j < s.size := by
    rcases Nat.lt_or_ge j s.size with h | h
    · exact h
    · rw [List.getElem?_eq_none (by rw [byv_len]; exact h)] at hj; cases hj
  rw [byv_at s j hl] at hj
  rw [hc j hl]; exact hj

end Go.Proofs.YtdlahabeegmjiaaDoor

namespace Go.Proofs.YtdlahabeegmjiaaDoor
open Go.RowKit

theorem flat_take {ks : List Pt} {k : Nat} (hk : k < ks.length) {α : Type} (f : Pt → List α) : ((ks.take (k + 1)).map f).flatten = ((ks.take k).map f).flatten ++ f (ks[k]'hk) := by
  rw [List.take_add_one, List.getElem?_eq_getElem hk, Option.toList_some, List.map_append, List.flatten_append, List.map_singleton, List.flatten_singleton]
theorem nsl_take {ks : List Pt} : ∀ k, nsl (ks.take k) ≤ nsl ks := fun k => by
  have h := nsl_app (ks.take k) (ks.drop k)
  rw [List.take_append_drop] at h
  omega
theorem flat_len (ks : List Pt) : (ks.map Pt.t).flatten.length = nsl ks := by
  rw [List.length_flatten, List.map_map]; rfl
theorem plv_len (l : List Nat) : (plv l).length = l.length := by unfold plv; rw [List.length_map]
theorem plv_one (l : List Nat) : ∀ u ∈ plv l, u.oneCell' = true := fun u hu => by
  obtain ⟨n, _, rfl⟩ := List.mem_map.1 hu
  rfl

end Go.Proofs.YtdlahabeegmjiaaDoor

namespace Go.Proofs.YtdlahabeegmjiaaDoor
open Go.RowKit

/-- A node without lists. -/
theorem nv_plain (w : World) (G : Nat → Prop) (k n : Int) : (⟨{ ndK k with n := n }, .slice none 0 0, .slice none 0 0, .slice none 0 0⟩ : Nv).Ok w G :=
  ⟨RwG.nil _ _ _ _, ⟨[], rfl, RwG.nil _ _ _ _, fun j x h => by simp [ndK] at h⟩, RwG.nil _ _ _ _, by show (0 : Nat) ≤ _; omega, by show (0 : Nat) ≤ _; omega, fun x hx => by simp [ndK] at hx, by show (0 : Nat) ≤ _; omega⟩
theorem nv_text {w : World} {G : Nat → Prop} {v : Value} {s : ByteArray} (h : BG w G v s) (hs : s.size ≤ 1048576) : (⟨{ ndK 17 with text := s }, v, .slice none 0 0, .slice none 0 0⟩ : Nv).Ok w G :=
  ⟨h, ⟨[], rfl, RwG.nil _ _ _ _, fun j x h => by simp [ndK] at h⟩, RwG.nil _ _ _ _, hs, by show (0 : Nat) ≤ _; omega, fun x hx => by simp [ndK] at hx, by show (0 : Nat) ≤ _; omega⟩
/-- A node with one name. -/
theorem nv_name {w : World} {G : Nat → Prop} {g : Nat} {k : Int} {t : TypeId} {v : Value} {s : ByteArray} (hb : Blk w g t #[v]) (hg : G g) (h : BG w G v s) (hs : s.size ≤ 1048576) : (⟨{ ndK k with names := [s] }, .slice none 0 0, .slice (some ⟨g, 0, none⟩) 1 1, .slice none 0 0⟩ : Nv).Ok w G :=
  ⟨RwG.nil _ _ _ _, ⟨[v], rfl, RwG.of_blk hb hg 1, fun j x hj => by
    cases j with
    | zero => obtain rfl : s = x := by simpa [ndK] using hj
              exact ⟨v, rfl, h⟩
    | succ j => simp at hj⟩, RwG.nil _ _ _ _, by show (0 : Nat) ≤ _; omega, by show (1 : Nat) ≤ _; omega, fun x hx => by rw [List.mem_singleton.1 hx]; exact hs, by show (0 : Nat) ≤ _; omega⟩
theorem pr_nil (w : World) (G : Nat → Prop) : PR w G (.slice none 0 0) [] := ⟨[], RwG.nil _ _ _ _, Ms.nil w G⟩
theorem pr_one {w : World} {G : Nat → Prop} {g : Nat} {t : TypeId} {vt vp : Value} {x : Pt} (hb : Blk w g t #[vt, vp]) (hg : G g) (h : PV w G vt vp x) : PR w G (.slice (some ⟨g, 0, none⟩) 1 1) [x] :=
  ⟨[(vt, vp)], RwG.of_blk hb hg 1, Ms.one h⟩
theorem pr_two {w : World} {G : Nat → Prop} {g : Nat} {t : TypeId} {vt vp ut up : Value} {x y : Pt} (hb : Blk w g t #[vt, vp, ut, up]) (hg : G g) (h : PV w G vt vp x) (k : PV w G ut up y) : PR w G (.slice (some ⟨g, 0, none⟩) 2 2) [x, y] :=
  ⟨[(vt, vp), (ut, up)], RwG.of_blk hb hg 2, (Ms.one h).app (Ms.one k)⟩
end Go.Proofs.YtdlahabeegmjiaaDoor

namespace Go.Proofs.YtdlahabeegmjiaaDoor
open Go.RowKit

end Go.Proofs.YtdlahabeegmjiaaDoor

namespace Go.Proofs.YtdlahabeegmjiaaDoor
open Go.RowKit

/-- A slice of bytes and a number, as an answer. -/
def Gives (w w' : World) (e : Ending) (l : List Nat) (n : Nat) : Prop :=
  ∃ a g c, e = .returned (.tuple #[.slice a l.length c, .int .i64 (n : Int)]) ∧ (0 < l.length → a = some ⟨g, 0, none⟩) ∧ (∀ j, j < l.length → w'.cell? ⟨g, j, none⟩ = some (.int .u8 (l.getD j 0 : Nat))) ∧ Below w.heap.size w w'

theorem gives_nil {w w' : World} {l : List Nat × Nat} (h : l = ([], 0)) (hb : Below w.heap.size w w') : Gives w w' (.returned (.tuple #[.slice none 0 0, .int .i64 0])) l.1 l.2 := by
  rw [h]; exact ⟨none, 0, 0, rfl, fun h => absurd h (by decide), fun j hj => absurd hj (Nat.not_lt_zero _), hb⟩

end Go.Proofs.YtdlahabeegmjiaaDoor

namespace Go.Proofs.YtdlahabeegmjiaaDoor
open Go.RowKit

end Go.Proofs.YtdlahabeegmjiaaDoor

namespace Go.Proofs.YtdlahabeegmjiaaDoor
open Go.RowKit

end Go.Proofs.YtdlahabeegmjiaaDoor

namespace Go.Proofs.YtdlahabeegmjiaaDoor
open Go.RowKit

/-- append onto a row of the call's own, as one step of a region that draws. -/
theorem step_append_own {P : Program} {ops : Array Oper} {o : Oper} {a : Act} {w : World} {K : Act → World → Prop} {Q : Exit → Act → World → Prop} {E : Prop}
    (hg : o.guard = none) (s x : Operand) (t : TypeId) (hop : o.op = Op.call { callee := Callee.builtin Builtin.append, args := #[s, x], argTypes := #[t, t] })
    (base : Nat) (e : TypeId) (i : TypeInfo) (z : Value) (size bytes : Nat) (ht : P.underlying t = some (.slice e)) (hi : P.info? e = some i) (hz : i.zero = some z)
    (hsize : i.size = size) (hby : i.bytes = bytes) (hzs : z.cells.size = size) (hsz : 0 < size)
    (v : Value) (n : Nat) (xs : List Value) (hs : a.eval s = v) (hown : w.ownsRow base e size v n xs)
    (ad : Addr) (m c : Nat) (news : List Value) (hx : a.eval x = .slice (some ad) m c) (hl : news.length = m * size) (hnews : ∀ j u, news[j]? = some u → w.cell? (ad.add j) = some u) (h1 : ∀ u ∈ news, u.oneCell' = true)
    (h63 : n + m ≤ maxLen) (hbytes : (n + m) * bytes ≤ 140737488355328) (hbase : base ≤ w.heap.size)
    (h : ∀ v' w', w'.ownsRow base e size v' (n + m) (xs ++ news) → w.grownBy w' v.ownBlock → K (a.put o.dst v') w') :
    if Region.wanted o (yielded ops a.tmps) = true then Oper.wp P o a w K Q else E := by
  have hw : Region.wanted o (yielded ops a.tmps) = true := by simp [Region.wanted, hg]
  rw [if_pos hw]
  exact wp_append_own w s x t hop base e i z size bytes ht hi hz hsize hby hzs hsz v n xs hs hown ad m c news hx hl hnews h1 h63 hbytes hbase fun v' w' h2 h3 _ => h v' w' h2 h3

theorem digit_at (r : Nat) (hr : r < 16) (w : World) : (Instr.index 9 (.string { data := #[48, 49, 50, 51, 52, 53, 54, 55, 56, 57, 97, 98, 99, 100, 101, 102] }) (.int .i64 (r : Int))).run Tryd.prog w = .ok (.int .u8 (dg r : Nat)) w :=
  match r, hr with
  | 0, _ => by kernel_rfl
  | 1, _ => by kernel_rfl
  | 2, _ => by kernel_rfl
  | 3, _ => by kernel_rfl
  | 4, _ => by kernel_rfl
  | 5, _ => by kernel_rfl
  | 6, _ => by kernel_rfl
  | 7, _ => by kernel_rfl
  | 8, _ => by kernel_rfl
  | 9, _ => by kernel_rfl
  | 10, _ => by kernel_rfl
  | 11, _ => by kernel_rfl
  | 12, _ => by kernel_rfl
  | 13, _ => by kernel_rfl
  | 14, _ => by kernel_rfl
  | 15, _ => by kernel_rfl
  | n + 16, h => absurd h (by omega)

end Go.Proofs.YtdlahabeegmjiaaDoor

namespace Go.Proofs.YtdlahabeegmjiaaDoor
open Go.RowKit

theorem hexL_pos (v : Nat) : 0 < (hexL v).length := by unfold hexL; split <;> simp
end Go.Proofs.YtdlahabeegmjiaaDoor

namespace Go.Proofs.YtdlahabeegmjiaaDoor
open Go.RowKit

end Go.Proofs.YtdlahabeegmjiaaDoor

namespace Go.Proofs.YtdlahabeegmjiaaDoor

theorem ubytes_lo {v : Nat} (h : pointB (v : Int) = true) : Lo (ubytes v) := by
  unfold pointB at h
  unfold ubytes
  intro x hx
  simp at h
  repeat' split at hx
  all_goals simp at hx
  all_goals omega
theorem esc_lo (s : ByteArray) (i : Nat) : Lo (esc s i).1 := by
  unfold esc
  repeat' split
  · exact Lo.nil
  · exact Lo.one (s.get! i).toNat_lt
  · exact Lo.nil
  · exact Lo.nil
  · rename_i h
    refine ubytes_lo ?_
    cases g : pointB ((hv s (i + 2) (kc s (i + 2) 7) : Nat) : Int) with
    | true => rfl
    | false => exact absurd (.inr (.inr (.inr (.inr g)))) h
theorem lit_lo (s : ByteArray) : ∀ f i acc l q, Lo acc → lit s f i acc = some (l, q) → Lo l
  | 0, _, _, _, _, _, h => by simp [lit] at h
  | f + 1, i, acc, l, q, ha, h => by
    rw [lit] at h
    repeat' split at h
    · cases h
    · injection h with h; injection h with h; rw [← h]; exact ha
    · cases h
    · cases h
    · exact lit_lo s f _ _ l q (ha.app (esc_lo s _)) h
    · exact lit_lo s f _ _ l q (ha.app (Lo.one (s.get! i).toNat_lt)) h
theorem unq_lo (s : ByteArray) : Lo (unq s).1 := by
  unfold unq
  split
  · unfold litRes litAt
    by_cases h : s.size ≤ 0 ∨ (s.get! 0).toNat ≠ 34
    · rw [if_pos h]; exact Lo.nil
    · rw [if_neg h]
      cases e : lit s (s.size + 1) (0 + 1) [] with
      | none => exact Lo.nil
      | some lq => exact lit_lo s _ _ _ lq.1 lq.2 Lo.nil e
  · exact Lo.nil
theorem lit_len (s : ByteArray) : ∀ f i acc l q, i ≤ s.size → lit s f i acc = some (l, q) → l.length + 4 * i ≤ acc.length + 4 * s.size
  | 0, _, _, _, _, _, h => by simp [lit] at h
  | f + 1, i, acc, l, q, hi, h => by
    rw [lit] at h
    by_cases h1 : s.size ≤ i
    · rw [if_pos h1] at h; cases h
    rw [if_neg h1] at h
    by_cases h2 : (s.get! i).toNat = 34
    · rw [if_pos h2] at h
      have e : acc = l := by injection h with h; injection h
      rw [e]; omega
    rw [if_neg h2] at h
    by_cases h3 : (s.get! i).toNat = 10
    · rw [if_pos h3] at h; cases h
    rw [if_neg h3] at h
    by_cases h4 : (s.get! i).toNat = 92
    · rw [if_pos h4] at h
      by_cases h5 : (esc s (i + 1)).2 = 0
      · rw [if_pos h5] at h; cases h
      · rw [if_neg h5] at h
        have he := esc_le s (i + 1)
        have := (he.2.2 h5).1
        have ih := lit_len s f _ _ l q (by omega) h
        rw [List.length_append] at ih
        omega
    · rw [if_neg h4] at h
      have ih := lit_len s f _ _ l q (by omega) h
      rw [List.length_append, List.length_singleton] at ih
      omega
theorem unq_le (s : ByteArray) : (unq s).1.length ≤ 4 * s.size := by
  unfold unq
  split
  · unfold litRes litAt
    by_cases h : s.size ≤ 0 ∨ (s.get! 0).toNat ≠ 34
    · rw [if_pos h]; simp
    · rw [if_neg h]
      cases e : lit s (s.size + 1) (0 + 1) [] with
      | none => simp
      | some lq =>
        obtain ⟨l, q⟩ := lq
        have := lit_len s _ _ _ l q (by omega) e
        simp only [List.length_nil] at this ⊢
        omega
  · simp

end Go.Proofs.YtdlahabeegmjiaaDoor

namespace Go.Proofs.YtdlahabeegmjiaaDoor
open Go.RowKit

/-- How much is left to read. -/
def lft (e : PsE) (p : Ps) : Nat := e.T.length - p.at_
end Go.Proofs.YtdlahabeegmjiaaDoor

namespace Go.Proofs.YtdlahabeegmjiaaDoor
open Go.RowKit

theorem vl_range (s : ByteArray) : ∀ k p v, v ≤ 99999 → -1 ≤ nval s k p v ∧ nval s k p v ≤ 99999
  | 0, p, v, h => by rw [nval]; omega
  | k + 1, p, v, h => by
    rw [nval]
    repeat' split
    · omega
    · exact vl_range s k _ _ (by omega)
    · omega
theorem own_bg {w : World} {B : Nat} {G : Nat → Prop} {v : Value} {l : List Nat} (h : w.ownsRow B 5 1 v l.length (cv l)) (hl : Lo l) (hG : ∀ g, B ≤ g → G g) : BG w G v (byt l) := by
  have h1 := RwG.of_own h hG
  rw [← byt_cells hl, ← byt_size] at h1
  exact h1
end Go.Proofs.YtdlahabeegmjiaaDoor

namespace Go.Proofs.YtdlahabeegmjiaaDoor
open Go.RowKit

theorem opAt_rng (e : PsE) (p : Ps) : ∀ k, -1 ≤ opAt e p k ∧ opAt e p k < k
  | 0 => by rw [opAt]; omega
  | k + 1 => by
    have := opAt_rng e p k
    rw [opAt]
    split <;> omega
/-- Where the reader is, of a world. -/
def atW (c : PsC) (w : World) : Nat := match w.cell? ⟨c.P, 2, none⟩ with | some v => (intOf v).toNat | none => 0
end Go.Proofs.YtdlahabeegmjiaaDoor

namespace Go.Proofs.YtdlahabeegmjiaaDoor
open Go.RowKit

theorem Gw.own_of {w w' : World} {B e sz n : Nat} {v : Value} {xs : List Value} (_h : w.ownsRow B e sz v n xs) (hg : w.grownBy w' v.ownBlock) : Gw (fun k => v.ownBlock = some k) w w' := Gw.of_grown hg (fun _ hk _ => hk)
end Go.Proofs.YtdlahabeegmjiaaDoor

namespace Go.Proofs.YtdlahabeegmjiaaDoor
open Go.RowKit

theorem way_nth {e : PsE} {p : Ps} : ∀ k, k ≤ 4 → (∀ j, j < k → e.is p (wyN.getD j ⟨#[]⟩) = false) → (k = 4 → rWay e p = (0, e.wrong p)) ∧ (k < 4 → e.is p (wyN.getD k ⟨#[]⟩) = true → rWay e p = (k, p.on)) := by
  intro k hk hj
  have key : ∀ j, j < k → ¬ e.is p (wyN.getD j ⟨#[]⟩) = true := fun j h => by rw [hj j h]; exact Bool.false_ne_true
  have hh : k = 0 ∨ k = 1 ∨ k = 2 ∨ k = 3 ∨ k = 4 := by omega
  unfold rWay
  rcases hh with rfl | rfl | rfl | rfl | rfl
  · exact ⟨fun h => by omega, fun _ h => by rw [if_pos h]⟩
  · exact ⟨fun h => by omega, fun _ h => by rw [if_neg (key 0 (by omega)), if_pos h]⟩
  · exact ⟨fun h => by omega, fun _ h => by rw [if_neg (key 0 (by omega)), if_neg (key 1 (by omega)), if_pos h]⟩
  · exact ⟨fun h => by omega, fun _ h => by rw [if_neg (key 0 (by omega)), if_neg (key 1 (by omega)), if_neg (key 2 (by omega)), if_pos h]⟩
  · exact ⟨fun _ => by rw [if_neg (key 0 (by omega)), if_neg (key 1 (by omega)), if_neg (key 2 (by omega)), if_neg (key 3 (by omega))], fun h => by omega⟩

end Go.Proofs.YtdlahabeegmjiaaDoor

namespace Go.Proofs.YtdlahabeegmjiaaDoor
open Go.RowKit

/-- The first fault, of a world; how much is left to do. -/
def badW (c : PsC) (w : World) : Int := match w.cell? ⟨c.P, 3, none⟩ with | some v => intOf v | none => 0
def muW (e : PsE) (c : PsC) (w : World) : Nat := (e.T.length - atW c w) + (if badW c w < 0 then 1 else 0)
def mu (e : PsE) (p : Ps) : Nat := lft e p + (if p.bad < 0 then 1 else 0)
theorem mu_dec {e : PsE} {p q : Ps} (hb : p.bad < 0) (ht : p.at_ ≤ e.T.length) (m : Mv e p q) (g : Pg p q) : mu e q < mu e p := by
  have h1 := m.le
  have h2 := m.top ht
  unfold mu lft
  rw [if_pos hb]
  rcases g with g | g
  · rw [if_neg (by omega)]; omega
  · split <;> omega
end Go.Proofs.YtdlahabeegmjiaaDoor

namespace Go.Proofs.YtdlahabeegmjiaaDoor
open Go.RowKit

end Go.Proofs.YtdlahabeegmjiaaDoor

namespace Go.Proofs.YtdlahabeegmjiaaDoor
open Go.RowKit

def set6w (V : World) (b : Nat) (x0 x1 x2 x3 x4 x5 : Value) : World := (((((V.setCell ⟨b, 0, none⟩ x0).setCell ⟨b, 1, none⟩ x1).setCell ⟨b, 2, none⟩ x2).setCell ⟨b, 3, none⟩ x3).setCell ⟨b, 4, none⟩ x4).setCell ⟨b, 5, none⟩ x5
theorem Blk.set6w {V : World} {b : Nat} {t : TypeId} {y0 y1 y2 y3 y4 y5 : Value} (h : Blk V b t #[y0, y1, y2, y3, y4, y5]) (x0 x1 x2 x3 x4 x5 : Value) : Blk (set6w V b x0 x1 x2 x3 x4 x5) b t #[x0, x1, x2, x3, x4, x5] := (((((h.set 0 x0).set 1 x1).set 2 x2).set 3 x3).set 4 x4).set 5 x5
theorem size_set6w (V : World) (b : Nat) (x0 x1 x2 x3 x4 x5 : Value) : (set6w V b x0 x1 x2 x3 x4 x5).heap.size = V.heap.size := by unfold Go.Proofs.YtdlahabeegmjiaaDoor.set6w; simp
/-- A node's fields stored into a new block. -/
theorem ncp (V : World) (t : TypeId) (x0 x1 x2 x3 x4 x5 : Value) : ∃ Va V2, V.alloc (.cells #[.int .i64 0, .int .i64 0, .slice none 0 0, .slice none 0 0, .slice none 0 0, .int .i64 0] t) = Va ∧ Va.cell? ⟨V.heap.size, 0, none⟩ = some (.int .i64 0) ∧ Va.cell? ⟨V.heap.size, 1, none⟩ = some (.int .i64 0) ∧ Va.cell? ⟨V.heap.size, 2, none⟩ = some (.slice none 0 0) ∧ Va.cell? ⟨V.heap.size, 3, none⟩ = some (.slice none 0 0) ∧ Va.cell? ⟨V.heap.size, 4, none⟩ = some (.slice none 0 0) ∧ Va.cell? ⟨V.heap.size, 5, none⟩ = some (.int .i64 0) ∧ Va.frozen? ⟨V.heap.size, 0, none⟩ = false ∧ Va.frozen? ⟨V.heap.size, 1, none⟩ = false ∧ Va.frozen? ⟨V.heap.size, 2, none⟩ = false ∧ Va.frozen? ⟨V.heap.size, 3, none⟩ = false ∧ Va.frozen? ⟨V.heap.size, 4, none⟩ = false ∧ Va.frozen? ⟨V.heap.size, 5, none⟩ = false ∧ (((((Va.setCell ⟨V.heap.size, 0, none⟩ x0).setCell ⟨V.heap.size, 1, none⟩ x1).setCell ⟨V.heap.size, 2, none⟩ x2).setCell ⟨V.heap.size, 3, none⟩ x3).setCell ⟨V.heap.size, 4, none⟩ x4).setCell ⟨V.heap.size, 5, none⟩ x5 = V2 ∧ Blk V2 V.heap.size t #[x0, x1, x2, x3, x4, x5] ∧ Below V.heap.size V V2 := by
  have hb := Blk.new V t #[.int .i64 0, .int .i64 0, .slice none 0 0, .slice none 0 0, .slice none 0 0, .int .i64 0]
  have hA : Below V.heap.size V (V.alloc (.cells #[.int .i64 0, .int .i64 0, .slice none 0 0, .slice none 0 0, .slice none 0 0, .int .i64 0] t)) := (Below.refl _ _).alloc (Nat.le_refl _) _
  exact ⟨_, _, rfl, hb.cell 0, hb.cell 1, hb.cell 2, hb.cell 3, hb.cell 4, hb.cell 5, hb.frozen 0, hb.frozen 1, hb.frozen 2, hb.frozen 3, hb.frozen 4, hb.frozen 5, rfl, hb.set6w x0 x1 x2 x3 x4 x5, (((((hA.setCell (Nat.le_refl _) _).setCell (Nat.le_refl _) _).setCell (Nat.le_refl _) _).setCell (Nat.le_refl _) _).setCell (Nat.le_refl _) _).setCell (Nat.le_refl _) _⟩
end Go.Proofs.YtdlahabeegmjiaaDoor

namespace Go.Proofs.YtdlahabeegmjiaaDoor
open Go.RowKit

/-- Its node is laid, all zero. -/
def zN : Array Value := #[.int .i64 0, .int .i64 0, .slice none 0 0, .slice none 0 0, .slice none 0 0, .int .i64 0]
theorem gw_set6w (V : World) (b : Nat) (x0 x1 x2 x3 x4 x5 : Value) : Gw (· = b) V (set6w V b x0 x1 x2 x3 x4 x5) := (((((Gw.set V b 0 x0).trans (Gw.set _ b 1 x1) (fun _ _ q => q)).trans (Gw.set _ b 2 x2) (fun _ _ q => q)).trans (Gw.set _ b 3 x3) (fun _ _ q => q)).trans (Gw.set _ b 4 x4) (fun _ _ q => q)).trans (Gw.set _ b 5 x5) (fun _ _ q => q)
end Go.Proofs.YtdlahabeegmjiaaDoor

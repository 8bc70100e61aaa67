/-
  append of one number, as a step of a region that draws.
  A layout under way in a block of its own: its rows are the call's own.
  Slices of bools: what they read as; marks.
  The walk of l4sum.
  The walks of l4order, l4cells.
-/
import Derived.Test.YtijdlbanfdhfnaaGreatDoorJDnAI0
import Derived.Deep.RegionLaw
import Derived.Test.YtijdlbanfdhfnaaGreatDoorJDnTgOW
import Derived.Test.YtijdlbanfdhfnaaGreatDoorJDnDc2
import Derived.Test.YtijdlbanfdhfnaaGreatDoorJDnDNP
import Derived.BigQuiet
import Derived.Deep.QuietTactic
namespace Go.Proofs.YtijdlbanfdhfnaaGreatDoor
open Go.RowKit

/-- append of one number onto a row of the call's own. -/
theorem step_app1 {ops : Array Oper} {o : Oper} {a : Act} {w : World} {K : Act → World → Prop} {Q : Exit → Act → World → Prop} {E : Prop} (hgd : o.guard = none) (s x : Operand)
    (ho : o.op = .call { callee := .builtin .append, args := #[s, x], argTypes := #[24, 24] }) (B : Nat) (v : Value) (xs : List Int) (hs : a.eval s = v) (hown : Ow w B v xs)
    (g c : Nat) (y : Int) (hx : a.eval x = .slice (some ⟨g, 0, none⟩) 1 c) (hnew : w.cell? ⟨g, 0, none⟩ = some (.int .i64 y)) (hlen : xs.length ≤ 10000000) (hbase : B ≤ w.heap.size)
    (h : ∀ v' w', Ap w w' B v v' (xs ++ [y]) → K (a.put o.dst v') w') :
    if Region.wanted o (yielded ops a.tmps) = true then Oper.wp Tryz.prog o a w K Q else E := by
  have hw : Region.wanted o (yielded ops a.tmps) = true := by simp [Region.wanted, hgd]
  rw [if_pos hw]
  obtain ⟨i0, hi, hz0, hz1, hz2⟩ := info_partsI Tryz.info3
  have hn : ∀ j u, (ci [y])[j]? = some u → w.cell? ((⟨g, 0, none⟩ : Addr).add j) = some u := fun j u hj => by
    match j, hj with
    | 0, hj =>
      have e : (⟨g, 0, none⟩ : Addr).add 0 = ⟨g, 0, none⟩ := by unfold Addr.add; split <;> simp_all
      rw [e, hnew, ← hj]
      rfl
  obtain ⟨v', w', hr, h1, h2, _, h4⟩ := run_append_own_at (P := Tryz.prog) w B 24 o.type 3 i0 (.int .i64 0) 1 8 Tryz.underlying24 hi hz0 hz1 hz2 rfl (by decide) v xs.length (ci xs) hown ⟨g, 0, none⟩ 1 c (ci [y]) (ci_length [y]) hn (ci_one _) (by unfold maxLen; omega) (by omega) hbase
  unfold Oper.wp execOp
  simp only [ho, resolve, invoke, builtin, Sem.run_bind, Sem.run_pure, Result.andThen_ok, List.map_toArray, List.map_cons, List.map_nil, hs, hx, hr]
  refine h v' w' ⟨?_, h2, h4⟩
  unfold Ow
  rw [List.length_append, ci_append]
  exact h1
end Go.Proofs.YtijdlbanfdhfnaaGreatDoor

namespace Go.Proofs.YtijdlbanfdhfnaaGreatDoor
open Go.RowKit

/-- A layout under way in the block Lb. -/
structure LyI (w : World) (Lb : Nat) (W H : Int) (v2 v3 v4 : Value) (C E : List Int) (T : List (Tg × Value)) : Prop where
  blk : Blk w Lb 27 #[.int .i64 W, .int .i64 H, v2, v3, v4]
  o2 : Ow w (Lb + 1) v2 C
  o3 : Ow w (Lb + 1) v3 E
  ap : Apt v2 v3
  o4 : TgOw w (Lb + 1) v4 T
theorem LyI.below {w w' : World} {Lb : Nat} {W H : Int} {v2 v3 v4 : Value} {C E : List Int} {T : List (Tg × Value)} (h : LyI w Lb W H v2 v3 v4 C E T) (hb : Below w.heap.size w w') : LyI w' Lb W H v2 v3 v4 C E T :=
  ⟨h.blk.below hb, h.o2.below hb, h.o3.below hb, h.ap, h.o4.kept hb⟩
theorem LyI.app2 {w w' : World} {Lb : Nat} {W H : Int} {v2 v3 v4 v' : Value} {C E C' : List Int} {T : List (Tg × Value)} (h : LyI w Lb W H v2 v3 v4 C E T) (a : Ap w w' (Lb + 1) v2 v' C') : LyI (w'.setCell ⟨Lb, 2, none⟩ v') Lb W H v' v3 v4 C' E T := by
  have hb : Blk w' Lb 27 _ := app_typed h.blk (by decide) h.o2 a.gr
  refine ⟨hb.set 2 v', a.own.other hb (by decide), (h.o3.apart a.gr h.ap.symm).other hb (by decide), (h.ap.symm.new h.o3 a.at').symm, own_typed h.o4 fun _ _ q => set_typed hb (app_typed q (by decide) h.o2 a.gr) (by decide)⟩
theorem LyI.app3 {w w' : World} {Lb : Nat} {W H : Int} {v2 v3 v4 v' : Value} {C E E' : List Int} {T : List (Tg × Value)} (h : LyI w Lb W H v2 v3 v4 C E T) (a : Ap w w' (Lb + 1) v3 v' E') : LyI (w'.setCell ⟨Lb, 3, none⟩ v') Lb W H v2 v' v4 C E' T := by
  have hb : Blk w' Lb 27 _ := app_typed h.blk (by decide) h.o3 a.gr
  refine ⟨hb.set 3 v', (h.o2.apart a.gr h.ap).other hb (by decide), a.own.other hb (by decide), h.ap.new h.o2 a.at', own_typed h.o4 fun _ _ q => set_typed hb (app_typed q (by decide) h.o3 a.gr) (by decide)⟩
/-- Other targets are put in. -/
theorem LyI.put4 {w : World} {Lb : Nat} {W H : Int} {v2 v3 v4 v' : Value} {C E : List Int} {T T' : List (Tg × Value)} (h : LyI w Lb W H v2 v3 v4 C E T) (o : TgOw w (Lb + 1) v' T') : LyI (w.setCell ⟨Lb, 4, none⟩ v') Lb W H v2 v3 v' C E T' :=
  ⟨h.blk.set 4 v', h.o2.other h.blk (by decide), h.o3.other h.blk (by decide), h.ap, own_typed o fun _ _ q => set_typed h.blk q (by decide)⟩
/-- A row of targets was grown: the others stay. -/
theorem LyI.grown {w w' : World} {Lb : Nat} {W H : Int} {v2 v3 v4 u : Value} {C E : List Int} {T X : List (Tg × Value)} (h : LyI w Lb W H v2 v3 v4 C E T) {B : Nat} (ho : TgOw w B u X) (hg : w.grownBy w' u.ownBlock) (ha : Apt v4 u) : LyI w' Lb W H v2 v3 v4 C E T :=
  ⟨app_typed h.blk (by decide) ho hg, own_typed h.o2 fun _ _ q => app_typed q (by decide) ho hg, own_typed h.o3 fun _ _ q => app_typed q (by decide) ho hg, h.ap, World.ownsRow.kept h.o4 hg ha⟩
/-- A cell of another type's block was written. -/
theorem LyI.other {w : World} {Lb G k : Nat} {W H : Int} {v2 v3 v4 x : Value} {C E : List Int} {T : List (Tg × Value)} {t : TypeId} {cs : Array Value} (h : LyI w Lb W H v2 v3 v4 C E T) (hG : Blk w G t cs) (h1 : t ≠ 3) (h2 : t ≠ 27) (h3 : t ≠ 50) : LyI (w.setCell ⟨G, k, none⟩ x) Lb W H v2 v3 v4 C E T :=
  ⟨set_typed hG h.blk (fun e => h2 e.symm), h.o2.other hG h1, h.o3.other hG h1, h.ap, own_typed h.o4 fun _ _ q => set_typed hG q (fun e => h3 e.symm)⟩
end Go.Proofs.YtijdlbanfdhfnaaGreatDoor

namespace Go.Proofs.YtijdlbanfdhfnaaGreatDoor
open Go.RowKit

/-- A slice of bools reads as l. -/
def VS (w : World) (v : Value) (l : List Bool) : Prop := ∃ a b o c, v = .slice a l.length c ∧ (0 < l.length → a = some ⟨b, o, none⟩) ∧ ∀ j, j < l.length → w.cell? ⟨b, o + j, none⟩ = some (.bool (l.getD j false))
theorem VS.below {w w' : World} {v : Value} {l : List Bool} (h : VS w v l) (hb : Below w.heap.size w w') : VS w' v l := by
  obtain ⟨a, b, o, c, h1, h2, h3⟩ := h
  exact ⟨a, b, o, c, h1, h2, fun j hj => cell_kept (h3 j hj) hb⟩
theorem VS.slice {w : World} {v : Value} {l : List Bool} (h : VS w v l) : ∃ a c, v = .slice a l.length c := by
  obtain ⟨a, b, o, c, h1, _⟩ := h; exact ⟨a, c, h1⟩
/-- The mark of a bool. -/
def mkV (k : Nat) : Value := .bool (decide (k % 3 = 0))
/-- A slice reads as s; its block. -/
def VF (w : World) (v : Value) (s : List Bool) (bl : List Nat) : Prop := ∃ a b o c, v = .slice a s.length c ∧ (0 < s.length → a = some ⟨b, o, none⟩) ∧ bl = (if 0 < s.length then [b] else []) ∧ ∀ j, j < s.length → w.cell? ⟨b, o + j, none⟩ = some (.bool (s.getD j false)) ∧ w.frozen? ⟨b, o + j, none⟩ = false
theorem VF.rd {w : World} {v : Value} {s : List Bool} {bl : List Nat} (h : VF w v s bl) : VS w v s := by
  obtain ⟨a, b, o, c, h1, h2, _, h3⟩ := h
  exact ⟨a, b, o, c, h1, h2, fun j hj => (h3 j hj).1⟩
theorem VF.lt {w : World} {v : Value} {s : List Bool} {bl : List Nat} (h : VF w v s bl) : ∀ g ∈ bl, g < w.heap.size := by
  obtain ⟨a, b, o, c, h1, h2, rfl, h3⟩ := h
  intro g hg
  by_cases hz : 0 < s.length
  · rw [if_pos hz] at hg
    obtain rfl := List.mem_singleton.1 hg
    exact World.block_lt_of_cell? _ _ (h3 0 hz).1
  · rw [if_neg hz] at hg; cases hg
theorem VF.keep {w w' : World} {v : Value} {s : List Bool} {bl : List Nat} (h : VF w v s bl) (hk : ∀ g ∈ bl, w'.heap[g]? = w.heap[g]?) : VF w' v s bl := by
  obtain ⟨a, b, o, c, h1, h2, rfl, h3⟩ := h
  refine ⟨a, b, o, c, h1, h2, rfl, fun j hj => ?_⟩
  have hz : 0 < s.length := by omega
  have hb := hk b (by rw [if_pos hz]; exact List.mem_singleton.2 rfl)
  exact ⟨(World.cell?_of_block (w := w) (a := ⟨b, o + j, none⟩) hb).trans (h3 j hj).1, (World.frozen?_of_block (w := w) (a := ⟨b, o + j, none⟩) hb).trans (h3 j hj).2⟩
theorem VF.below {w w' : World} {v : Value} {s : List Bool} {bl : List Nat} (h : VF w v s bl) (hb : Below w.heap.size w w') : VF w' v s bl := h.keep fun g hg => hb.block g (h.lt g hg)
theorem VF.slice {w : World} {v : Value} {s : List Bool} {bl : List Nat} (h : VF w v s bl) : ∃ a c, v = .slice a s.length c := by
  obtain ⟨a, b, o, c, h1, _⟩ := h; exact ⟨a, c, h1⟩
/-- A slice of n holds marks from k on; its block. -/
def VM (w : World) (v : Value) (n k : Nat) (bl : List Nat) : Prop := ∃ a b o c, v = .slice a n c ∧ (0 < n → a = some ⟨b, o, none⟩) ∧ bl = (if 0 < n then [b] else []) ∧ ∀ j, j < n → w.cell? ⟨b, o + j, none⟩ = some (mkV (k + j))
theorem VM.keep {w w' : World} {v : Value} {n k : Nat} {bl : List Nat} (h : VM w v n k bl) (hk : ∀ g ∈ bl, w'.heap[g]? = w.heap[g]?) : VM w' v n k bl := by
  obtain ⟨a, b, o, c, h1, h2, rfl, h3⟩ := h
  refine ⟨a, b, o, c, h1, h2, rfl, fun j hj => ?_⟩
  have hz : 0 < n := by omega
  have hb := hk b (by rw [if_pos hz]; exact List.mem_singleton.2 rfl)
  exact (World.cell?_of_block (w := w) (a := ⟨b, o + j, none⟩) hb).trans (h3 j hj)
theorem VM.lt {w : World} {v : Value} {n k : Nat} {bl : List Nat} (h : VM w v n k bl) : ∀ g ∈ bl, g < w.heap.size := by
  obtain ⟨a, b, o, c, h1, h2, rfl, h3⟩ := h
  intro g hg
  by_cases hz : 0 < n
  · rw [if_pos hz] at hg
    obtain rfl := List.mem_singleton.1 hg
    exact World.block_lt_of_cell? _ _ (h3 0 hz)
  · rw [if_neg hz] at hg; cases hg
theorem VM.below {w w' : World} {v : Value} {n k : Nat} {bl : List Nat} (h : VM w v n k bl) (hb : Below w.heap.size w w') : VM w' v n k bl := h.keep fun g hg => hb.block g (h.lt g hg)
theorem VM.slice {w : World} {v : Value} {n k : Nat} {bl : List Nat} (h : VM w v n k bl) : ∃ a c, v = .slice a n c := by
  obtain ⟨a, b, o, c, h1, _⟩ := h; exact ⟨a, c, h1⟩
end Go.Proofs.YtijdlbanfdhfnaaGreatDoor

namespace Go.Proofs.YtijdlbanfdhfnaaGreatDoor
open Go.RowKit

/-- The sum of the ways from the k-th on. -/
def smU (b : Nat → Bool) : Nat → Int
  | 0 => 0
  | k + 1 => (if b (3 - k) then 1 else 0) + 2 * smU b k
theorem smU_four (b : Nat → Bool) : smU b 4 = smW b := by
  unfold smW
  show (if b 0 then 1 else 0) + 2 * ((if b 1 then 1 else 0) + 2 * ((if b 2 then 1 else 0) + 2 * ((if b 3 then (1 : Int) else 0) + 2 * 0))) = _
  omega
theorem smU_le (b : Nat → Bool) : ∀ k, k ≤ 4 → 0 ≤ smU b k ∧ smU b k ≤ 15
  | 0, _ => by unfold smU; omega
  | 1, _ => by unfold smU smU; split <;> omega
  | 2, _ => by unfold smU smU smU; split <;> split <;> omega
  | 3, _ => by unfold smU smU smU smU; split <;> split <;> split <;> omega
  | 4, _ => by unfold smU smU smU smU smU; split <;> split <;> split <;> split <;> omega
  | k + 5, h => absurd h (by omega)

set_option maxHeartbeats 2000000 in
set_option maxRecDepth 1000000 in
theorem l4sum_any (g c : Nat) (b : Nat → Bool) (w : World) (h : ∀ j, j < 4 → w.cell? ⟨g, j, none⟩ = some (.bool (b j))) :
    Calls Tryz.prog 45 #[.slice (some ⟨g, 0, none⟩) 4 c] w fun e w' => e = .returned (.int .i64 (smW b)) ∧ w' = w := by
  have HC := hide h
  have HU := hide (smU_le b)
  clear h
  go_enter Tryz.func45, Tryz.ntmps45
  go_wp2
  go_loopw [3, 4] (fun vv ix wr => ∃ k : Nat, k ≤ 4 ∧ ix = .int .i64 (3 - (k : Int)) ∧ vv = .int .i64 (smU b k) ∧ wr = w) (fun _ ix _ => (intOf ix + 1).toNat)
  case atStart => exact ⟨0, by omega, rfl, rfl, rfl⟩
  case round =>
    obtain ⟨k, hk, rfl, rfl, rfl⟩ := hrel
    obtain ⟨z, hz⟩ : ∃ z, smU b k = z := ⟨_, rfl⟩
    obtain ⟨u0, u1⟩ := HU.out k hk
    have HZ := hide hz
    rw [hz] at u0 u1 ⊢
    clear hz
    by_cases hlt : k < 4
    · obtain ⟨i, hi⟩ : ∃ i : Nat, 3 - (k : Int) = i := ⟨3 - k, by omega⟩
      have hi4 : i < 4 := by omega
      have q1 := HC.out i hi4
      have HI : Hid (3 - k = i ∧ (3 - (k : Int)) = i) := by show _ ∧ _; omega
      have hii : (i : Int) < 4 := by omega
      obtain ⟨bi, hbi⟩ : ∃ q, b i = q := ⟨_, rfl⟩
      rw [hbi] at q1
      rw [hi]
      have HS : Hid (smU b (k + 1) = (if bi then 1 else 0) + 2 * z) := by
        show (if b (3 - k) then 1 else 0) + 2 * smU b k = _
        rw [HI.out.1, hbi, HZ.out]
      have hwm : IntKind.i64.wrap (z * 2) = z * 2 := by rw [IntKind.wrap_i64]; omega
      have hwi : IntKind.i64.wrap ((i : Int) - 1) = (i : Int) - 1 := by rw [IntKind.wrap_i64]; omega
      have hwp : IntKind.i64.wrap (z * 2 + 1) = z * 2 + 1 := by rw [IntKind.wrap_i64]; omega
      clear hi hbi
      cases bi with
      | true =>
        go_wp2
        go_roundw
        case rel => exact ⟨k + 1, by omega, by have := HI.out; congr 1; omega, by rw [HS.out]; congr 1; simp; omega, trivial⟩
        case measure => first | (simp [intOf]; done) | (simp [intOf]; omega)
      | false =>
        go_wp2
        go_roundw
        case rel => exact ⟨k + 1, by omega, by have := HI.out; congr 1; omega, by rw [HS.out]; congr 1; simp; omega, trivial⟩
        case measure => first | (simp [intOf]; done) | (simp [intOf]; omega)
    · obtain rfl : k = 4 := by omega
      have HE : Hid (z = smW b) := by show _ = _; rw [← HZ.out, smU_four]
      go_wp2
      go_ret
      exact ⟨by rw [HE.out]; rfl, rfl⟩
end Go.Proofs.YtijdlbanfdhfnaaGreatDoor

namespace Go.Proofs.YtijdlbanfdhfnaaGreatDoor
open Go.RowKit

set_option maxHeartbeats 1000000 in
set_option maxRecDepth 1000000 in
theorem l4order_any (x y : Int) (w : World) :
    Calls Tryz.prog 66 #[.int .i64 x, .int .i64 y] w fun e w' => e = .returned (.tuple #[.int .i64 (loI x y), .int .i64 (hiI x y)]) ∧ w' = w := by
  by_cases h : x ≤ y
  · have t : decide (x ≤ y) = true := decide_eq_true h
    have HR : Hid (loI x y = x ∧ hiI x y = y) := by unfold loI hiI; rw [if_pos h, if_pos h]; exact ⟨rfl, rfl⟩
    go_enter Tryz.func66, Tryz.ntmps66
    go_wp2
    go_ret2
    exact ⟨by rw [HR.out.1, HR.out.2]; rfl, rfl⟩
  · have t : decide (x ≤ y) = false := decide_eq_false h
    have HR : Hid (loI x y = y ∧ hiI x y = x) := by unfold loI hiI; rw [if_neg h, if_neg h]; exact ⟨rfl, rfl⟩
    go_enter Tryz.func66, Tryz.ntmps66
    go_wp2
    go_ret2
    exact ⟨by rw [HR.out.1, HR.out.2]; rfl, rfl⟩

set_option maxHeartbeats 4000000 in
set_option maxRecDepth 1000000 in
theorem l4cells_any (F W H : Nat) (d : Dc) (v7 : Value) (w : World) (hW : W ≤ 40) (hH : H ≤ 40) (h7 : ∃ a n c, v7 = .slice a n c)
    (f0 : w.cell? ⟨F, 0, none⟩ = some (.int .i64 (W : Nat))) (f1 : w.cell? ⟨F, 1, none⟩ = some (.int .i64 (H : Nat))) :
    Calls Tryz.prog 42 #[.pointer (some ⟨F, 0, none⟩), dcagg d v7] w fun e w' => ∃ v b, e = .returned (.tuple #[v, .bool b]) ∧ (b = true ↔ inF W H d) ∧ (inF W H d → Ow w' w.heap.size v (arL W d)) ∧ Below w.heap.size w w' := by
  obtain ⟨a7, n7, c7, rfl⟩ := h7
  unfold dcagg
  obtain ⟨W1, hW1⟩ : ∃ W, w.alloc (.cells #[.int .i64 d.kind, .int .i64 d.x1, .int .i64 d.y1, .int .i64 d.x2, .int .i64 d.y2, .int .i64 d.dir, .int .i64 d.cost, .slice a7 n7 c7, .int .i64 d.node] 42) = W := ⟨_, rfl⟩
  have hB1 : Below w.heap.size w W1 := by rw [← hW1]; exact (Below.refl _ _).alloc (Nat.le_refl _) _
  have HB1 := hide hB1
  have hBk : Blk W1 w.heap.size 42 #[.int .i64 d.kind, .int .i64 d.x1, .int .i64 d.y1, .int .i64 d.x2, .int .i64 d.y2, .int .i64 d.dir, .int .i64 d.cost, .slice a7 n7 c7, .int .i64 d.node] := by rw [← hW1]; exact Blk.new _ _ _
  have z1 := hBk.cell 1
  have z2 := hBk.cell 2
  have z3 := hBk.cell 3
  have z4 := hBk.cell 4
  simp only [List.getElem?_toArray, List.getElem?_cons_succ, List.getElem?_cons_zero] at z1 z2 z3 z4
  have HF0 : Hid (∀ V, Below w.heap.size w V → V.cell? ⟨F, 0, none⟩ = some (.int .i64 (W : Nat)) ∧ V.cell? ⟨F, 1, none⟩ = some (.int .i64 (H : Nat))) := fun V hV => ⟨cell_kept f0 hV, cell_kept f1 hV⟩
  obtain ⟨g0, g1⟩ := HF0.out W1 hB1
  have HO1 := hide (l4order_any d.x1 d.x2 W1)
  have HO2 := hide (l4order_any d.y1 d.y2 W1)
  have HIN : Hid (inF W H d ↔ 0 ≤ loI d.x1 d.x2 ∧ hiI d.x1 d.x2 < W ∧ 0 ≤ loI d.y1 d.y2 ∧ hiI d.y1 d.y2 < H) := Iff.rfl
  have HL : Hid (arL W d = arT W (loI d.x1 d.x2) (loI d.y1 d.y2) (hiI d.x1 d.x2 - loI d.x1 d.x2 + 1).toNat (hiI d.y1 d.y2 - loI d.y1 d.y2 + 1).toNat) := rfl
  have hl1 := loI_le d.x1 d.x2
  have hl2 := loI_le d.y1 d.y2
  obtain ⟨xa, hxa⟩ : ∃ q, loI d.x1 d.x2 = q := ⟨_, rfl⟩
  obtain ⟨xb, hxb⟩ : ∃ q, hiI d.x1 d.x2 = q := ⟨_, rfl⟩
  obtain ⟨ya, hya⟩ : ∃ q, loI d.y1 d.y2 = q := ⟨_, rfl⟩
  obtain ⟨yb, hyb⟩ : ∃ q, hiI d.y1 d.y2 = q := ⟨_, rfl⟩
  rw [hxa, hxb] at HO1 hl1
  rw [hya, hyb] at HO2 hl2
  rw [hxa, hxb, hya, hyb] at HIN HL
  have HW := hide hW1
  clear hW1 hBk hB1 f0 f1 hxa hxb hya hyb
  go_enter Tryz.func42, Tryz.ntmps42
  go_wp2_with fail
  rw [HW.out]
  refine HO1.out.mono ?_
  rintro e w2 ⟨rfl, hw2⟩
  have hw2 := hw2.symm
  subst hw2
  go_wp2_with fail
  refine HO2.out.mono ?_
  rintro e w2 ⟨rfl, hw2⟩
  have hw2 := hw2.symm
  subst hw2
  clear HO1 HO2 HW
  by_cases q1 : xa < 0
  · have t1 : decide (xa < 0) = true := decide_eq_true q1
    have HNO : Hid (¬ inF W H d) := fun h => by
      have h := HIN.out.1 h
      have := h.1
      omega
    go_wp2
    go_ret2
    exact ⟨_, _, rfl, ⟨fun h => (by cases h), fun h => absurd h HNO.out⟩, fun h => absurd h HNO.out, HB1.out⟩
  have t1 : decide (xa < 0) = false := decide_eq_false q1
  by_cases q2 : (W : Int) ≤ xb
  · have t2 : decide ((W : Int) ≤ xb) = true := decide_eq_true q2
    have HNO : Hid (¬ inF W H d) := fun h => by
      have h := HIN.out.1 h
      have := h.2.1
      omega
    go_wp2
    go_ret2
    exact ⟨_, _, rfl, ⟨fun h => (by cases h), fun h => absurd h HNO.out⟩, fun h => absurd h HNO.out, HB1.out⟩
  have t2 : decide ((W : Int) ≤ xb) = false := decide_eq_false q2
  by_cases q3 : ya < 0
  · have t3 : decide (ya < 0) = true := decide_eq_true q3
    have HNO : Hid (¬ inF W H d) := fun h => by
      have h := HIN.out.1 h
      have := h.2.2.1
      omega
    go_wp2
    go_ret2
    exact ⟨_, _, rfl, ⟨fun h => (by cases h), fun h => absurd h HNO.out⟩, fun h => absurd h HNO.out, HB1.out⟩
  have t3 : decide (ya < 0) = false := decide_eq_false q3
  by_cases q4 : (H : Int) ≤ yb
  · have t4 : decide ((H : Int) ≤ yb) = true := decide_eq_true q4
    have HNO : Hid (¬ inF W H d) := fun h => by
      have h := HIN.out.1 h
      have := h.2.2.2
      omega
    go_wp2
    go_ret2
    exact ⟨_, _, rfl, ⟨fun h => (by cases h), fun h => absurd h HNO.out⟩, fun h => absurd h HNO.out, HB1.out⟩
  have t4 : decide ((H : Int) ≤ yb) = false := decide_eq_false q4
  have HYES : Hid (inF W H d) := HIN.out.2 ⟨by omega, by omega, by omega, by omega⟩
  obtain ⟨x0, hx0⟩ : ∃ x0 : Nat, xa = x0 := ⟨xa.toNat, by omega⟩
  obtain ⟨y0, hy0⟩ : ∃ y0 : Nat, ya = y0 := ⟨ya.toNat, by omega⟩
  obtain ⟨x9, hx9⟩ : ∃ x9 : Nat, xb = x9 := ⟨xb.toNat, by omega⟩
  obtain ⟨y9, hy9⟩ : ∃ y9 : Nat, yb = y9 := ⟨yb.toNat, by omega⟩
  subst hx0 hy0 hx9 hy9
  have hx9 : x0 ≤ x9 := by omega
  have hy9 : y0 ≤ y9 := by omega
  have HLL : Hid (arL W d = arT W (x0 : Int) (y0 : Int) (x9 + 1 - x0) (y9 + 1 - y0)) := by
    show _ = _
    rw [HL.out, show ((x9 : Int) - (x0 : Int) + 1).toNat = x9 + 1 - x0 by omega, show ((y9 : Int) - (y0 : Int) + 1).toNat = y9 + 1 - y0 by omega]
  have hxn : x9 < 40 := by omega
  have hym : y9 < 40 := by omega
  have s2 : decide (W ≤ x9) = false := decide_eq_false (by omega)
  have s4 : decide (H ≤ y9) = false := decide_eq_false (by omega)
  clear HL HIN hl1 hl2
  go_wp2
  clear t1 t2 t3 t4 s2 s4 q1 q2 q3 q4 g0 g1 z1 z2 z3 z4
  go_loopw [10, 11] (fun out ix wr => ∃ (iy : Nat) (X : List Int), y0 ≤ iy ∧ iy ≤ y9 + 1 ∧ ix = .int .i64 iy ∧ X = arT W (x0 : Int) (y0 : Int) (x9 + 1 - x0) (iy - y0) ∧ wr.ownsRow w.heap.size 3 1 out X.length (ci X) ∧ Below w.heap.size w wr) (fun _ ix _ => y9 + 1 - (intOf ix).toNat)
  case atStart => exact ⟨y0, [], Nat.le_refl _, by omega, rfl, by rw [Nat.sub_self]; rfl, World.ownsRow_nil _ _ _ _, HB1.out⟩
  case round =>
    obtain ⟨iy, X, hi0, hi1, rfl, hX, hown, hbl⟩ := hrel
    have HX := hide hX
    have HOW := hide hown
    have HB := hide hbl
    clear hX hown hbl
    by_cases hlt : iy ≤ y9
    · have tl : decide ((iy : Int) ≤ (y9 : Int)) = true := decide_eq_true (by omega)
      go_wp2
      clear tl
      rename World => wo
      go_loopw [10, 12] (fun out ix wr => ∃ (jx : Nat) (Z : List Int), x0 ≤ jx ∧ jx ≤ x9 + 1 ∧ ix = .int .i64 jx ∧ Z = X ++ arR W (x0 : Int) (iy : Int) (jx - x0) ∧ wr.ownsRow w.heap.size 3 1 out Z.length (ci Z) ∧ Below w.heap.size w wr) (fun _ ix _ => x9 + 1 - (intOf ix).toNat)
      case atStart => exact ⟨x0, X, Nat.le_refl _, by omega, rfl, by rw [Nat.sub_self]; exact (List.append_nil _).symm, HOW.out, HB.out⟩
      case round =>
        clear HOW HB
        obtain ⟨jx, Z, hj0, hj1, rfl, hZ, hown, hbl⟩ := hrel
        have HZ := hide hZ
        have HOW := hide hown
        have HB := hide hbl
        have hZL : Z.length ≤ 4000 := by
          rw [hZ, List.length_append, arR_length, HX.out, arT_length]
          have : (iy - y0) * (x9 + 1 - x0) ≤ 40 * 40 := Nat.mul_le_mul (by omega) (by omega)
          omega
        by_cases hl2 : jx ≤ x9
        · have t2 : decide ((jx : Int) ≤ (x9 : Int)) = true := decide_eq_true (by omega)
          rename World => V
          obtain ⟨g0, _⟩ := HF0.out V hbl
          obtain ⟨p, hp⟩ : ∃ p : Nat, iy * W = p := ⟨_, rfl⟩
          have hp2 : p ≤ 40 * 40 := by rw [← hp]; exact Nat.mul_le_mul (by omega) (by omega)
          have hpi : (iy : Int) * (W : Int) = (p : Int) := by rw [← hp, Int.natCast_mul]
          have hw1 : IntKind.i64.wrap ((iy : Int) * (W : Int)) = (p : Int) := by rw [hpi, IntKind.wrap_i64]; omega
          obtain ⟨c, hc⟩ : ∃ c : Nat, p + jx = c := ⟨_, rfl⟩
          have hw2 : IntKind.i64.wrap ((p : Int) + (jx : Int)) = (c : Int) := by rw [IntKind.wrap_i64]; omega
          have HCC : Hid ((iy : Int) * (W : Int) + (jx : Int) = (c : Int)) := by show _ = _; omega
          have hVs := hbl.size
          clear hZ hown hbl hp hp2 hpi hc
          go_wp2_with (at_builtin; refine wp_app_i rfl _ _ rfl w.heap.size _ Z rfl (HOW.out.alloc _) V.heap.size 1 [(c : Int)] rfl ?n1 ?l1 ?b1 ?_)
          case n1 =>
            intro j hj
            obtain rfl : j = 0 := by simp at hj; omega
            exact (Blk.new _ _ _).cell 0
          case l1 => first | omega | (simp; omega)
          case b1 => first | omega | (simp; omega)
          intro v' w3 l hl3 ho hg
          have HO3 := hide ho
          have HB3 : Hid (Below w.heap.size w w3) := app_below_i (HB.out.alloc hVs _) (HOW.out.alloc _) (by simp; omega) hg
          have HL3 : Hid (l = X ++ arR W (x0 : Int) (iy : Int) (jx + 1 - x0)) := by
            show _ = _
            rw [hl3.out, HZ.out, show jx + 1 - x0 = (jx - x0) + 1 by omega, List.append_assoc]
            show X ++ (_ ++ [(c : Int)]) = X ++ (arR W (x0 : Int) (iy : Int) (jx - x0) ++ [(iy : Int) * (W : Int) + ((x0 : Int) + ((jx - x0 : Nat) : Int))])
            rw [show (x0 : Int) + ((jx - x0 : Nat) : Int) = (jx : Int) by omega, HCC.out]
          clear ho hg hl3
          go_wp2
          go_roundw
          case rel => exact ⟨jx + 1, l, by omega, by omega, by go_num, HL3.out, HO3.out, HB3.out⟩
          case measure => simp [intOf]; omega
        · have t2 : decide ((jx : Int) ≤ (x9 : Int)) = false := decide_eq_false (by omega)
          obtain rfl : jx = x9 + 1 := by omega
          have HZ2 : Hid (Z = arT W (x0 : Int) (y0 : Int) (x9 + 1 - x0) (iy + 1 - y0)) := by
            show _ = _
            rw [HZ.out, HX.out, show iy + 1 - y0 = (iy - y0) + 1 by omega]
            show _ = arT W (x0 : Int) (y0 : Int) (x9 + 1 - x0) (iy - y0) ++ arR W (x0 : Int) ((y0 : Int) + ((iy - y0 : Nat) : Int)) (x9 + 1 - x0)
            rw [show (y0 : Int) + ((iy - y0 : Nat) : Int) = (iy : Int) by omega]
          clear hZ hown hbl
          go_wp2
          go_roundw
          case rel => exact ⟨iy + 1, Z, by omega, by omega, by go_num, HZ2.out, HOW.out, HB.out⟩
          case measure => simp [intOf]; omega
    · have tl : decide ((iy : Int) ≤ (y9 : Int)) = false := decide_eq_false (by omega)
      obtain rfl : iy = y9 + 1 := by omega
      go_wp2
      go_ret2
      exact ⟨_, _, rfl, ⟨fun _ => HYES.out, fun _ => rfl⟩, fun _ => by rw [HLL.out, ← HX.out]; exact HOW.out, HB.out⟩
end Go.Proofs.YtijdlbanfdhfnaaGreatDoor

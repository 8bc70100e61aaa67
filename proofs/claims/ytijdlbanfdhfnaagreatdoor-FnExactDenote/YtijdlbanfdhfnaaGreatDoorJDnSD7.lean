/-
  The walk of l4target where targets are too many, or a name is empty.
  Plain facts on literals: what a byte is written as. No run of the program stands in this text.
  Appends of bytes onto rows of the call's own.
-/
import Derived.Test.YtijdlbanfdhfnaaGreatDoorJDnSD5
import Derived.Laws.BytesString
import Derived.BigQuiet
import Derived.Deep.QuietTactic
import Derived.Test.YtijdlbanfdhfnaaGreatDoorJDnT
import Derived.Lib.RuneBytes
import Derived.Deep.RegionLaw
namespace Go.Proofs.YtijdlbanfdhfnaaGreatDoor
open Go.RowKit

set_option maxHeartbeats 4000000 in
set_option maxRecDepth 1000000 in
theorem l4target_7 (F bw bc bd cw cc cd : Nat) (G : Nat → Nat) (f : Flo) (vt vf : Value) (ns : List (Tg × Value)) (d : Dc) (v7 : Value) (i : Int) (w : World) (hf : FloOk f) (h7 : BS w v7 d.name) (hm : FlM w F bw bc bd cw cc cd G f vt vf ns) (hn : d.name.size ≠ 0) (ht : ¬ tkn2 f.tgs (tgOf f d)) (h30 : 30 ≤ f.tgs.length) :
    Calls Tryz.prog 43 #[.pointer (some ⟨F, 0, none⟩), dcagg d v7, .int .i64 (tgOf f d).cell, .int .i64 i] w fun e w' => e = .returned (.int .i64 7) ∧ Below w.heap.size w w' := by
  have HNS : Hid (ns.length ≤ 30) := by have := hf.tl; rw [← hm.ts, List.length_map] at this; exact this
  obtain ⟨at_, ct, hvt⟩ := hm.tg.slice
  obtain ⟨a0, b0, c0, hv0, ha0, hc0, _⟩ := hm.tg.view
  have HNT : Hid (∀ (j : Nat) (p : Tg × Value), ns[j]? = some p → p.1.name ≠ d.name ∧ p.1.cell ≠ (tgOf f d).cell) := fun j p hp => by
    have hx : p.1 ∈ f.tgs := by rw [← hm.ts]; exact List.mem_map.2 ⟨p, List.mem_of_getElem? hp, rfl⟩
    exact ⟨fun e => ht ⟨p.1, hx, .inl e⟩, fun e => ht ⟨p.1, hx, .inr e⟩⟩
  have h30n : 30 ≤ ns.length := by rw [← hm.ts, List.length_map] at h30; exact h30
  have HCE : Hid (∀ V, Below w.heap.size w V → ∀ j, j < ns.length → ∀ p, ns[j]? = some p → V.cell? ⟨b0, j * 3, none⟩ = some p.2 ∧ V.cell? ⟨b0, j * 3 + 2, none⟩ = some (.int .i64 p.1.cell) ∧ BS V p.2 p.1.name) := fun V hV j hj p hp => by
    have h0 := hc0 j hj p hp 0 (by omega)
    have h2 := hc0 j hj p hp 2 (by omega)
    obtain ⟨g, c, e1, e2⟩ := hm.tn p (List.mem_of_getElem? hp)
    refine ⟨cell_kept h0 hV, cell_kept h2 hV, ?_⟩
    rw [e1]
    exact ⟨_, g, 0, c, rfl, fun _ => rfl, fun j hj => by rw [Nat.zero_add]; exact (e2.below hV).cell hj⟩
  have x5 := hm.blk.cell 5
  simp only [List.getElem?_toArray, List.getElem?_cons_succ, List.getElem?_cons_zero] at x5
  have HX5 : Hid (∀ V, Below w.heap.size w V → V.cell? ⟨F, 5, none⟩ = some (.slice a0 ns.length c0)) := fun V hV => by rw [← hv0]; exact cell_kept x5 hV
  have HA0 : Hid (0 < ns.length → a0 = some ⟨b0, 0, none⟩) := fun h => (ha0 h).1
  have HN7 := hide h7
  obtain ⟨a7, c7, rfl⟩ := h7.slice
  unfold dcagg
  obtain ⟨cell, hcell⟩ : ∃ c, (tgOf f d).cell = c := ⟨_, rfl⟩
  rw [hcell] at HNT ⊢
  obtain ⟨W1, hW1⟩ : ∃ W, w.alloc (.cells #[.int .i64 d.kind, .int .i64 d.x1, .int .i64 d.y1, .int .i64 d.x2, .int .i64 d.y2, .int .i64 d.dir, .int .i64 d.cost, .slice a7 d.name.size c7, .int .i64 d.node] 42) = W := ⟨_, rfl⟩
  have hB1 : Below w.heap.size w W1 := by rw [← hW1]; exact (Below.refl _ _).alloc (Nat.le_refl _) _
  have HB1 := hide hB1
  have HBK : Hid (Blk W1 w.heap.size 42 #[.int .i64 d.kind, .int .i64 d.x1, .int .i64 d.y1, .int .i64 d.x2, .int .i64 d.y2, .int .i64 d.dir, .int .i64 d.cost, .slice a7 d.name.size c7, .int .i64 d.node]) := by rw [← hW1]; exact Blk.new _ _ _
  have z7 := HBK.out.cell 7
  simp only [List.getElem?_toArray, List.getElem?_cons_succ, List.getElem?_cons_zero] at z7
  have t0 : (((d.name.size : Nat) : Int) == 0) = false := by rw [beq_eq_false_iff_ne]; omega
  have x1 := HX5.out W1 hB1
  have hns := HNS.out
  have hW := hW1
  clear hf h7 hm ht h30 hvt hv0 ha0 hc0 x5 hcell hW1 hB1 hn
  go_enter Tryz.func43, Tryz.ntmps43
  go_wp2
  clear x1 z7 hW t0
  go_loopw [9] (fun ix wr => ∃ k : Nat, k ≤ ns.length ∧ ix = .int .i64 k ∧ Below W1.heap.size W1 wr) (fun ix _ => ns.length - (intOf ix).toNat)
  case atStart => exact ⟨0, Nat.zero_le _, rfl, Below.refl _ _⟩
  case round =>
    obtain ⟨k, hk, rfl, hbl⟩ := hrel
    rename World => V
    have HBE : Hid (Below w.heap.size w V) := HB1.out.trans (hbl.mono HB1.out.size)
    have HBW := hide hbl
    have z7 := (HBK.out.below hbl).cell 7
    simp only [List.getElem?_toArray, List.getElem?_cons_succ, List.getElem?_cons_zero] at z7
    have x1 := HX5.out V HBE.out
    by_cases hlt : ¬ k < ns.length
    · have hge : ¬ (k : Int) < (ns.length : Int) := by omega
      obtain rfl : k = ns.length := by omega
      have t30 : decide ((30 : Int) ≤ (ns.length : Int)) = true := decide_eq_true (by omega)
      clear hbl
      go_wp2
      go_ret
      exact ⟨rfl, HBE.out⟩
    have hlt := Classical.not_not.1 hlt
    have hlti : (k : Int) < (ns.length : Int) := by omega
    obtain rfl := HA0.out (by omega)
    obtain ⟨p, hp⟩ : ∃ p, ns[k]? = some p := ⟨_, List.getElem?_eq_getElem hlt⟩
    obtain ⟨g0, g2, hbs⟩ := HCE.out V HBE.out k hlt p hp
    obtain ⟨nm, hnm⟩ : ∃ m, p.1.name = m := ⟨_, rfl⟩
    obtain ⟨ce, hce⟩ : ∃ m, p.1.cell = m := ⟨_, rfl⟩
    obtain ⟨pv, hpv⟩ : ∃ m, p.2 = m := ⟨_, rfl⟩
    rw [hpv] at g0 hbs
    rw [hnm] at hbs
    rw [hce] at g2
    have hnn := HNT.out k p hp
    rw [hnm, hce] at hnn
    obtain ⟨an, cn, rfl⟩ := hbs.slice
    have c5 : ∀ n, (convert 38 9 (.slice an nm.size cn)).run Tryz.prog (V.drewN n) = .ok (.string nm) (V.drewN n) := fun n => toStr_bs (w := V.drewN n) hbs
    have c6 : ∀ n, (convert 38 9 (.slice a7 d.name.size c7)).run Tryz.prog (V.drewN n) = .ok (.string d.name) (V.drewN n) := fun n => toStr_bs (w := V.drewN n) (HN7.out.below (below_drewN HBE.out n))
    obtain ⟨s, hs⟩ : ∃ s, d.name = s := ⟨_, rfl⟩
    rw [hs] at c6 z7 hnn
    obtain ⟨q, q2⟩ := hnn
    clear hbl hp hnm hce hpv hbs
    have s6 : (nm.toList == s.toList) = false := by
      rw [beq_eq_false_iff_ne]
      intro h
      exact q (tl_inj h)
    have s7 : (ce == cell) = false := by rw [beq_eq_false_iff_ne]; exact q2
    clear q q2 hs
    go_wp2_with fail
    go_quiet (fail)
    go_wp2
    go_roundw
    case rel => exact ⟨k + 1, by omega, by go_num, below_drewN HBW.out _⟩
    case measure => simp [intOf]; omega

set_option maxHeartbeats 1000000 in
set_option maxRecDepth 1000000 in
theorem l4target_0 (F : Nat) (d : Dc) (v7 : Value) (cell i : Int) (w : World) (h7 : BS w v7 d.name) (hn : d.name.size = 0) :
    Calls Tryz.prog 43 #[.pointer (some ⟨F, 0, none⟩), dcagg d v7, .int .i64 cell, .int .i64 i] w fun e w' => e = .returned (.int .i64 8) ∧ Below w.heap.size w w' := by
  obtain ⟨a7, c7, rfl⟩ := h7.slice
  unfold dcagg
  rw [hn]
  have hBk := (Blk.new w 42 #[.int .i64 d.kind, .int .i64 d.x1, .int .i64 d.y1, .int .i64 d.x2, .int .i64 d.y2, .int .i64 d.dir, .int .i64 d.cost, .slice a7 0 c7, .int .i64 d.node])
  have z7 := hBk.cell 7
  simp only [List.getElem?_toArray, List.getElem?_cons_succ, List.getElem?_cons_zero] at z7
  clear hn h7 hBk
  go_enter Tryz.func43, Tryz.ntmps43
  go_wp2
  go_ret
  exact ⟨rfl, (Below.refl _ _).alloc (Nat.le_refl _) _⟩
end Go.Proofs.YtijdlbanfdhfnaaGreatDoor

namespace Go.Proofs.YtijdlbanfdhfnaaGreatDoor
open Go.RowKit

def dg (k : Nat) : Nat := if k < 10 then 48 + k else 87 + k
def hexL (c : Nat) : List Nat := if c < 16 then [dg c] else [dg (c / 16), dg (c % 16)]
/-- What a byte is written as in a literal. -/
def qb (c : Nat) : List Nat := if c = 34 ∨ c = 92 then [92, c] else if c < 32 ∨ c = 127 then [92, 117, 123] ++ hexL c ++ [125] else [c]
/-- Numbers as cells. -/
def cv (l : List Nat) : List Value := l.map fun n : Nat => Value.int .u8 (n : Int)
def qTo (s : ByteArray) : Nat → List Nat
  | 0 => [34]
  | k + 1 => qTo s k ++ qb (s.get! k).toNat

theorem cv_length (l : List Nat) : (cv l).length = l.length := by simp [cv]
theorem cv_append (a b : List Nat) : cv (a ++ b) = cv a ++ cv b := by simp [cv]
theorem hexL_le (c : Nat) : (hexL c).length ≤ 2 := by unfold hexL; split <;> simp
theorem qb_le (c : Nat) : (qb c).length ≤ 6 := by
  have := hexL_le c
  unfold qb
  split
  · simp
  · split
    · simp; omega
    · simp
theorem qTo_le (s : ByteArray) (k : Nat) : (qTo s k).length ≤ 6 * k + 1 := by
  induction k with
  | zero => simp [qTo]
  | succ k ih => have := qb_le (s.get! k).toNat; rw [qTo, List.length_append]; omega
theorem cv_one (l : List Nat) : ∀ u ∈ cv l, u.oneCell' = true := by
  intro u hu
  simp only [cv, List.mem_map] at hu
  obtain ⟨n, _, rfl⟩ := hu
  rfl

theorem qb_high {c : Nat} (h : 128 ≤ c) : qb c = [c] := by unfold qb; rw [if_neg (by omega), if_neg (by omega)]
theorem qTo_two (s : ByteArray) (p : Nat) (h0 : 128 ≤ bk s p 0) (h1 : 128 ≤ bk s p 1) : qTo s (p + 2) = qTo s p ++ [bk s p 0, bk s p 1] := by
  show qTo s p ++ qb (bk s p 0) ++ qb (bk s p 1) = _
  rw [qb_high h0, qb_high h1]; simp
theorem qTo_three (s : ByteArray) (p : Nat) (h0 : 128 ≤ bk s p 0) (h1 : 128 ≤ bk s p 1) (h2 : 128 ≤ bk s p 2) : qTo s (p + 3) = qTo s p ++ [bk s p 0, bk s p 1, bk s p 2] := by
  show qTo s p ++ qb (bk s p 0) ++ qb (bk s p 1) ++ qb (bk s p 2) = _
  rw [qb_high h0, qb_high h1, qb_high h2]; simp
theorem qTo_four (s : ByteArray) (p : Nat) (h0 : 128 ≤ bk s p 0) (h1 : 128 ≤ bk s p 1) (h2 : 128 ≤ bk s p 2) (h3 : 128 ≤ bk s p 3) : qTo s (p + 4) = qTo s p ++ [bk s p 0, bk s p 1, bk s p 2, bk s p 3] := by
  show qTo s p ++ qb (bk s p 0) ++ qb (bk s p 1) ++ qb (bk s p 2) ++ qb (bk s p 3) = _
  rw [qb_high h0, qb_high h1, qb_high h2, qb_high h3]; simp

/-- A character beyond ASCII: its bytes are its shortest form, and stand as they are in a literal. -/
theorem qTo_rune (s : ByteArray) (p : Nat) (hp : p < s.size) (h : (chr s p).1 ≠ 0) (h0 : 128 ≤ bk s p 0) :
    ∃ ys, qTo s (p + (chr s p).1) = qTo s p ++ ys ∧ cv ys = Lib.runeCells ((chr s p).2 : Int) ∧ 128 ≤ (chr s p).2 ∧ (chr s p).2 ≤ 1114111 ∧ p + (chr s p).1 ≤ s.size := by
  have b0 := bk_lt s p 0
  have b1 := bk_lt s p 1
  have b2 := bk_lt s p 2
  have b3 := bk_lt s p 3
  have hn : ¬ (bk s p 0 < 192 ∨ 248 ≤ bk s p 0) := fun g => h (by rw [chr_none s p h0 g])
  by_cases h2 : bk s p 0 < 224
  · have g := chr_two s p hp (by omega) h2
    by_cases ok : okc s p 2 (bk s p 0 - 192)
    · rw [g.1 ok]
      have hc := (conts_two _).1 ok.2.1
      have hu := (ulen_two _).1 ok.2.2.2
      simp only [vacc, Nat.zero_add, Nat.add_one_sub_one] at hu ⊢
      obtain ⟨V, hV⟩ : ∃ V, (bk s p 0 - 192) * 64 + bk s p 1 % 64 = V := ⟨_, rfl⟩
      rw [hV] at hu ⊢
      refine ⟨_, qTo_two s p h0 hc.1, ?_, hu.1, by omega, ok.1⟩
      have e0 : ((bk s p 0 : Nat) : Int) = 192 + (V : Int) / 64 := by omega
      have e1 : ((bk s p 1 : Nat) : Int) = 128 + (V : Int) % 64 := by omega
      simp only [Lib.runeCells]
      rw [Lib.encodeRuneZ_two (by omega) (by omega), ← e0, ← e1]
      rfl
    · exact absurd (by rw [g.2 ok]) h
  by_cases h3 : bk s p 0 < 240
  · have g := chr_three s p hp (by omega) h3
    by_cases ok : okc s p 3 (bk s p 0 - 224)
    · rw [g.1 ok]
      have hc := (conts_three _).1 ok.2.1
      have hu := (ulen_three _).1 ok.2.2.2
      have hpt := (pointB_nat _).1 ok.2.2.1
      simp only [vacc, Nat.zero_add, Nat.add_one_sub_one, Nat.reduceAdd] at hu hpt ⊢
      obtain ⟨V, hV⟩ : ∃ V, ((bk s p 0 - 224) * 64 + bk s p 1 % 64) * 64 + bk s p 2 % 64 = V := ⟨_, rfl⟩
      rw [hV] at hu hpt ⊢
      refine ⟨_, qTo_three s p h0 hc.1.1 hc.2.1, ?_, by omega, by omega, ok.1⟩
      have e0 : ((bk s p 0 : Nat) : Int) = 224 + (V : Int) / 4096 := by omega
      have e1 : ((bk s p 1 : Nat) : Int) = 128 + (V : Int) / 64 % 64 := by omega
      have e2 : ((bk s p 2 : Nat) : Int) = 128 + (V : Int) % 64 := by omega
      simp only [Lib.runeCells]
      rw [Lib.encodeRuneZ_three (by omega), ← e0, ← e1, ← e2]
      rfl
    · exact absurd (by rw [g.2 ok]) h
  · have g := chr_four s p hp (by omega) (by omega)
    by_cases ok : okc s p 4 (bk s p 0 - 240)
    · rw [g.1 ok]
      have hc := (conts_four _).1 ok.2.1
      have hu := (ulen_four _).1 ok.2.2.2
      have hpt := (pointB_nat _).1 ok.2.2.1
      simp only [vacc, Nat.zero_add, Nat.add_one_sub_one, Nat.reduceAdd] at hu hpt ⊢
      obtain ⟨V, hV⟩ : ∃ V, (((bk s p 0 - 240) * 64 + bk s p 1 % 64) * 64 + bk s p 2 % 64) * 64 + bk s p 3 % 64 = V := ⟨_, rfl⟩
      rw [hV] at hu hpt ⊢
      refine ⟨_, qTo_four s p h0 hc.1.1 hc.2.1.1 hc.2.2.1, ?_, by omega, by omega, ok.1⟩
      have e0 : ((bk s p 0 : Nat) : Int) = 240 + (V : Int) / 262144 := by omega
      have e1 : ((bk s p 1 : Nat) : Int) = 128 + (V : Int) / 4096 % 64 := by omega
      have e2 : ((bk s p 2 : Nat) : Int) = 128 + (V : Int) / 64 % 64 := by omega
      have e3 : ((bk s p 3 : Nat) : Int) = 128 + (V : Int) % 64 := by omega
      simp only [Lib.runeCells]
      rw [Lib.encodeRuneZ_four (by omega) (by omega), ← e0, ← e1, ← e2, ← e3]
      rfl
    · exact absurd (by rw [g.2 ok]) h
/-- What QuoteText answers. -/
def quoted (s : ByteArray) : List Nat := if (chk s).1 = 0 then qTo s s.size ++ [34] else []
end Go.Proofs.YtijdlbanfdhfnaaGreatDoor

namespace Go.Proofs.YtijdlbanfdhfnaaGreatDoor
open Go.RowKit

/-- append of bytes, wherever they lie, onto a row of the call's own. -/
theorem wp_app_at {ops : Array Oper} {rest : List Oper} {o : Oper} {a : Act} {Q : Exit → Act → World → Prop} {w : World} (hgd : o.guard = none) (s x : Operand)
    (ho : o.op = .call { callee := .builtin .append, args := #[s, x], argTypes := #[38, 38] }) (B : Nat) (v : Value) (xs : List Nat) (hs : a.eval s = v) (hown : w.ownsRow B 5 1 v xs.length (cv xs))
    (g f c : Nat) (ys : List Nat) (hx : a.eval x = .slice (some ⟨g, f, none⟩) ys.length c) (hnews : ∀ j, j < ys.length → w.cell? ⟨g, f + j, none⟩ = some (.int .u8 (ys.getD j 0 : Nat))) (hlen : xs.length + ys.length ≤ 100000000) (hbase : B ≤ w.heap.size)
    (h : ∀ v' w' l, Hid (l = xs ++ ys) → w'.ownsRow B 5 1 v' l.length (cv l) → w.grownBy w' v.ownBlock → wpList Tryz.prog ops Q rest (a.put o.dst v') w') : wpList Tryz.prog ops Q (o :: rest) a w := by
  obtain ⟨i0, hi, hz0, hz1, hz2⟩ := info_parts Tryz.info5
  refine wpList_append_own _ hgd s x 38 ho B 5 i0 (.int .u8 0) 1 1 Tryz.underlying38 hi hz0 hz1 hz2 rfl (by decide) v xs.length (cv xs) hs hown ⟨g, f, none⟩ ys.length c (cv ys) hx (by rw [cv_length, Nat.mul_one]) (fun j u hj => ?_) (cv_one ys) (by unfold maxLen; omega) (by omega) hbase (fun v' w' h1 h2 _ => ?_)
  · have hjl : j < ys.length := by
      rcases Nat.lt_or_ge j ys.length with h | h
      · exact h
      · rw [List.getElem?_eq_none (by rw [cv_length]; exact h)] at hj; cases hj
    have e : (⟨g, f, none⟩ : Addr).add j = ⟨g, f + j, none⟩ := by unfold Addr.add; split <;> simp_all
    rw [e, hnews j hjl, ← hj]
    simp [cv, List.getD, hjl]
  · refine h v' w' (xs ++ ys) rfl ?_ h2
    rw [List.length_append, cv_append]
    exact h1

/-- append of bytes onto a row of the call's own. -/
theorem wp_app {ops : Array Oper} {rest : List Oper} {o : Oper} {a : Act} {Q : Exit → Act → World → Prop} {w : World} (hgd : o.guard = none) (s x : Operand)
    (ho : o.op = .call { callee := .builtin .append, args := #[s, x], argTypes := #[38, 38] }) (B : Nat) (v : Value) (xs : List Nat) (hs : a.eval s = v) (hown : w.ownsRow B 5 1 v xs.length (cv xs))
    (g c : Nat) (ys : List Nat) (hx : a.eval x = .slice (some ⟨g, 0, none⟩) ys.length c) (hnews : ∀ j, j < ys.length → w.cell? ⟨g, j, none⟩ = some (.int .u8 (ys.getD j 0 : Nat))) (hlen : xs.length + ys.length ≤ 100000000) (hbase : B ≤ w.heap.size)
    (h : ∀ v' w' l, Hid (l = xs ++ ys) → w'.ownsRow B 5 1 v' l.length (cv l) → w.grownBy w' v.ownBlock → wpList Tryz.prog ops Q rest (a.put o.dst v') w') : wpList Tryz.prog ops Q (o :: rest) a w :=
  wp_app_at hgd s x ho B v xs hs hown g 0 c ys hx (fun j hj => by rw [Nat.zero_add]; exact hnews j hj) hlen hbase h

/-- The world behind an append is as it was below the row's base. -/
theorem app_below {B : Nat} {w0 w w' : World} {v : Value} {n : Nat} {xs : List Value} (h : Below B w0 w) (hown : w.ownsRow B 5 1 v n xs) (hB : B ≤ w.heap.size) (hg : w.grownBy w' v.ownBlock) : Below B w0 w' :=
  h.grown hg hB (fun k hk => (hown.lt k hk).1)

theorem own_fix {w : World} {B : Nat} {v : Value} {n : Nat} {l : List Nat} (h : w.ownsRow B 5 1 v n (cv l)) : w.ownsRow B 5 1 v l.length (cv l) := by
  have e : n = l.length := by have := h.1; rw [cv_length] at this; omega
  subst e; exact h
theorem kept_below {w w' : World} {B : Nat} {v : Value} {n : Nat} {xs : List Value} (h : w.ownsRow B 5 1 v n xs) (hb : Below w.heap.size w w') : w'.ownsRow B 5 1 v n xs :=
  h.kept (row := none) ⟨hb.os, hb.tape, hb.output, hb.size, fun k hk _ => hb.block k hk⟩ (by cases v.ownBlock <;> simp)

/-- The slice that owns some bytes, written out. -/
theorem own_slice {w : World} {B : Nat} {v : Value} {l : List Nat} (h : w.ownsRow B 5 1 v l.length (cv l)) (hl : 0 < l.length) :
    ∃ g c, v = .slice (some ⟨g, 0, none⟩) l.length c ∧ B ≤ g ∧ g < w.heap.size ∧ (∀ j, j < l.length → w.cell? ⟨g, j, none⟩ = some (.int .u8 (l.getD j 0 : Nat))) ∧ ∀ j, w.frozen? ⟨g, j, none⟩ = false := by
  rcases h.2 with ⟨_, h0⟩ | ⟨g, c, cur, hv, hb, hg, _⟩
  · omega
  · refine ⟨g, c, hv, hb, (Array.getElem?_eq_some_iff.1 hg).1, fun j hj => ?_, fun j => ?_⟩
    · rw [hv] at h
      rw [h.cellAt j (by omega)]
      simp [cv, List.getD, hj]
    · rw [hv] at h
      exact h.frozenAt j
theorem ret_vi {k : IntKind} {v : Value} {a b : Int} (h : a = b) : Ending.returned (.tuple #[v, .int k a]) = .returned (.tuple #[v, .int k b]) := by rw [h]
theorem cell_fresh (w : World) (cs : Array Value) (t : TypeId) (j : Nat) : (w.alloc (.cells cs t)).cell? ⟨w.heap.size, j, none⟩ = cs[j]? := by
  have h : (w.alloc (.cells cs t)).heap[w.heap.size]? = some (.cells cs t) := by
    show (w.heap.push _)[w.heap.size]? = _
    rw [Array.getElem?_push_size]
  unfold World.cell?
  rw [h]
  rfl
end Go.Proofs.YtijdlbanfdhfnaaGreatDoor

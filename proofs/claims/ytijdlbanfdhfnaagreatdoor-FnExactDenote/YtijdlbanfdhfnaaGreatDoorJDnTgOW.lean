/-
  Rows of Target of the call's own; appends onto them.
  A layout in the making, as the specification keeps it in memory.
-/
import Derived.Test.YtijdlbanfdhfnaaGreatDoorJDnTgS2
import Derived.Maps.AppendAt
import Derived.Test.YtijdlbanfdhfnaaGreatDoorJDnDNP
import Derived.Test.YtijdlbanfdhfnaaGreatDoorJDnAI0
namespace Go.Proofs.YtijdlbanfdhfnaaGreatDoor
open Go.RowKit

/-- Its cells. -/
def tgc (d : Tg) (v : Value) : List Value := [v, .int .i64 d.kind, .int .i64 d.cell]
def tgcs (L : List (Tg × Value)) : List Value := L.flatMap fun p => tgc p.1 p.2
theorem tgcs_length : ∀ L, (tgcs L).length = L.length * 3
  | [] => rfl
  | p :: L => by
    have := tgcs_length L
    unfold tgcs at *
    rw [List.flatMap_cons, List.length_append, this, List.length_cons]
    show 3 + _ = _
    omega
theorem tgcs_append (a b : List (Tg × Value)) : tgcs (a ++ b) = tgcs a ++ tgcs b := List.flatMap_append
theorem tgcs_one {L : List (Tg × Value)} (h : ∀ p ∈ L, p.2.oneCell' = true) : ∀ u ∈ tgcs L, u.oneCell' = true := by
  intro u hu
  obtain ⟨p, hp, hu⟩ := List.mem_flatMap.1 hu
  unfold tgc at hu
  simp only [List.mem_cons, List.not_mem_nil, or_false] at hu
  rcases hu with rfl | rfl | rfl
  · exact h p hp
  · rfl
  · rfl
theorem tgcs_at : ∀ (L : List (Tg × Value)) (j : Nat) (p : Tg × Value), L[j]? = some p → ∀ i, i < 3 → (tgcs L)[j * 3 + i]? = (tgc p.1 p.2)[i]?
  | [], j, p, h, _, _ => by simp at h
  | a :: L, 0, p, h, i, hi => by
    obtain rfl : a = p := by simpa using h
    show (tgc a.1 a.2 ++ tgcs L)[0 * 3 + i]? = _
    rw [Nat.zero_mul, Nat.zero_add, List.getElem?_append_left (by show i < 3; exact hi)]
  | a :: L, j + 1, p, h, i, hi => by
    show (tgc a.1 a.2 ++ tgcs L)[(j + 1) * 3 + i]? = _
    rw [List.getElem?_append_right (by show 3 ≤ _; omega)]
    rw [show (j + 1) * 3 + i - (tgc a.1 a.2).length = j * 3 + i by show _ - 3 = _; omega]
    exact tgcs_at L j p (by simpa using h) i hi
/-- A slice of the call's own holds them. -/
def TgOw (w : World) (B : Nat) (v : Value) (L : List (Tg × Value)) : Prop := w.ownsRow B 50 3 v L.length (tgcs L)
theorem TgOw.nil (w : World) (B : Nat) : TgOw w B (.slice none 0 0) [] := World.ownsRow_nil _ _ _ _
theorem TgOw.kept {w w' : World} {B : Nat} {v : Value} {L : List (Tg × Value)} (h : TgOw w B v L) (hb : Below w.heap.size w w') : TgOw w' B v L :=
  World.ownsRow.kept h (row := none) ⟨hb.os, hb.tape, hb.output, hb.size, fun k hk _ => hb.block k hk⟩ (by cases v.ownBlock <;> simp)
theorem TgOw.slice {w : World} {B : Nat} {v : Value} {L : List (Tg × Value)} (h : TgOw w B v L) : ∃ a c, v = .slice a L.length c := by
  rcases h.2 with ⟨h1, h0⟩ | ⟨g, c, cur, hv, _⟩
  · exact ⟨none, 0, by rw [h1, h0]⟩
  · exact ⟨_, c, hv⟩
theorem TgOw.view {w : World} {B : Nat} {v : Value} {L : List (Tg × Value)} (h : TgOw w B v L) :
    ∃ a b c, v = .slice a L.length c ∧ (0 < L.length → a = some ⟨b, 0, none⟩ ∧ B ≤ b ∧ ∃ cur, w.heap[b]? = some (.cells cur 50 (0, 0))) ∧ (∀ j, j < L.length → ∀ p, L[j]? = some p → ∀ i, i < 3 → w.cell? ⟨b, j * 3 + i, none⟩ = (tgc p.1 p.2)[i]?) ∧ (0 < L.length → Fz w b) ∧ v.ownBlock = a.map (·.block) := by
  obtain ⟨hl, h⟩ := h
  rcases h with ⟨rfl, h0⟩ | ⟨g, c, cur, rfl, hb, hg, hn, _, hcz, ht⟩
  · exact ⟨none, 0, 0, by rw [h0], fun h => absurd h (by omega), fun j hj => absurd hj (by omega), fun h => absurd h (by omega), rfl⟩
  · refine ⟨_, g, c, rfl, fun _ => ⟨rfl, hb, cur, hg⟩, fun j hj p hp i hi => ?_, fun _ j => by simp [World.frozen?, hg], rfl⟩
    rw [← tgcs_at L j p hp i hi, ← ht]
    have hlt : j * 3 + i < L.length * 3 := by
      have : (j + 1) * 3 ≤ L.length * 3 := Nat.mul_le_mul_right _ hj
      omega
    rw [List.getElem?_take, if_pos hlt, Array.getElem?_toList]
    simp [World.cell?, hg]
theorem TgOw.below {B : Nat} {w0 w w' : World} {v : Value} {L : List (Tg × Value)} (h : TgOw w B v L) (hb : Below B w0 w) (hB : B ≤ w.heap.size) (hg : w.grownBy w' v.ownBlock) : Below B w0 w' :=
  hb.grown hg hB (fun k hk => (World.ownsRow.lt h k hk).1)
theorem TgOw.nilOf {w : World} {B : Nat} {v : Value} {L : List (Tg × Value)} (h : TgOw w B v L) (hz : L.length = 0) : v = .slice none 0 0 ∨ ∃ g c, v = .slice (some ⟨g, 0, none⟩) 0 c ∧ ∃ cur, w.heap[g]? = some (.cells cur 50 (0, 0)) := by
  rcases h.2 with ⟨h1, _⟩ | ⟨g, c, cur, hv, _, hg, _⟩
  · exact .inl h1
  · exact .inr ⟨g, c, by rw [hv, hz], cur, hg⟩
theorem TgOw.blk {w : World} {B : Nat} {v : Value} {L : List (Tg × Value)} (h : TgOw w B v L) {g : Nat} (hg : v.ownBlock = some g) : ∃ cur, w.heap[g]? = some (.cells cur 50 (0, 0)) := by
  rcases h.2 with ⟨h1, _⟩ | ⟨g', c, cur, hv, _, hg', _⟩
  · rw [h1] at hg; cases hg
  · rw [hv] at hg
    obtain rfl : g' = g := by simpa [Value.ownBlock] using hg
    exact ⟨cur, hg'⟩
/-- What it reads as. -/
theorem TgOw.rd {w : World} {B : Nat} {v : Value} {L : List (Tg × Value)} (h : TgOw w B v L) (hn : ∀ p ∈ L, BS w p.2 p.1.name) : TgS w v (L.map (·.1)) := by
  obtain ⟨a, b, c, h1, h2, h3, _⟩ := h.view
  refine ⟨a, b, 0, c, by rw [List.length_map]; exact h1, fun hz => (h2 (by rw [List.length_map] at hz; exact hz)).1, fun j hj => ?_⟩
  rw [List.length_map] at hj
  obtain ⟨p, hp⟩ : ∃ p, L[j]? = some p := ⟨L[j], List.getElem?_eq_getElem hj⟩
  have hd : (L.map (·.1)).getD j .zero = p.1 := by rw [List.getD_eq_getElem?_getD, List.getElem?_map, hp]; rfl
  rw [hd]
  have hc := h3 j hj p hp
  simp only [Nat.zero_add]
  refine ⟨p.2, ⟨by have := hc 0 (by omega); rw [Nat.add_zero] at this; exact this, by have := hc 1 (by omega); exact this, by have := hc 2 (by omega); exact this⟩, ⟨hn p (List.mem_of_getElem? hp)⟩⟩

theorem Tryz.infoTg : (Tryz.prog.info? 50).map (fun i => (i.zero, i.size, i.bytes)) = some (some (.agg #[.slice none 0 0, .int .i64 0, .int .i64 0]), 3, 40) := by kernel_rfl
theorem info_partsTg {P : Program} {t : TypeId} {z : Value} {a b : Nat} (h : (P.info? t).map (fun i => (i.zero, i.size, i.bytes)) = some (some z, a, b)) : ∃ i, P.info? t = some i ∧ i.zero = some z ∧ i.size = a ∧ i.bytes = b := by
  cases hi : P.info? t with
  | none => rw [hi] at h; cases h
  | some i => rw [hi] at h; simp at h; exact ⟨i, rfl, h.1, h.2.1, h.2.2⟩
/-- append of some onto a row of the call's own. -/
theorem wp_appTg {ops : Array Oper} {rest : List Oper} {o : Oper} {a : Act} {Q : Exit → Act → World → Prop} {w : World} (hgd : o.guard = none) (s x : Operand)
    (ho : o.op = .call { callee := .builtin .append, args := #[s, x], argTypes := #[25, 25] }) (B : Nat) (v : Value) (xs : List (Tg × Value)) (hs : a.eval s = v) (hown : TgOw w B v xs)
    (g f c : Nat) (ys : List (Tg × Value)) (hx : a.eval x = .slice (some ⟨g, f, none⟩) ys.length c) (hnews : ∀ j, j < ys.length → ∀ p, ys[j]? = some p → ∀ i, i < 3 → w.cell? ⟨g, f + (j * 3 + i), none⟩ = (tgc p.1 p.2)[i]?) (hone : ∀ p ∈ ys, p.2.oneCell' = true) (hlen : xs.length + ys.length ≤ 100000000) (hbase : B ≤ w.heap.size)
    (h : ∀ v' w' l, Hid (l = xs ++ ys) → TgOw w' B v' l → w.grownBy w' v.ownBlock → (v'.ownBlock = v.ownBlock ∨ v'.ownBlock = some w.heap.size) → wpList Tryz.prog ops Q rest (a.put o.dst v') w') : wpList Tryz.prog ops Q (o :: rest) a w := by
  obtain ⟨i0, hi, hz0, hz1, hz2⟩ := info_partsTg Tryz.infoTg
  refine wpList_append_own_at _ hgd s x 25 ho B 50 i0 _ 3 40 Tryz.underlying25 hi hz0 hz1 hz2 rfl (by decide) v xs.length (tgcs xs) hs hown ⟨g, f, none⟩ ys.length c (tgcs ys) hx (tgcs_length ys) (fun j u hj => ?_) (tgcs_one hone) (by unfold maxLen; omega) (by omega) hbase (fun v' w' h1 h2 _ h4 => ?_)
  · have hjl : j < ys.length * 3 := by
      rcases Nat.lt_or_ge j (ys.length * 3) with h | h
      · exact h
      · rw [List.getElem?_eq_none (by rw [tgcs_length]; exact h)] at hj; cases hj
    have e : (⟨g, f, none⟩ : Addr).add j = ⟨g, f + j, none⟩ := by unfold Addr.add; split <;> simp_all
    have hm : j / 3 < ys.length := Nat.div_lt_of_lt_mul (by rw [Nat.mul_comm]; exact hjl)
    obtain ⟨p, hp⟩ : ∃ p, ys[j / 3]? = some p := ⟨ys[j / 3], List.getElem?_eq_getElem hm⟩
    have hi : j % 3 < 3 := Nat.mod_lt _ (by decide)
    have ej : j / 3 * 3 + j % 3 = j := by rw [Nat.mul_comm]; exact Nat.div_add_mod j 3
    have h1 := hnews (j / 3) hm p hp (j % 3) hi
    rw [ej] at h1
    rw [e, h1, ← tgcs_at ys (j / 3) p hp (j % 3) hi, ej]
    exact hj
  · refine h v' w' (xs ++ ys) rfl ?_ h2 h4
    unfold TgOw
    rw [List.length_append, tgcs_append]
    exact h1
end Go.Proofs.YtijdlbanfdhfnaaGreatDoor

namespace Go.Proofs.YtijdlbanfdhfnaaGreatDoor
open Go.RowKit

/-- A block of values that hold so. -/
def Rw (w : World) (b : Nat) (t : TypeId) (n : Nat) (g : Nat → Value) : Prop := ∃ cs, Blk w b t cs ∧ ∀ c, c < n → cs[c]? = some (g c)
theorem Rw.cell {w : World} {b n c : Nat} {t : TypeId} {g : Nat → Value} (h : Rw w b t n g) (hc : c < n) : w.cell? ⟨b, c, none⟩ = some (g c) := by
  obtain ⟨cs, h1, h2⟩ := h
  rw [h1.cell, h2 c hc]
theorem Rw.frozen {w : World} {b n : Nat} {t : TypeId} {g : Nat → Value} (h : Rw w b t n g) (c : Nat) : w.frozen? ⟨b, c, none⟩ = false := by
  obtain ⟨cs, h1, _⟩ := h
  exact h1.frozen c
theorem Rw.below {w w' : World} {b n : Nat} {t : TypeId} {g : Nat → Value} (h : Rw w b t n g) (hb : Below w.heap.size w w') : Rw w' b t n g := by
  obtain ⟨cs, h1, h2⟩ := h
  exact ⟨cs, h1.below hb, h2⟩
theorem Rw.keep {w w' : World} {b n : Nat} {t : TypeId} {g : Nat → Value} (h : Rw w b t n g) (hk : ∀ cs, Blk w b t cs → Blk w' b t cs) : Rw w' b t n g := by
  obtain ⟨cs, h1, h2⟩ := h
  exact ⟨cs, hk cs h1, h2⟩
theorem Rw.set {w : World} {b n : Nat} {t : TypeId} {g : Nat → Value} (h : Rw w b t n g) (c : Nat) (v : Value) : Rw (w.setCell ⟨b, c, none⟩ v) b t n (fun x => if x = c then v else g x) := by
  obtain ⟨cs, h1, h2⟩ := h
  refine ⟨_, h1.set c v, fun x hx => ?_⟩
  have h3 := h2 x hx
  have hl : x < cs.size := by
    rcases Nat.lt_or_ge x cs.size with q | q
    · exact q
    · rw [Array.getElem?_eq_none q] at h3; cases h3
  rw [Array.getElem?_setIfInBounds]
  by_cases e : x = c
  · subst e
    rw [if_pos rfl, if_pos hl]
    simp
  · rw [if_neg (fun q => e q.symm)]
    show _ = some (if x = c then v else g x)
    rw [if_neg e]
    exact h3
theorem Rw.other {w : World} {b b' n k : Nat} {t : TypeId} {g : Nat → Value} {v : Value} (h : Rw w b t n g) (hne : b ≠ b') : Rw (w.setCell ⟨b', k, none⟩ v) b t n g := h.keep fun _ h1 => h1.other k v hne
theorem Rw.typed {w : World} {b b' n n' k : Nat} {t t' : TypeId} {g g' : Nat → Value} {v : Value} (h : Rw w b t n g) (h' : Rw w b' t' n' g') (ht : t ≠ t') : Rw (w.setCell ⟨b', k, none⟩ v) b t n g := by
  obtain ⟨cs', h1, _⟩ := h'
  exact h.keep fun _ h2 => set_typed h1 h2 ht
theorem Rw.congr {w : World} {b n : Nat} {t : TypeId} {g g' : Nat → Value} (h : Rw w b t n g) (hg : ∀ c, c < n → g c = g' c) : Rw w b t n g' := by
  obtain ⟨cs, h1, h2⟩ := h
  exact ⟨cs, h1, fun c hc => by rw [h2 c hc, hg c hc]⟩
/-- A target's name is a row of its own. -/
def TgNr (w : World) (p : Tg × Value) : Prop := ∃ g c, p.2 = .slice (some ⟨g, 0, none⟩) p.1.name.size c ∧ Rw w g 5 p.1.name.size (bts p.1.name)
/-- The floor f in the block F: its rows in bw, bc, by', the ways of a cell c in G c. -/
structure FlM (w : World) (F bw bc bd cw cc cd : Nat) (G : Nat → Nat) (f : Flo) (vt vf : Value) (ns : List (Tg × Value)) : Prop where
  blk : Blk w F 47 #[.int .i64 (f.w : Nat), .int .i64 (f.h : Nat), .slice (some ⟨bw, 0, none⟩) (f.w * f.h) cw, .slice (some ⟨bc, 0, none⟩) (f.w * f.h) cc, .slice (some ⟨bd, 0, none⟩) (f.w * f.h) cd, vt, vf]
  wl : Rw w bw 4 (f.w * f.h) (fun c => .bool (f.wall c))
  co : Rw w bc 3 (f.w * f.h) (fun c => .int .i64 (f.cost c))
  wy : Rw w bd 44 (f.w * f.h) (fun c => .slice (some ⟨G c, 0, none⟩) 4 4)
  wr : ∀ c, c < f.w * f.h → Rw w (G c) 4 4 (fun k => .bool (f.ways c k))
  gi : ∀ c c', c < f.w * f.h → c' < f.w * f.h → G c = G c' → c = c'
  gw : ∀ c, c < f.w * f.h → G c ≠ bw
  tg : TgOw w (F + 1) vt ns
  tn : ∀ p ∈ ns, TgNr w p
  ts : ns.map Prod.fst = f.tgs
  fr : Ow w (F + 1) vf (f.frs.map fun i : Nat => (i : Int))
  af : vf.ownBlock ≠ some bc
  lw : F < bw
  lc : F < bc
  lg : ∀ c, c < f.w * f.h → F < G c
theorem FlM.below {w w' : World} {F bw bc bd cw cc cd : Nat} {G : Nat → Nat} {f : Flo} {vt vf : Value} {ns : List (Tg × Value)} (h : FlM w F bw bc bd cw cc cd G f vt vf ns) (hb : Below w.heap.size w w') : FlM w' F bw bc bd cw cc cd G f vt vf ns :=
  ⟨h.blk.below hb, h.wl.below hb, h.co.below hb, h.wy.below hb, fun c hc => (h.wr c hc).below hb, h.gi, h.gw, h.tg.kept hb, fun p hp => by obtain ⟨g, c, h1, h2⟩ := h.tn p hp; exact ⟨g, c, h1, h2.below hb⟩, h.ts, h.fr.below hb, h.af, h.lw, h.lc, h.lg⟩
/-- A cell of the walls, or of a way, was written: rows of other types stay. -/
theorem FlM.tgs4 {w : World} {F bw bc bd cw cc cd b n k : Nat} {G : Nat → Nat} {f : Flo} {vt vf : Value} {ns : List (Tg × Value)} {g' : Nat → Value} (h : FlM w F bw bc bd cw cc cd G f vt vf ns) (hr : Rw w b 4 n g') (v : Value) : TgOw (w.setCell ⟨b, k, none⟩ v) (F + 1) vt ns ∧ (∀ p ∈ ns, TgNr (w.setCell ⟨b, k, none⟩ v) p) ∧ Ow (w.setCell ⟨b, k, none⟩ v) (F + 1) vf (f.frs.map fun i : Nat => (i : Int)) := by
  obtain ⟨cs, h1, _⟩ := hr
  refine ⟨own_typed h.tg fun _ _ hb => set_typed h1 hb (by decide), fun p hp => ?_, h.fr.other h1 (by decide)⟩
  obtain ⟨g, c, h2, h3⟩ := h.tn p hp
  exact ⟨g, c, h2, h3.keep fun _ hb => set_typed h1 hb (by decide)⟩
theorem FlM.setWall {w : World} {F bw bc bd cw cc cd : Nat} {G : Nat → Nat} {f : Flo} {vt vf : Value} {ns : List (Tg × Value)} (h : FlM w F bw bc bd cw cc cd G f vt vf ns) (c : Nat) (b : Bool) :
    FlM (w.setCell ⟨bw, c, none⟩ (.bool b)) F bw bc bd cw cc cd G { f with wall := fun x => if x = c then b else f.wall x } vt vf ns := by
  obtain ⟨t1, t2, t3⟩ := h.tgs4 (k := c) h.wl (.bool b)
  refine ⟨h.blk.other _ _ (by have := h.lw; omega), (h.wl.set c (.bool b)).congr fun x _ => ?_, h.co.typed h.wl (by decide), h.wy.typed h.wl (by decide), fun x hx => (h.wr x hx).other (h.gw x hx), h.gi, h.gw, t1, t2, h.ts, t3, h.af, h.lw, h.lc, h.lg⟩
  show (if x = c then Value.bool b else .bool (f.wall x)) = .bool (if x = c then b else f.wall x)
  split <;> rfl
theorem FlM.setWay {w : World} {F bw bc bd cw cc cd : Nat} {G : Nat → Nat} {f : Flo} {vt vf : Value} {ns : List (Tg × Value)} (h : FlM w F bw bc bd cw cc cd G f vt vf ns) {c : Nat} (hc : c < f.w * f.h) (k : Nat) (b : Bool) :
    FlM (w.setCell ⟨G c, k, none⟩ (.bool b)) F bw bc bd cw cc cd G { f with ways := fun x y => if x = c ∧ y = k then b else f.ways x y } vt vf ns := by
  obtain ⟨t1, t2, t3⟩ := h.tgs4 (k := k) (h.wr c hc) (.bool b)
  refine ⟨h.blk.other _ _ (by have := h.lg c hc; omega), h.wl.other (fun e => h.gw c hc e.symm), h.co.typed (h.wr c hc) (by decide), h.wy.typed (h.wr c hc) (by decide), fun x hx => ?_, h.gi, h.gw, t1, t2, h.ts, t3, h.af, h.lw, h.lc, h.lg⟩
  by_cases e : x = c
  · subst e
    refine ((h.wr x hx).set k (.bool b)).congr fun y _ => ?_
    show (if y = k then Value.bool b else .bool (f.ways x y)) = .bool (if x = x ∧ y = k then b else f.ways x y)
    by_cases q : y = k
    · rw [if_pos q, if_pos ⟨rfl, q⟩]
    · rw [if_neg q, if_neg (fun r => q r.2)]
  · refine ((h.wr x hx).other (fun r => e (h.gi x c hx hc r))).congr fun y _ => ?_
    show Value.bool (f.ways x y) = .bool (if x = c ∧ y = k then b else f.ways x y)
    rw [if_neg (fun r => e r.1)]
theorem FlM.setCost {w : World} {F bw bc bd cw cc cd : Nat} {G : Nat → Nat} {f : Flo} {vt vf : Value} {ns : List (Tg × Value)} (h : FlM w F bw bc bd cw cc cd G f vt vf ns) (c : Nat) (x : Int) :
    FlM (w.setCell ⟨bc, c, none⟩ (.int .i64 x)) F bw bc bd cw cc cd G { f with cost := fun y => if y = c then x else f.cost y } vt vf ns := by
  obtain ⟨cs, h1, h1b⟩ := h.co
  refine ⟨h.blk.other _ _ (by have := h.lc; omega), h.wl.typed h.co (by decide), (h.co.set c (.int .i64 x)).congr fun y _ => ?_, h.wy.typed h.co (by decide), fun y hy => (h.wr y hy).typed h.co (by decide), h.gi, h.gw, own_typed h.tg fun _ _ hb => set_typed h1 hb (by decide), fun p hp => ?_, h.ts, Ow.apart (v := .slice (some ⟨bc, 0, none⟩) 0 0) h.fr (grown_set _ bc c _) ?_, h.af, h.lw, h.lc, h.lg⟩
  · show (if y = c then Value.int .i64 x else .int .i64 (f.cost y)) = .int .i64 (if y = c then x else f.cost y)
    split <;> rfl
  · obtain ⟨g, c', h2, h3⟩ := h.tn p hp
    exact ⟨g, c', h2, h3.keep fun _ hb => set_typed h1 hb (by decide)⟩
  · show vf.ownBlock = none ∨ vf.ownBlock ≠ some bc
    exact .inr h.af
end Go.Proofs.YtijdlbanfdhfnaaGreatDoor

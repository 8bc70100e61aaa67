/-
  Rows of lists of numbers of the call's own; appends onto them.
  append of numbers onto a row of the call's own.
  Appends onto rows of numbers (AI0), beside those onto bytes (AP).
  Tables under way: rows of the call's own, with names and lists in blocks of their own.
-/
import Derived.Test.YtpnocklldlacjaaDoorJDecodeImageTgS3
import Derived.Maps.AppendAt
import Derived.Test.YtpnocklldlacjaaDoorJDecodeImageT
import Derived.Test.YtpnocklldlacjaaDoorJDecodeImageMK
import Derived.Test.YtpnocklldlacjaaDoorJDecodeImageTK
import Derived.Test.YtpnocklldlacjaaDoorJDecodeImageSEI
import Derived.Test.YtpnocklldlacjaaDoorJDecodeImageTbF
import Derived.Laws.AppendOwn
namespace Go.Proofs.YtpnocklldlacjaaDoor
open Go.RowKit

/-- Their values. -/
def iics (L : List (List Int × Value)) : List Value := L.map (·.2)
theorem iics_length (L : List (List Int × Value)) : (iics L).length = L.length := List.length_map ..
theorem iics_append (a b : List (List Int × Value)) : iics (a ++ b) = iics a ++ iics b := List.map_append ..
/-- A slice of the call's own holds them. -/
def IIOw (w : World) (B : Nat) (v : Value) (L : List (List Int × Value)) : Prop := w.ownsRow B 57 1 v L.length (iics L)
theorem IIOw.nil (w : World) (B : Nat) : IIOw w B (.slice none 0 0) [] := World.ownsRow_nil _ _ _ _
theorem IIOw.kept {w w' : World} {B : Nat} {v : Value} {L : List (List Int × Value)} (h : IIOw w B v L) (hb : Below w.heap.size w w') : IIOw w' B v L :=
  World.ownsRow.kept h (row := none) ⟨hb.os, hb.tape, hb.output, hb.size, fun k hk _ => hb.block k hk⟩ (by cases v.ownBlock <;> simp)
theorem IIOw.slice {w : World} {B : Nat} {v : Value} {L : List (List Int × Value)} (h : IIOw w B v L) : ∃ a c, v = .slice a L.length c := by
  rcases h.2 with ⟨h1, h0⟩ | ⟨g, c, cur, hv, _⟩
  · exact ⟨none, 0, by rw [h1, h0]⟩
  · exact ⟨_, c, hv⟩
theorem IIOw.view {w : World} {B : Nat} {v : Value} {L : List (List Int × Value)} (h : IIOw w B v L) :
    ∃ a b c, v = .slice a L.length c ∧ (0 < L.length → a = some ⟨b, 0, none⟩ ∧ B ≤ b ∧ ∃ cur, w.heap[b]? = some (.cells cur 57 (0, 0))) ∧ (∀ j, j < L.length → ∀ p, L[j]? = some p → w.cell? ⟨b, j, none⟩ = some p.2) ∧ (0 < L.length → Fz w b) ∧ v.ownBlock = a.map (·.block) := by
  obtain ⟨hl, h⟩ := h
  rcases h with ⟨rfl, h0⟩ | ⟨g, c, cur, rfl, hb, hg, hn, _, hcz, ht⟩
  · exact ⟨none, 0, 0, by rw [h0], fun h => absurd h (by omega), fun j hj => absurd hj (by omega), fun h => absurd h (by omega), rfl⟩
  · refine ⟨_, g, c, rfl, fun _ => ⟨rfl, hb, cur, hg⟩, fun j hj p hp => ?_, fun _ j => by simp [World.frozen?, hg], rfl⟩
    have e : (iics L)[j]? = some p.2 := by unfold iics; rw [List.getElem?_map, hp]; rfl
    rw [← e, ← ht, List.getElem?_take, if_pos (by omega), Array.getElem?_toList]
    simp [World.cell?, hg]
/-- What it reads as. -/
theorem IIOw.rd {w : World} {B : Nat} {v : Value} {L : List (List Int × Value)} (h : IIOw w B v L) (hn : ∀ p ∈ L, IS w p.2 p.1) : IIS w v (L.map (·.1)) := by
  obtain ⟨a, b, c, h1, h2, h3, _⟩ := h.view
  refine ⟨a, b, 0, c, by rw [List.length_map]; exact h1, fun hz => (h2 (by rw [List.length_map] at hz; exact hz)).1, fun j hj => ?_⟩
  rw [List.length_map] at hj
  obtain ⟨p, hp⟩ : ∃ p, L[j]? = some p := ⟨L[j], List.getElem?_eq_getElem hj⟩
  have hd : (L.map (·.1)).getD j [] = p.1 := by rw [List.getD_eq_getElem?_getD, List.getElem?_map, hp]; rfl
  rw [hd, Nat.zero_add]
  exact ⟨p.2, h3 j hj p hp, hn p (List.mem_of_getElem? hp)⟩
theorem IIOw.below {B : Nat} {w0 w w' : World} {v : Value} {L : List (List Int × Value)} (h : IIOw w B v L) (hb : Below B w0 w) (hB : B ≤ w.heap.size) (hg : w.grownBy w' v.ownBlock) : Below B w0 w' :=
  hb.grown hg hB (fun k hk => (World.ownsRow.lt h k hk).1)

theorem Tryd.infoII : (Tryd.prog.info? 57).map (fun i => (i.zero, i.size, i.bytes)) = some (some (.slice none 0 0), 1, 24) := by kernel_rfl
theorem info_partsII {P : Program} {t : TypeId} {z : Value} {a b : Nat} (h : (P.info? t).map (fun i => (i.zero, i.size, i.bytes)) = some (some z, a, b)) : ∃ i, P.info? t = some i ∧ i.zero = some z ∧ i.size = a ∧ i.bytes = b := by
  cases hi : P.info? t with
  | none => rw [hi] at h; cases h
  | some i => rw [hi] at h; simp at h; exact ⟨i, rfl, h.1, h.2.1, h.2.2⟩
/-- append of some onto a row of the call's own. -/
theorem wp_appII {ops : Array Oper} {rest : List Oper} {o : Oper} {a : Act} {Q : Exit → Act → World → Prop} {w : World} (hgd : o.guard = none) (s x : Operand)
    (ho : o.op = .call { callee := .builtin .append, args := #[s, x], argTypes := #[23, 23] }) (B : Nat) (v : Value) (xs : List (List Int × Value)) (hs : a.eval s = v) (hown : IIOw w B v xs)
    (g f c : Nat) (ys : List (List Int × Value)) (hx : a.eval x = .slice (some ⟨g, f, none⟩) ys.length c) (hnews : ∀ j p, ys[j]? = some p → w.cell? ⟨g, f + j, none⟩ = some p.2) (hone : ∀ p ∈ ys, p.2.oneCell' = true) (hlen : xs.length + ys.length ≤ 100000000) (hbase : B ≤ w.heap.size)
    (h : ∀ v' w' l, Hid (l = xs ++ ys) → IIOw w' B v' l → w.grownBy w' v.ownBlock → (v'.ownBlock = v.ownBlock ∨ v'.ownBlock = some w.heap.size) → wpList Tryd.prog ops Q rest (a.put o.dst v') w') : wpList Tryd.prog ops Q (o :: rest) a w := by
  obtain ⟨i0, hi, hz0, hz1, hz2⟩ := info_partsII Tryd.infoII
  refine wpList_append_own_at _ hgd s x 23 ho B 57 i0 _ 1 24 Tryd.underlying23 hi hz0 hz1 hz2 rfl (by decide) v xs.length (iics xs) hs hown ⟨g, f, none⟩ ys.length c (iics ys) hx (by rw [iics_length, Nat.mul_one]) (fun j u hj => ?_) (fun u hu => ?_) (by unfold maxLen; omega) (by omega) hbase (fun v' w' h1 h2 _ h4 => ?_)
  · have e : (⟨g, f, none⟩ : Addr).add j = ⟨g, f + j, none⟩ := by unfold Addr.add; split <;> simp_all
    unfold iics at hj
    rw [List.getElem?_map] at hj
    cases hp : ys[j]? with
    | none => rw [hp] at hj; cases hj
    | some p =>
      rw [hp] at hj
      obtain rfl : p.2 = u := by simpa using hj
      rw [e]
      exact hnews j p hp
  · obtain ⟨p, hp, rfl⟩ := List.mem_map.1 hu
    exact hone p hp
  · refine h v' w' (xs ++ ys) rfl ?_ h2 h4
    unfold IIOw
    rw [List.length_append, iics_append]
    exact h1
end Go.Proofs.YtpnocklldlacjaaDoor

namespace Go.Proofs.YtpnocklldlacjaaDoor
open Go.RowKit

/-- Numbers in cells. -/
def ci (l : List Int) : List Value := l.map fun n => Value.int .i64 n
theorem ci_length (l : List Int) : (ci l).length = l.length := by simp [ci]
theorem ci_append (a b : List Int) : ci (a ++ b) = ci a ++ ci b := by simp [ci]
theorem ci_one (l : List Int) : ∀ u ∈ ci l, u.oneCell' = true := by
  intro u hu
  obtain ⟨n, _, rfl⟩ := List.mem_map.1 hu
  rfl
theorem Tryd.info3 : (Tryd.prog.info? 3).map (fun i => (i.zero, i.size, i.bytes)) = some (some (.int .i64 0), 1, 8) := by kernel_rfl

theorem info_partsI {P : Program} {t : TypeId} {z : Value} {a b : Nat} (h : (P.info? t).map (fun i => (i.zero, i.size, i.bytes)) = some (some z, a, b)) : ∃ i, P.info? t = some i ∧ i.zero = some z ∧ i.size = a ∧ i.bytes = b := by
  cases hi : P.info? t with
  | none => rw [hi] at h; cases h
  | some i => rw [hi] at h; simp at h; exact ⟨i, rfl, h.1, h.2.1, h.2.2⟩
/-- append of numbers onto a row of the call's own. -/
theorem wp_app_i {ops : Array Oper} {rest : List Oper} {o : Oper} {a : Act} {Q : Exit → Act → World → Prop} {w : World} (hgd : o.guard = none) (s x : Operand)
    (ho : o.op = .call { callee := .builtin .append, args := #[s, x], argTypes := #[57, 57] }) (B : Nat) (v : Value) (xs : List Int) (hs : a.eval s = v) (hown : w.ownsRow B 3 1 v xs.length (ci xs))
    (g c : Nat) (ys : List Int) (hx : a.eval x = .slice (some ⟨g, 0, none⟩) ys.length c) (hnews : ∀ j, j < ys.length → w.cell? ⟨g, j, none⟩ = some (.int .i64 (ys.getD j 0))) (hlen : xs.length + ys.length ≤ 100000000) (hbase : B ≤ w.heap.size)
    (h : ∀ v' w' l, Hid (l = xs ++ ys) → w'.ownsRow B 3 1 v' l.length (ci l) → w.grownBy w' v.ownBlock → wpList Tryd.prog ops Q rest (a.put o.dst v') w') : wpList Tryd.prog ops Q (o :: rest) a w := by
  obtain ⟨i0, hi, hz0, hz1, hz2⟩ := info_partsI Tryd.info3
  refine wpList_append_own _ hgd s x 57 ho B 3 i0 (.int .i64 0) 1 8 Tryd.underlying57 hi hz0 hz1 hz2 rfl (by decide) v xs.length (ci xs) hs hown ⟨g, 0, none⟩ ys.length c (ci ys) hx (by rw [ci_length, Nat.mul_one]) (fun j u hj => ?_) (ci_one ys) (by unfold maxLen; omega) (by omega) hbase (fun v' w' h1 h2 _ => ?_)
  · have hjl : j < ys.length := by
      rcases Nat.lt_or_ge j ys.length with h | h
      · exact h
      · rw [List.getElem?_eq_none (by rw [ci_length]; exact h)] at hj; cases hj
    have e : (⟨g, 0, none⟩ : Addr).add j = ⟨g, 0 + j, none⟩ := by unfold Addr.add; split <;> simp_all
    rw [e, Nat.zero_add, hnews j hjl, ← hj]
    simp [ci, List.getD, hjl]
  · refine h v' w' (xs ++ ys) rfl ?_ h2
    rw [List.length_append, ci_append]
    exact h1
theorem app_below_i {B : Nat} {w0 w w' : World} {v : Value} {n : Nat} {xs : List Value} (h : Below B w0 w) (hown : w.ownsRow B 3 1 v n xs) (hB : B ≤ w.heap.size) (hg : w.grownBy w' v.ownBlock) : Below B w0 w' :=
  h.grown hg hB (fun k hk => (hown.lt k hk).1)
theorem kept_i {w w' : World} {B : Nat} {v : Value} {n : Nat} {xs : List Value} (h : w.ownsRow B 3 1 v n xs) (hb : Below w.heap.size w w') : w'.ownsRow B 3 1 v n xs :=
  h.kept (row := none) ⟨hb.os, hb.tape, hb.output, hb.size, fun k hk _ => hb.block k hk⟩ (by cases v.ownBlock <;> simp)
theorem own_is {w : World} {B : Nat} {v : Value} {l : List Int} (h : w.ownsRow B 3 1 v l.length (ci l)) : IS w v l := by
  rcases h.2 with ⟨hv, h0⟩ | ⟨g, c, cur, hv, hb, hg, _⟩
  · have e : l = [] := List.length_eq_zero_iff.1 h0
    subst e
    exact ⟨none, 0, 0, 0, hv, fun h => absurd h (Nat.not_lt_zero _), fun j hj => absurd hj (Nat.not_lt_zero _)⟩
  · refine ⟨some ⟨g, 0, none⟩, g, 0, c, hv, fun _ => rfl, fun j hj => ?_⟩
    rw [hv] at h
    rw [Nat.zero_add, h.cellAt j (by omega)]
    simp [ci, List.getD, hj]
theorem is_nil (w : World) (c : Nat) : IS w (.slice none 0 c) [] := ⟨none, 0, 0, c, rfl, fun h => absurd h (by decide), fun j hj => absurd hj (Nat.not_lt_zero _)⟩
theorem if_nil (w : World) (c : Nat) : IF w (.slice none 0 c) [] [] := ⟨none, 0, 0, c, rfl, fun h => absurd h (by decide), rfl, fun j hj => absurd hj (Nat.not_lt_zero _)⟩
end Go.Proofs.YtpnocklldlacjaaDoor



namespace Go.Proofs.YtpnocklldlacjaaDoor
open Go.RowKit

/-- A name in a block of bytes, or none. -/
def NmK (w : World) (v : Value) (s : ByteArray) : Prop := ∃ a c, v = .slice a s.size c ∧ (0 < s.size → ∃ g cur, a = some ⟨g, 0, none⟩ ∧ Blk w g 5 cur ∧ ∀ j, j < s.size → cur[j]? = some (bts s j))
theorem NmK.bs {w : World} {v : Value} {s : ByteArray} (h : NmK w v s) : BS w v s := by
  obtain ⟨a, c, rfl, h1⟩ := h
  by_cases q : 0 < s.size
  · obtain ⟨g, cur, rfl, hb, hc⟩ := h1 q
    exact ⟨_, g, 0, c, rfl, fun _ => rfl, fun j hj => by rw [Nat.zero_add, hb.cell j]; exact hc j hj⟩
  · exact ⟨a, 0, 0, c, rfl, fun h => absurd h q, fun j hj => by omega⟩
theorem NmK.one {w : World} {v : Value} {s : ByteArray} (h : NmK w v s) : v.oneCell' = true := by
  obtain ⟨a, c, rfl, _⟩ := h
  rfl
theorem NmK.keep {w w' : World} {v : Value} {s : ByteArray} (h : NmK w v s) (hk : ∀ g cur, Blk w g 5 cur → Blk w' g 5 cur) : NmK w' v s := by
  obtain ⟨a, c, h0, h1⟩ := h
  refine ⟨a, c, h0, fun q => ?_⟩
  obtain ⟨g, cur, h2, h3, h4⟩ := h1 q
  exact ⟨g, cur, h2, hk g cur h3, h4⟩
/-- A list in a block of ints, or none. -/
def IRk (w : World) (v : Value) (l : List Int) : Prop := ∃ a c, v = .slice a l.length c ∧ (0 < l.length → ∃ g cur, a = some ⟨g, 0, none⟩ ∧ Blk w g 3 cur ∧ ∀ j, j < l.length → cur[j]? = some (.int .i64 (l.getD j 0)))
theorem IRk.is {w : World} {v : Value} {l : List Int} (h : IRk w v l) : IS w v l := by
  obtain ⟨a, c, rfl, h1⟩ := h
  by_cases q : 0 < l.length
  · obtain ⟨g, cur, rfl, hb, hc⟩ := h1 q
    exact ⟨_, g, 0, c, rfl, fun _ => rfl, fun j hj => by rw [Nat.zero_add, hb.cell j]; exact hc j hj⟩
  · exact ⟨a, 0, 0, c, rfl, fun h => absurd h q, fun j hj => by omega⟩
theorem IRk.one {w : World} {v : Value} {l : List Int} (h : IRk w v l) : v.oneCell' = true := by
  obtain ⟨a, c, rfl, _⟩ := h
  rfl
theorem IRk.slice {w : World} {v : Value} {l : List Int} (h : IRk w v l) : ∃ a c, v = .slice a l.length c := by
  obtain ⟨a, c, h, _⟩ := h
  exact ⟨a, c, h⟩
theorem IRk.keep {w w' : World} {v : Value} {l : List Int} (h : IRk w v l) (hk : ∀ g cur, Blk w g 3 cur → Blk w' g 3 cur) : IRk w' v l := by
  obtain ⟨a, c, h0, h1⟩ := h
  refine ⟨a, c, h0, fun q => ?_⟩
  obtain ⟨g, cur, h2, h3, h4⟩ := h1 q
  exact ⟨g, cur, h2, hk g cur h3, h4⟩
theorem own_irk {w : World} {B : Nat} {v : Value} {l : List Int} (h : w.ownsRow B 3 1 v l.length (ci l)) : IRk w v l := by
  rcases h.2 with ⟨h1, h2⟩ | ⟨g, c, cur, hv, _, hg, _, _, _, ht⟩
  · exact ⟨none, 0, by rw [h1, h2], fun q => by omega⟩
  · refine ⟨_, c, hv, fun _ => ⟨g, cur, rfl, hg, fun j hj => ?_⟩⟩
    have hh := congrArg (fun l => l[j]?) ht
    simp only [List.getElem?_take, Nat.mul_one, if_pos hj, Array.getElem?_toList] at hh
    rw [hh]
    simp [ci, List.getD, hj]
theorem own_nmk {w : World} {B : Nat} {v : Value} {l : List Nat} (h : w.ownsRow B 5 1 v l.length (cv l)) (hl : Lo l) : NmK w v (byt l) := by
  rcases h.2 with ⟨h1, h2⟩ | ⟨g, c, cur, hv, _, hg, _, _, _, ht⟩
  · exact ⟨none, 0, by rw [h1, byt_size, h2], fun q => by rw [byt_size] at q; omega⟩
  · refine ⟨_, c, by rw [byt_size]; exact hv, fun _ => ⟨g, cur, rfl, hg, fun j hj => ?_⟩⟩
    rw [byt_size] at hj
    have hh := congrArg (fun l => l[j]?) ht
    simp only [List.getElem?_take, Nat.mul_one, if_pos hj, Array.getElem?_toList] at hh
    rw [hh, byt_bts hl hj]
    simp [cv, List.getD, hj]
/-- Tables under way. -/
structure TS (w : World) (B : Nat) (vT vH vD : Value) (LT : List (Tg × Value)) (LH LD : List (List Int × Value)) : Prop where
  tg : TgOw w B vT LT
  nm : ∀ p ∈ LT, NmK w p.2 p.1.name
  hp : IIOw w B vH LH
  hr : ∀ p ∈ LH, IRk w p.2 p.1
  ds : IIOw w B vD LD
  dr : ∀ p ∈ LD, IRk w p.2 p.1
  ne : vH.ownBlock = none ∨ vH.ownBlock ≠ vD.ownBlock
theorem TS.nil (w : World) (B : Nat) : TS w B (.slice none 0 0) (.slice none 0 0) (.slice none 0 0) [] [] [] :=
  ⟨TgOw.nil _ _, fun _ h => (nomatch h), IIOw.nil _ _, fun _ h => (nomatch h), IIOw.nil _ _, fun _ h => (nomatch h), .inl rfl⟩
theorem TS.keep {w w' : World} {B : Nat} {vT vH vD : Value} {LT : List (Tg × Value)} {LH LD : List (List Int × Value)} (h : TS w B vT vH vD LT LH LD)
    (hk : ∀ g t cs, (t = 56 ∨ t = 5 ∨ t = 57 ∨ t = 3) → Blk w g t cs → Blk w' g t cs) : TS w' B vT vH vD LT LH LD :=
  ⟨own_typed h.tg fun g c q => hk g _ c (.inl rfl) q, fun p hp => (h.nm p hp).keep fun g c q => hk g _ c (.inr (.inl rfl)) q, own_typed h.hp fun g c q => hk g _ c (.inr (.inr (.inl rfl))) q, fun p hp => (h.hr p hp).keep fun g c q => hk g _ c (.inr (.inr (.inr rfl))) q,
    own_typed h.ds fun g c q => hk g _ c (.inr (.inr (.inl rfl))) q, fun p hp => (h.dr p hp).keep fun g c q => hk g _ c (.inr (.inr (.inr rfl))) q, h.ne⟩
theorem TS.below {w w' : World} {B : Nat} {vT vH vD : Value} {LT : List (Tg × Value)} {LH LD : List (List Int × Value)} (h : TS w B vT vH vD LT LH LD) (hb : Below w.heap.size w w') : TS w' B vT vH vD LT LH LD := h.keep fun _ _ _ _ q => q.below hb
/-- One more target. -/
theorem TS.addT {w w' : World} {B : Nat} {vT vH vD v' : Value} {LT l : List (Tg × Value)} {LH LD : List (List Int × Value)} {t : Tg} {vn : Value} (h : TS w B vT vH vD LT LH LD) (hl : l = LT ++ [(t, vn)]) (ho : TgOw w' B v' l) (hg : w.grownBy w' vT.ownBlock) (hn : NmK w vn t.name) : TS w' B v' vH vD l LH LD := by
  have hk : ∀ g t cs, t ≠ 56 → Blk w g t cs → Blk w' g t cs := fun g t cs ht q => app_typed q ht h.tg hg
  refine ⟨ho, fun p hp => ?_, own_typed h.hp fun g c q => hk g _ c (by decide) q, fun p hp => (h.hr p hp).keep fun g c q => hk g _ c (by decide) q, own_typed h.ds fun g c q => hk g _ c (by decide) q, fun p hp => (h.dr p hp).keep fun g c q => hk g _ c (by decide) q, h.ne⟩
  rw [hl] at hp
  rcases List.mem_append.1 hp with hp | hp
  · exact (h.nm p hp).keep fun g c q => hk g _ c (by decide) q
  · rw [List.mem_singleton.1 hp]
    exact hn.keep fun g c q => hk g _ c (by decide) q
theorem oth {w w' : World} {B : Nat} {v u v' : Value} {L M : List (List Int × Value)} (_ : IIOw w B v L) (k : IIOw w B u M) (hne : u.ownBlock = none ∨ u.ownBlock ≠ v.ownBlock) (hg : w.grownBy w' v.ownBlock) (hat : v'.ownBlock = v.ownBlock ∨ v'.ownBlock = some w.heap.size) : IIOw w' B u M ∧ (u.ownBlock = none ∨ u.ownBlock ≠ v'.ownBlock) := by
  refine ⟨World.ownsRow.kept k hg hne, ?_⟩
  rcases hat with e | e
  · rw [e]; exact hne
  · cases hu : u.ownBlock with
    | none => exact .inl rfl
    | some g =>
      refine .inr fun q => ?_
      rw [e] at q
      have := (World.ownsRow.lt k g hu).2
      injection q with q
      omega
/-- One more row of hops. -/
theorem TS.addH {w w' : World} {B : Nat} {vT vH vD v' : Value} {LT : List (Tg × Value)} {LH LD l : List (List Int × Value)} {x : List Int} {vx : Value} (h : TS w B vT vH vD LT LH LD) (hl : l = LH ++ [(x, vx)]) (ho : IIOw w' B v' l) (hg : w.grownBy w' vH.ownBlock) (hat : v'.ownBlock = vH.ownBlock ∨ v'.ownBlock = some w.heap.size) (hn : IRk w vx x) : TS w' B vT v' vD LT l LD := by
  have hk : ∀ g t cs, t ≠ 57 → Blk w g t cs → Blk w' g t cs := fun g t cs ht q => app_typed q ht h.hp hg
  have hne : vD.ownBlock = none ∨ vD.ownBlock ≠ vH.ownBlock := by
    rcases h.ne with e | e
    · cases hd : vD.ownBlock with
      | none => exact .inl rfl
      | some g => exact .inr (by rw [e]; intro q; cases q)
    · exact .inr fun q => e q.symm
  obtain ⟨k1, k2⟩ := oth h.hp h.ds hne hg hat
  refine ⟨own_typed h.tg fun g c q => hk g _ c (by decide) q, fun p hp => (h.nm p hp).keep fun g c q => hk g _ c (by decide) q, ho, fun p hp => ?_, k1, fun p hp => (h.dr p hp).keep fun g c q => hk g _ c (by decide) q, ?_⟩
  · rw [hl] at hp
    rcases List.mem_append.1 hp with hp | hp
    · exact (h.hr p hp).keep fun g c q => hk g _ c (by decide) q
    · rw [List.mem_singleton.1 hp]
      exact hn.keep fun g c q => hk g _ c (by decide) q
  · rcases k2 with e | e
    · cases hv : v'.ownBlock with
      | none => exact .inl rfl
      | some g => exact .inr (by rw [e]; intro q; cases q)
    · exact .inr fun q => e q.symm
/-- One more row of distances. -/
theorem TS.addD {w w' : World} {B : Nat} {vT vH vD v' : Value} {LT : List (Tg × Value)} {LH LD l : List (List Int × Value)} {x : List Int} {vx : Value} (h : TS w B vT vH vD LT LH LD) (hl : l = LD ++ [(x, vx)]) (ho : IIOw w' B v' l) (hg : w.grownBy w' vD.ownBlock) (hat : v'.ownBlock = vD.ownBlock ∨ v'.ownBlock = some w.heap.size) (hn : IRk w vx x) : TS w' B vT vH v' LT LH l := by
  have hk : ∀ g t cs, t ≠ 57 → Blk w g t cs → Blk w' g t cs := fun g t cs ht q => app_typed q ht h.ds hg
  obtain ⟨k1, k2⟩ := oth h.ds h.hp h.ne hg hat
  refine ⟨own_typed h.tg fun g c q => hk g _ c (by decide) q, fun p hp => (h.nm p hp).keep fun g c q => hk g _ c (by decide) q, k1, fun p hp => (h.hr p hp).keep fun g c q => hk g _ c (by decide) q, ho, fun p hp => ?_, k2⟩
  rw [hl] at hp
  rcases List.mem_append.1 hp with hp | hp
  · exact (h.dr p hp).keep fun g c q => hk g _ c (by decide) q
  · rw [List.mem_singleton.1 hp]
    exact hn.keep fun g c q => hk g _ c (by decide) q
theorem TS.tbv {w : World} {B : Nat} {vT vH vD : Value} {LT : List (Tg × Value)} {LH LD : List (List Int × Value)} (h : TS w B vT vH vD LT LH LD) (x y : Int) : TbV w ⟨x, y, LT.map (·.1), LD.map (·.1), LH.map (·.1)⟩ vT vD vH :=
  ⟨h.tg.rd fun p hp => (h.nm p hp).bs, h.ds.rd fun p hp => (h.dr p hp).is, h.hp.rd fun p hp => (h.hr p hp).is⟩
end Go.Proofs.YtpnocklldlacjaaDoor

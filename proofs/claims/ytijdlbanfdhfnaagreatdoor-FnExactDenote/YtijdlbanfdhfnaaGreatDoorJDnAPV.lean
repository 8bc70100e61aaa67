/-
  append of one value of one cell, of whatever type, onto a row of the call's own.
  The floor's rows while they are made.
-/
import Derived.Test.YtijdlbanfdhfnaaGreatDoorJDnT
import Derived.Maps.AppendAt
import Derived.Deep.RegionLaw
import Derived.Test.YtijdlbanfdhfnaaGreatDoorJDnTgOW
namespace Go.Proofs.YtijdlbanfdhfnaaGreatDoor
open Go.RowKit

theorem info_partsV {P : Program} {t : TypeId} {z : Value} {a b : Nat} (h : (P.info? t).map (fun i => (i.zero, i.size, i.bytes)) = some (some z, a, b)) : ∃ i, P.info? t = some i ∧ i.zero = some z ∧ i.size = a ∧ i.bytes = b := by
  cases hi : P.info? t with
  | none => rw [hi] at h; cases h
  | some i => rw [hi] at h; simp at h; exact ⟨i, rfl, h.1, h.2.1, h.2.2⟩
theorem one_news {w : World} {g : Nat} {u : Value} (h : w.cell? ⟨g, 0, none⟩ = some u) : ∀ j x, ([u] : List Value)[j]? = some x → w.cell? ((⟨g, 0, none⟩ : Addr).add j) = some x
  | 0, x, hx => by
    have e : (⟨g, 0, none⟩ : Addr).add 0 = ⟨g, 0, none⟩ := by unfold Addr.add; split <;> simp_all
    rw [e, h]
    exact hx
  | _ + 1, _, hx => by cases hx
/-- The law. -/
theorem wp_app1V {P : Program} {ops : Array Oper} {rest : List Oper} {o : Oper} {a : Act} {Q : Exit → Act → World → Prop} {w : World} (hgd : o.guard = none) (s x : Operand) (t e : TypeId)
    (ho : o.op = .call { callee := .builtin .append, args := #[s, x], argTypes := #[t, t] }) (z : Value) (bytes : Nat) (ht : P.underlying t = some (.slice e)) (hinfo : (P.info? e).map (fun i => (i.zero, i.size, i.bytes)) = some (some z, 1, bytes)) (hzc : z.cells.size = 1) (hby : bytes ≤ 1000)
    (B : Nat) (v : Value) (n : Nat) (xs : List Value) (hs : a.eval s = v) (hown : w.ownsRow B e 1 v n xs)
    (g c : Nat) (u : Value) (hx : a.eval x = .slice (some ⟨g, 0, none⟩) 1 c) (hnew : w.cell? ⟨g, 0, none⟩ = some u) (hone : u.oneCell' = true) (hlen : n ≤ 10000000) (hbase : B ≤ w.heap.size)
    (h : ∀ v' w', w'.ownsRow B e 1 v' (n + 1) (xs ++ [u]) → w.grownBy w' v.ownBlock → (v'.ownBlock = v.ownBlock ∨ v'.ownBlock = some w.heap.size) → wpList P ops Q rest (a.put o.dst v') w') : wpList P ops Q (o :: rest) a w := by
  obtain ⟨i0, hi, hz0, hz1, hz2⟩ := info_partsV hinfo
  refine wpList_append_own_at _ hgd s x t ho B e i0 z 1 bytes ht hi hz0 hz1 hz2 hzc (by decide) v n xs hs hown ⟨g, 0, none⟩ 1 c [u] hx rfl (one_news hnew) (fun y hy => by rw [List.mem_singleton.1 hy]; exact hone) (by unfold maxLen; omega) ?_ hbase (fun v' w' h1 h2 _ h4 => h v' w' h1 h2 h4)
  have : (n + 1) * bytes ≤ 10000001 * 1000 := Nat.mul_le_mul (by omega) hby
  omega
/-- .. as a step of a region that draws. -/
theorem step_app1V {P : Program} {ops : Array Oper} {o : Oper} {a : Act} {w : World} {K : Act → World → Prop} {Q : Exit → Act → World → Prop} {E : Prop} (hgd : o.guard = none) (s x : Operand) (t e : TypeId)
    (ho : o.op = .call { callee := .builtin .append, args := #[s, x], argTypes := #[t, t] }) (z : Value) (bytes : Nat) (ht : P.underlying t = some (.slice e)) (hinfo : (P.info? e).map (fun i => (i.zero, i.size, i.bytes)) = some (some z, 1, bytes)) (hzc : z.cells.size = 1) (hby : bytes ≤ 1000)
    (B : Nat) (v : Value) (n : Nat) (xs : List Value) (hs : a.eval s = v) (hown : w.ownsRow B e 1 v n xs)
    (g c : Nat) (u : Value) (hx : a.eval x = .slice (some ⟨g, 0, none⟩) 1 c) (hnew : w.cell? ⟨g, 0, none⟩ = some u) (hone : u.oneCell' = true) (hlen : n ≤ 10000000) (hbase : B ≤ w.heap.size)
    (h : ∀ v' w', w'.ownsRow B e 1 v' (n + 1) (xs ++ [u]) → w.grownBy w' v.ownBlock → (v'.ownBlock = v.ownBlock ∨ v'.ownBlock = some w.heap.size) → K (a.put o.dst v') w') :
    if Region.wanted o (yielded ops a.tmps) = true then Oper.wp P o a w K Q else E := by
  have hw : Region.wanted o (yielded ops a.tmps) = true := by simp [Region.wanted, hgd]
  rw [if_pos hw]
  obtain ⟨i0, hi, hz0, hz1, hz2⟩ := info_partsV hinfo
  have hb2 : (n + 1) * bytes ≤ 140737488355328 := by
    have : (n + 1) * bytes ≤ 10000001 * 1000 := Nat.mul_le_mul (by omega) hby
    omega
  obtain ⟨v', w', hr, h1, h2, _, h4⟩ := run_append_own_at (P := P) w B t o.type e i0 z 1 bytes ht hi hz0 hz1 hz2 hzc (by decide) v n xs hown ⟨g, 0, none⟩ 1 c [u] rfl (one_news hnew) (fun y hy => by rw [List.mem_singleton.1 hy]; exact hone) (by unfold maxLen; omega) hb2 hbase
  unfold Oper.wp execOp
  simp only [ho, resolve, invoke, builtin, Sem.run_bind, Sem.run_pure, Result.andThen_ok, List.map_toArray, List.map_cons, List.map_nil, hs, hx, hr]
  exact h v' w' h1 h2 h4
/-- Such a row written out. -/
theorem own_slcV {w : World} {B e n : Nat} {v : Value} {xs : List Value} (h : w.ownsRow B e 1 v n xs) : ∃ a c, v = .slice a n c := by
  rcases h.2 with ⟨h1, h0⟩ | ⟨g, c, cur, hv, _⟩
  · exact ⟨none, 0, by rw [h1, h0]⟩
  · exact ⟨_, c, hv⟩
end Go.Proofs.YtijdlbanfdhfnaaGreatDoor

namespace Go.Proofs.YtijdlbanfdhfnaaGreatDoor
open Go.RowKit

theorem own_rwV {w : World} {B e n : Nat} {v : Value} {xs : List Value} (h : w.ownsRow B e 1 v n xs) (h0 : 0 < n) : ∃ g c, v = .slice (some ⟨g, 0, none⟩) n c ∧ B ≤ g ∧ ∃ cs, Blk w g e cs ∧ ∀ j, j < n → cs[j]? = xs[j]? := by
  rcases h.2 with ⟨_, hn⟩ | ⟨g, c, cur, hv, hb, hg, hn, hm, hs, ht⟩
  · omega
  · refine ⟨g, c, hv, hb, cur, hg, fun j hj => ?_⟩
    rw [← Array.getElem?_toList, ← List.getElem?_take_of_lt (by omega : j < n * 1), ht]
/-- So many walls, costs and ways are laid. -/
structure FlB (w : World) (F : Nat) (fw fh : Int) (kw kc kd : Nat) (vw vc vd : Value) (G : Nat → Nat) : Prop where
  blk : Blk w F 47 #[.int .i64 fw, .int .i64 fh, vw, vc, vd, .slice none 0 0, .slice none 0 0]
  ow : w.ownsRow (F + 1) 4 1 vw kw (List.replicate kw (.bool false))
  oc : w.ownsRow (F + 1) 3 1 vc kc (List.replicate kc (.int .i64 1))
  od : w.ownsRow (F + 1) 44 1 vd kd ((List.range kd).map fun j => .slice (some ⟨G j, 0, none⟩) 4 4)
  wr : ∀ j, j < kd → Rw w (G j) 4 4 (fun _ => .bool true)
  gi : ∀ c c', c < kd → c' < kd → G c = G c' → c = c'
  gw : ∀ j, j < kd → vw.ownBlock ≠ some (G j)
  lg : ∀ j, j < kd → F < G j
theorem kept_rowV {w w' : World} {B e n : Nat} {v : Value} {xs : List Value} (h : w.ownsRow B e 1 v n xs) (hb : Below w.heap.size w w') : w'.ownsRow B e 1 v n xs := own_typed h fun _ _ q => q.below hb
theorem FlB.below {w w' : World} {F kw kc kd : Nat} {fw fh : Int} {vw vc vd : Value} {G : Nat → Nat} (h : FlB w F fw fh kw kc kd vw vc vd G) (hb : Below w.heap.size w w') : FlB w' F fw fh kw kc kd vw vc vd G :=
  ⟨h.blk.below hb, kept_rowV h.ow hb, kept_rowV h.oc hb, kept_rowV h.od hb, fun j hj => (h.wr j hj).below hb, h.gi, h.gw, h.lg⟩
theorem FlB.app2 {w w' : World} {F kw kc kd : Nat} {fw fh : Int} {vw vc vd v' : Value} {G : Nat → Nat} (h : FlB w F fw fh kw kc kd vw vc vd G) (ho : w'.ownsRow (F + 1) 4 1 v' (kw + 1) (List.replicate kw (.bool false) ++ [.bool false])) (hg : w.grownBy w' vw.ownBlock) (ha : v'.ownBlock = vw.ownBlock ∨ v'.ownBlock = some w.heap.size) :
    FlB (w'.setCell ⟨F, 2, none⟩ v') F fw fh (kw + 1) kc kd v' vc vd G := by
  have hb : Blk w' F 47 _ := app_typed h.blk (by decide) h.ow hg
  have hG : ∀ j, j < kd → G j < w.heap.size := fun j hj => by obtain ⟨cs, q, _⟩ := h.wr j hj; exact q.lt
  refine ⟨hb.set 2 v', ?_, own_typed h.oc fun _ _ q => set_typed hb (app_typed q (by decide) h.ow hg) (by decide), own_typed h.od fun _ _ q => set_typed hb (app_typed q (by decide) h.ow hg) (by decide), fun j hj => (h.wr j hj).keep fun _ q => set_typed hb ((hg.block _ q.lt (fun e => h.gw j hj e.symm)).trans q) (by decide), h.gi, fun j hj => ?_, h.lg⟩
  · rw [List.replicate_succ']
    exact own_typed ho fun _ _ q => set_typed hb q (by decide)
  · rcases ha with e | e
    · rw [e]; exact h.gw j hj
    · rw [e]; intro q; injection q with q; have := hG j hj; omega
theorem FlB.app3 {w w' : World} {F kw kc kd : Nat} {fw fh : Int} {vw vc vd v' : Value} {G : Nat → Nat} (h : FlB w F fw fh kw kc kd vw vc vd G) (ho : w'.ownsRow (F + 1) 3 1 v' (kc + 1) (List.replicate kc (.int .i64 1) ++ [.int .i64 1])) (hg : w.grownBy w' vc.ownBlock) :
    FlB (w'.setCell ⟨F, 3, none⟩ v') F fw fh kw (kc + 1) kd vw v' vd G := by
  have hb : Blk w' F 47 _ := app_typed h.blk (by decide) h.oc hg
  refine ⟨hb.set 3 v', own_typed h.ow fun _ _ q => set_typed hb (app_typed q (by decide) h.oc hg) (by decide), ?_, own_typed h.od fun _ _ q => set_typed hb (app_typed q (by decide) h.oc hg) (by decide), fun j hj => (h.wr j hj).keep fun _ q => set_typed hb (app_typed q (by decide) h.oc hg) (by decide), h.gi, h.gw, h.lg⟩
  rw [List.replicate_succ']
  exact own_typed ho fun _ _ q => set_typed hb q (by decide)
/-- A row of ways more, in the block g. -/
def upG (G : Nat → Nat) (k g : Nat) : Nat → Nat := fun j => if j = k then g else G j
theorem FlB.app4 {w w' : World} {F kw kc kd g : Nat} {fw fh : Int} {vw vc vd v' : Value} {G : Nat → Nat} (h : FlB w F fw fh kw kc kd vw vc vd G) (hr : Rw w g 4 4 (fun _ => .bool true)) (hn : ∀ j, j < kd → G j ≠ g) (hw : vw.ownBlock ≠ some g) (hF : F < g)
    (ho : w'.ownsRow (F + 1) 44 1 v' (kd + 1) (((List.range kd).map fun j => Value.slice (some ⟨G j, 0, none⟩) 4 4) ++ [.slice (some ⟨g, 0, none⟩) 4 4])) (hg : w.grownBy w' vd.ownBlock) :
    FlB (w'.setCell ⟨F, 4, none⟩ v') F fw fh kw kc (kd + 1) vw vc v' (upG G kd g) := by
  have hb : Blk w' F 47 _ := app_typed h.blk (by decide) h.od hg
  have eG : ∀ j, j < kd → upG G kd g j = G j := fun j hj => by unfold upG; rw [if_neg (by omega)]
  have eg : upG G kd g kd = g := by unfold upG; rw [if_pos rfl]
  have ey : ∀ j, j < kd + 1 → j = kd ∨ j < kd := fun j hj => by omega
  refine ⟨hb.set 4 v', own_typed h.ow fun _ _ q => set_typed hb (app_typed q (by decide) h.od hg) (by decide), own_typed h.oc fun _ _ q => set_typed hb (app_typed q (by decide) h.od hg) (by decide), ?_, fun j hj => ?_, fun c c' hc hc' e => ?_, fun j hj => ?_, fun j hj => ?_⟩
  · rw [List.range_succ, List.map_append]
    have e1 : (List.range kd).map (fun j => Value.slice (some ⟨upG G kd g j, 0, none⟩) 4 4) = (List.range kd).map fun j => Value.slice (some ⟨G j, 0, none⟩) 4 4 := List.map_congr_left fun j hj => by rw [eG j (List.mem_range.1 hj)]
    rw [e1]
    show World.ownsRow _ _ _ _ _ _ (_ ++ [Value.slice (some ⟨upG G kd g kd, 0, none⟩) 4 4])
    rw [eg]
    exact own_typed ho fun _ _ q => set_typed hb q (by decide)
  · rcases ey j hj with rfl | hj'
    · rw [eg]; exact hr.keep fun _ q => set_typed hb (app_typed q (by decide) h.od hg) (by decide)
    · rw [eG j hj']; exact (h.wr j hj').keep fun _ q => set_typed hb (app_typed q (by decide) h.od hg) (by decide)
  · rcases ey c hc with rfl | hc1
    · rcases ey c' hc' with rfl | hc2
      · rfl
      · rw [eg, eG c' hc2] at e; exact absurd e.symm (hn c' hc2)
    · rcases ey c' hc' with rfl | hc2
      · rw [eg, eG c hc1] at e; exact absurd e (hn c hc1)
      · rw [eG c hc1, eG c' hc2] at e; exact h.gi c c' hc1 hc2 e
  · rcases ey j hj with rfl | hj'
    · rw [eg]; exact hw
    · rw [eG j hj']; exact h.gw j hj'
  · rcases ey j hj with rfl | hj'
    · rw [eg]; exact hF
    · rw [eG j hj']; exact h.lg j hj'
/-- All are laid: the floor at first. -/
theorem FlB.flm {w : World} {F fw fh n : Nat} {vw vc vd : Value} {G : Nat → Nat} (h : FlB w F (fw : Nat) (fh : Nat) n n n vw vc vd G) (hn : fw * fh = n) (h0 : 0 < n) : ∃ bw bc bd cw cc cd, FlM w F bw bc bd cw cc cd G (flo0 fw fh) (.slice none 0 0) (.slice none 0 0) [] := by
  obtain ⟨bw, cw, rfl, hbw, csw, hw1, hw2⟩ := own_rwV h.ow h0
  obtain ⟨bc, cc, rfl, hbc, csc, hc1, hc2⟩ := own_rwV h.oc h0
  obtain ⟨bd, cd, rfl, hbd, csd, hd1, hd2⟩ := own_rwV h.od h0
  subst hn
  refine ⟨bw, bc, bd, cw, cc, cd, h.blk, ⟨csw, hw1, fun c hc => ?_⟩, ⟨csc, hc1, fun c hc => ?_⟩, ⟨csd, hd1, fun c hc => ?_⟩, fun c hc => (h.wr c hc).congr fun _ _ => rfl, h.gi, fun c hc e => h.gw c hc (by show some bw = _; rw [e]), TgOw.nil _ _, fun p hp => (by cases hp), rfl, Ow.nil _ _, fun e => (by cases e), by omega, by omega, h.lg⟩
  · have hc : c < fw * fh := hc
    rw [hw2 c hc]
    show _ = some (Value.bool false)
    rw [List.getElem?_replicate, if_pos hc]
  · have hc : c < fw * fh := hc
    rw [hc2 c hc]
    show _ = some (Value.int .i64 1)
    rw [List.getElem?_replicate, if_pos hc]
  · have hc : c < fw * fh := hc
    rw [hd2 c hc, List.getElem?_map, List.getElem?_range hc]
    rfl
end Go.Proofs.YtijdlbanfdhfnaaGreatDoor

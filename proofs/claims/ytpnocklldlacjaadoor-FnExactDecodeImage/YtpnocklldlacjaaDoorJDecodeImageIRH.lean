/-
  The walk of impl's reader: hops.
  What impl's reader holds under way to tables.
  What a round of a range over a function keeps.
  The first numbers below a bound; what a round answers.
-/
import Derived.Test.YtpnocklldlacjaaDoorJDecodeImageIRT
import Derived.Test.YtpnocklldlacjaaDoorJDecodeImageIPU
import Derived.Test.YtpnocklldlacjaaDoorJDecodeImageSDS
import Derived.Test.YtpnocklldlacjaaDoorJDecodeImageIN0
import Derived.RangeFuncNested
import Derived.RangeFuncBound
import Derived.RangeFuncCalls
import Derived.RangeFuncLeaves
import Derived.RangeFuncBox
import Derived.Shelf.Abstract
import Derived.Shelf.RegionOpen
import Derived.OwnWalkIn
import Derived.TacticsInMore
import Derived.LoopNIn
import Derived.LoopIn
import Derived.Maps.AppendAt
import Derived.Test.YtpnocklldlacjaaDoorJDecodeImageT
namespace Go.Proofs.YtpnocklldlacjaaDoor
open Go.RowKit

theorem Rz.want {w : World} {g b o c : Nat} {a : Addr} {s : ByteArray} {st : Nat × Bool} (ok : Bool) (h : Rz w g b o c a s st) :
    Calls Tryd.prog 67 #[.pointer (some ⟨g, 0, none⟩), .bool ok] w fun e w' => e = .returned (.tuple #[]) ∧ Rz w' g b o c a s (st.1, st.2 || !ok) ∧ Wrs [g] w w' := by
  obtain ⟨r1, a1, r2, r3⟩ := h.ri
  exact (want_any g a _ st.2 ok w r2 h.er).mono fun _ _ ⟨h1, h2, h3⟩ => ⟨h1, h.wrs ⟨r1, a1, h2, r3⟩ h3, h3⟩

set_option maxHeartbeats 4000000 in
set_option maxRecDepth 1000000 in
theorem rhops_any {w : World} {g b o c C : Nat} {a : Addr} {s : ByteArray} {st : Nat × Bool} (hC : C ≤ 1600) (h : Rz w g b o c a s st) :
    Calls Tryd.prog 71 #[.pointer (some ⟨g, 0, none⟩), .int .i64 C] w fun e w' => ∃ v, e = .returned v ∧ w'.ownsRow w.heap.size 3 1 v (upF (rb (fb s) s.size st ((3 * C + 7) / 8)).1 (C : Nat)).length (ci (upF (rb (fb s) s.size st ((3 * C + 7) / 8)).1 (C : Nat))) ∧ Rz w' g b o c a s ((rb (fb s) s.size st ((3 * C + 7) / 8)).2.1, (rb (fb s) s.size st ((3 * C + 7) / 8)).2.2 || !(upC (rb (fb s) s.size st ((3 * C + 7) / 8)).1 (C : Nat) == 0)) ∧ Wrs [g] w w' := by
  have hq : (3 * C + 7) / 8 ≤ 700 := by omega
  have HPZ := hide (packedSize_any C w (by omega))
  have HTK := hide (h.take (n := (3 * C + 7) / 8) (by omega))
  have hrl := rb_len (s := s) (st := st) (n := (3 * C + 7) / 8)
  obtain ⟨q, hqe⟩ : ∃ q, (3 * C + 7) / 8 = q := ⟨_, rfl⟩
  rw [hqe] at hq HPZ HTK hrl ⊢
  obtain ⟨B, hB⟩ : ∃ B, (rb (fb s) s.size st q).1 = B := ⟨_, rfl⟩
  obtain ⟨sa, hsa⟩ : ∃ B, (rb (fb s) s.size st q).2 = B := ⟨_, rfl⟩
  rw [hB] at HTK hrl ⊢
  rw [hsa] at HTK ⊢
  have HUP0 : Hid (∀ V v, BS V v B → Calls Tryd.prog 84 #[v, .int .i64 ((C : Nat) : Int)] V fun e w' => ∃ u, e = .returned (.tuple #[u, .int .i64 (upC B (C : Nat))]) ∧ w'.ownsRow V.heap.size 3 1 u (upF B (C : Nat)).length (ci (upF B (C : Nat))) ∧ Below V.heap.size V w') := fun V v hb => (implUnpack_full B (C : Nat) v V (by omega) (WalkArith.wf_i64 (by omega)) hb).mono fun _ _ ⟨u, bl, h1, h2, _, h4⟩ => ⟨u, h1, h2.2, h4⟩
  obtain ⟨cd, hcd⟩ : ∃ n, upC B (C : Nat) = n := ⟨_, rfl⟩
  obtain ⟨Hp, hHp⟩ : ∃ n, upF B (C : Nat) = n := ⟨_, rfl⟩
  rw [hcd, hHp] at HUP0 ⊢
  clear hqe hB hsa h hcd hHp
  go_enter Tryd.func71, Tryd.ntmps71
  go_wp2_with fail
  refine HPZ.out.mono ?_
  rintro e w0 ⟨rfl, rfl⟩
  go_wp2_with fail
  refine HTK.out.mono ?_
  rintro e w1 ⟨v1, rfl, hbs, hcp, hr, hw⟩
  have HR1 := hide hr
  have HW1 := hide hw
  have HUP := hide (HUP0.out _ _ hbs)
  obtain ⟨a1, c1, rfl⟩ := hbs.slice
  clear hr hw hbs hcp
  go_wp2_with fail
  refine HUP.out.mono ?_
  rintro e w2 ⟨v2, rfl, hown, hb2⟩
  have HR2 := hide (HR1.out.below hb2)
  have HW2 := hide (HW1.out.trans (Wrs.of_below hb2))
  have HO2 := hide hown
  have hw1 := HW1.out.size
  obtain ⟨a2, c2, rfl⟩ := (own_irk HO2.out).slice
  clear hown hb2 HUP
  go_wp2_with fail
  refine (HR2.out.want _).mono ?_
  rintro e w3 ⟨rfl, hr3, hw3⟩
  have HR3 := hide hr3
  have HW3 := hide (HW2.out.trans hw3)
  have HO3 := hide (own_base (own_typed HO2.out fun k cur q => wrs_blk hw3 q (fun e => by
    subst e
    obtain ⟨_, a1', r2, _⟩ := HR2.out.ri
    unfold Blk at r2 q
    rw [r2] at q
    injection q with q
    injection q with _ q
    revert q
    decide)) hw1)
  clear hr3 hw3
  go_wp2
  go_ret
  exact ⟨_, rfl, HO3.out, HR3.out, HW3.out⟩
end Go.Proofs.YtpnocklldlacjaaDoor

namespace Go.Proofs.YtpnocklldlacjaaDoor
open Go.RowKit

/-- The block of a slice of n. -/
def vb : Value → Nat → List Nat
  | .slice (some a) _ _, n => if 0 < n then [a.block] else []
  | _, _ => []
def nbl (L : List (Tg × Value)) : List Nat := L.flatMap fun p => vb p.2 p.1.name.size
def ibl (L : List (List Int × Value)) : List Nat := L.flatMap fun p => vb p.2 p.1.length
theorem vb_own {w : World} {B e sz n : Nat} {v : Value} {xs : List Value} (h : w.ownsRow B e sz v n xs) (m : Nat) : ∀ k ∈ vb v m, B ≤ k ∧ k < w.heap.size := by
  intro k hk
  rcases h.2 with ⟨h1, _⟩ | ⟨g, cap, cur, h1, h2, h3, _⟩
  · rw [h1] at hk
    cases hk
  · rw [h1] at hk
    have hk : k ∈ if 0 < m then [g] else [] := hk
    split at hk
    · rw [List.mem_singleton.1 hk]
      exact ⟨h2, (Array.getElem?_eq_some_iff.1 h3).1⟩
    · cases hk
theorem vb_nodup (v : Value) (m : Nat) : (vb v m).Nodup := by
  unfold vb
  split
  · split
    · exact List.nodup_cons.2 ⟨List.not_mem_nil, List.nodup_nil⟩
    · exact List.nodup_nil
  · exact List.nodup_nil
/-- Blocks of elements, each once. -/
structure Els (w : World) (B : Nat) (l : List Nat) : Prop where
  nd : l.Nodup
  loc : ∀ k ∈ l, B ≤ k ∧ k < w.heap.size
theorem Els.nil (w : World) (B : Nat) : Els w B [] := ⟨List.nodup_nil, fun _ h => nomatch h⟩
theorem Els.grow {w w' : World} {B : Nat} {l : List Nat} (h : Els w B l) (hs : w.heap.size ≤ w'.heap.size) : Els w' B l := ⟨h.nd, fun k hk => ⟨(h.loc k hk).1, Nat.lt_of_lt_of_le (h.loc k hk).2 hs⟩⟩
theorem Els.mid {w w' : World} {B : Nat} {l1 l2 x : List Nat} (h : Els w B (l1 ++ l2)) (hx : x.Nodup) (hn : ∀ k ∈ x, w.heap.size ≤ k ∧ k < w'.heap.size) (hs : w.heap.size ≤ w'.heap.size) (hB : B ≤ w.heap.size) : Els w' B (l1 ++ x ++ l2) := by
  have h0 := List.nodup_append.1 h.nd
  refine ⟨?_, fun k hk => ?_⟩
  · refine List.nodup_append.2 ⟨List.nodup_append.2 ⟨h0.1, hx, fun p hp q hq e => ?_⟩, h0.2.1, fun p hp q hq e => ?_⟩
    · have h1 := (h.loc p (List.mem_append_left _ hp)).2
      have h2 := (hn q hq).1
      omega
    · rcases List.mem_append.1 hp with hp | hp
      · exact h0.2.2 p hp q hq e
      · have h1 := (h.loc q (List.mem_append_right _ hq)).2
        have h2 := (hn p hp).1
        omega
  · rcases List.mem_append.1 hk with hk | hk
    · rcases List.mem_append.1 hk with hk | hk
      · exact ⟨(h.loc k (List.mem_append_left _ hk)).1, Nat.lt_of_lt_of_le (h.loc k (List.mem_append_left _ hk)).2 hs⟩
      · exact ⟨Nat.le_trans hB (hn k hk).1, (hn k hk).2⟩
    · exact ⟨(h.loc k (List.mem_append_right _ hk)).1, Nat.lt_of_lt_of_le (h.loc k (List.mem_append_right _ hk)).2 hs⟩
structure Di (w0 : World) (g b o c : Nat) (a : Addr) (s : ByteArray) (Z M n1 n2 : Nat) (w : World) (st : Nat × Bool) (vT vH vD : Value) (LT : List (Tg × Value)) (LH LD : List (List Int × Value)) : Prop where
  rz : Rz w g b o c a s st
  gz : Blk w Z 30 #[.int .i64 0, .int .i64 0, .slice none 0 0, .slice none 0 0, .slice none 0 0]
  tb : Blk w M 30 #[.int .i64 n1, .int .i64 n2, vT, vD, vH]
  ts : TS w (M + 1) vT vH vD LT LH LD
  en : Els w (M + 1) (nbl LT)
  ei : Els w (M + 1) (ibl LH ++ ibl LD)
  wr : Wrs [g] w0 w
  hg : g < w0.heap.size
  hZ : w0.heap.size ≤ Z
  hM : Z < M
  hbM : ∀ j, j < s.size → b < M
  heM : 0 < M
theorem Di.below {w0 : World} {g b o c : Nat} {a : Addr} {s : ByteArray} {Z M n1 n2 : Nat} {w w' : World} {st : Nat × Bool} {vT vH vD : Value} {LT : List (Tg × Value)} {LH LD : List (List Int × Value)} (h : Di w0 g b o c a s Z M n1 n2 w st vT vH vD LT LH LD) (k : Below w.heap.size w w') : Di w0 g b o c a s Z M n1 n2 w' st vT vH vD LT LH LD :=
  ⟨h.rz.below k, h.gz.below k, h.tb.below k, h.ts.below k, h.en.grow k.size, h.ei.grow k.size, h.wr.trans (Wrs.of_below k), h.hg, h.hZ, h.hM, h.hbM, h.heM⟩
theorem Di.num {w0 : World} {g b o c : Nat} {a : Addr} {s : ByteArray} {Z M n1 n2 : Nat} {w w' : World} {st st' : Nat × Bool} {vT vH vD : Value} {LT : List (Tg × Value)} {LH LD : List (List Int × Value)} (h : Di w0 g b o c a s Z M n1 n2 w st vT vH vD LT LH LD) (hr : Rz w' g b o c a s st') (hw : Wrs [g] w w') : Di w0 g b o c a s Z M n1 n2 w' st' vT vH vD LT LH LD := by
  have h1 := h.hg; have h2 := h.hZ; have h3 := h.hM
  refine ⟨hr, wrs_blk hw h.gz (by omega), wrs_blk hw h.tb (by omega), h.ts.keep fun k t cs ht q => wrs_blk hw q (fun e => ?_), h.en.grow hw.size, h.ei.grow hw.size, h.wr.trans hw, h.hg, h.hZ, h.hM, h.hbM, h.heM⟩
  subst e
  obtain ⟨_, a', r2, _⟩ := h.rz.ri
  unfold Blk at r2 q
  rw [r2] at q
  injection q with q
  injection q with _ q
  subst q
  revert ht
  decide
theorem Di.grown {w0 : World} {g b o c : Nat} {a : Addr} {s : ByteArray} {Z M n1 n2 : Nat} {w w' : World} {st : Nat × Bool} {vT vH vD vT' vH' vD' : Value} {LT lT : List (Tg × Value)} {LH LD lH lD : List (List Int × Value)} {bt : TypeId} {sz n : Nat} {v : Value} {xs : List Value} (h : Di w0 g b o c a s Z M n1 n2 w st vT vH vD LT LH LD) (hown : w.ownsRow (M + 1) bt sz v n xs) (ht1 : bt ≠ 30) (hg : w.grownBy w' v.ownBlock)
    (hts : TS w' (M + 1) vT' vH' vD' lT lH lD) (hen : Els w (M + 1) (nbl lT)) (hei : Els w (M + 1) (ibl lH ++ ibl lD)) (k : Nat) (u : Value) (hcs : (#[.int .i64 n1, .int .i64 n2, vT, vD, vH] : Array Value).setIfInBounds k u = #[.int .i64 n1, .int .i64 n2, vT', vD', vH']) : Di w0 g b o c a s Z M n1 n2 (w'.setCell ⟨M, k, none⟩ u) st vT' vH' vD' lT lH lD := by
  have h1 := h.hg; have h2 := h.hZ; have h3 := h.hM; have h4 := h.tb.lt
  have hbl : Below (M + 1) w w' := (Below.refl _ w).grown hg (by omega) (fun k hk => (hown.lt k hk).1)
  have hM' : Blk w' M _ _ := app_typed h.tb (fun e => ht1 e.symm) hown hg
  have hb2 : Below M w (w'.setCell ⟨M, k, none⟩ u) := (hbl.mono (B' := M) (by omega)).setCell (Nat.le_refl _) u
  have hsz : w.heap.size ≤ (w'.setCell ⟨M, k, none⟩ u).heap.size := hb2.size
  have hwr : Wrs [g] w0 (w'.setCell ⟨M, k, none⟩ u) := ⟨hb2.os.trans h.wr.os, hb2.tape.trans h.wr.tape, hb2.output.trans h.wr.output, Nat.le_trans h.wr.size hsz, fun q hq hb => (hb2.block q (by omega)).trans (h.wr.blk q hq hb)⟩
  refine ⟨?_, (hb2.block Z (by omega)).trans h.gz, ?_, hts.keep fun g t cs ht q => set_typed hM' q (by rcases ht with e | e | e | e <;> rw [e] <;> decide), hen.grow hsz, hei.grow hsz, hwr, h.hg, h.hZ, h.hM, h.hbM, h.heM⟩
  · obtain ⟨r1, a', r2, r3⟩ := h.rz.ri
    refine ⟨⟨r1, a', (hb2.block g (by omega)).trans r2, r3⟩, ⟨h.rz.ty.len, h.rz.ty.cap, fun j hj => ?_⟩, ?_, h.rz.gb, h.rz.ge⟩
    · exact (hb2.cell (p := ⟨b, o + j, none⟩) (h.hbM j hj)).trans (h.rz.ty.cell j hj)
    · exact (hb2.cell (p := ⟨0, 0, none⟩) h.heM).trans h.rz.er
  · rw [← hcs]
    exact hM'.set k u
end Go.Proofs.YtpnocklldlacjaaDoor

namespace Go.Proofs.YtpnocklldlacjaaDoor
open Go.RowKit Go.Shelf

/-- What is kept over a round: what lay below n₀, and the box of the source. -/
def KpB (n₀ Bn : Nat) (W W' : World) : Prop := Below n₀ W W' ∧ W'.cell? ⟨Bn, 0, none⟩ = W.cell? ⟨Bn, 0, none⟩

theorem below_grown {w w' : World} (hb : Below w.heap.size w w') : w.grownBy w' none := ⟨hb.os, hb.tape, hb.output, hb.size, fun k hk _ => hb.block k hk⟩
theorem kpB_t {n₀ Bn : Nat} {A B C : World} (h : KpB n₀ Bn A B) (k : KpB n₀ Bn B C) : KpB n₀ Bn A C := ⟨h.1.trans k.1, k.2.trans h.2⟩
theorem kpB_b {n₀ Bn : Nat} {w : World} (hn : n₀ ≤ w.heap.size) (hB : Bn < w.heap.size) (W : World) (l : Nat) (o o' : Obj) (hl : w.heap.size ≤ l) (h : W.heap[l]? = some o) (h1 : o.isCells = false) (h2 : o.isWalk = false) : KpB n₀ Bn W (W.putObj l o') :=
  ⟨belowK_b hn W l o o' hl h h1 h2, (belowK_b (n₀ := Bn + 1) (w := w) hB W l o o' hl h h1 h2).cell (p := ⟨Bn, 0, none⟩) (Nat.lt_succ_self _)⟩

theorem box_kept {W W' : World} {row : Option Nat} {B : Nat} {t : TypeId} {v : Value} (h : Boxed W B t v) (hg : W.grownBy W' row) (hr : ∀ r, row = some r → ∃ o : Obj, W.heap[r]? = some o ∧ o.isCells = false) : Boxed W' B t v :=
  h.kept hg (fun e' => by obtain ⟨o, ho, hc⟩ := hr B e'.symm; rw [show W.heap[B]? = _ from h] at ho; cases ho; cases hc)
end Go.Proofs.YtpnocklldlacjaaDoor

namespace Go.Proofs.YtpnocklldlacjaaDoor
open Go.RowKit

/-- The first k numbers below m. -/
def fr (m : Nat) : Nat → List (Fin m)
  | 0 => []
  | k + 1 => fr m k ++ (if h : k < m then [⟨k, h⟩] else [])
theorem fr_succ {m k : Nat} (h : k < m) : fr m (k + 1) = fr m k ++ [⟨k, h⟩] := by
  show fr m k ++ _ = _
  rw [dif_pos h]
theorem fr_len {m : Nat} : ∀ k, k ≤ m → (fr m k).length = k
  | 0, _ => rfl
  | k + 1, h => by rw [fr_succ (by omega), List.length_append, fr_len k (by omega), List.length_singleton]
theorem fr_pre {m : Nat} (k : Nat) : ∀ j, fr m k <+: fr m (k + j)
  | 0 => List.prefix_rfl
  | j + 1 => (fr_pre k j).trans (List.prefix_append _ _)
theorem fr_map {m : Nat} (f : Nat → Int) : ∀ k, k ≤ m → (fr m k).map (fun x => f x.1) = (List.range k).map f
  | 0, _ => rfl
  | k + 1, h => by rw [fr_succ (by omega), List.map_append, fr_map f k (by omega), List.range_succ, List.map_append]; rfl

/-- What a round's body answers, as one bool. -/
theorem yc_of {e : Ending} {A B : Prop} (h : (e = .returned (.bool true) ∧ A) ∨ (e = .returned (.bool false) ∧ B)) : ∃ b : Bool, e = .returned (.bool b) ∧ ((b = true ∧ A) ∨ (b = false ∧ B)) := by
  rcases h with ⟨h1, h2⟩ | ⟨h1, h2⟩
  · exact ⟨true, h1, .inl ⟨rfl, h2⟩⟩
  · exact ⟨false, h1, .inr ⟨rfl, h2⟩⟩
end Go.Proofs.YtpnocklldlacjaaDoor

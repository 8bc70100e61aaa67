/-
  What Components holds in memory while it runs.
-/
import Derived.Test.YtohilccbfdienaaJCoTJD
import Derived.Test.YtohilccbfdienaaJCoTKT
import Derived.Test.YtohilccbfdienaaJCoINC
import Derived.Lib.Slices
namespace Go.Proofs.Ytohilccbfdienaa
open Go.RowKit

/-- Cells as numbers. -/
def nums (st : List Nat) : List Int := st.map fun x : Nat => (x : Int)
theorem nums_length (st : List Nat) : (nums st).length = st.length := by unfold nums; simp
theorem nums_append (a b : List Nat) : nums (a ++ b) = nums a ++ nums b := by unfold nums; simp
theorem nums_getD {st : List Nat} {i : Nat} (h : i < st.length) : (nums st).getD i 0 = ((st.getD i 0 : Nat) : Int) := by unfold nums; simp [List.getD, h]
/-- The function that visits. -/
def visV (BM BR BU GB BV BL : Nat) : Value := .func (.func 21) #[] #[.pointer (some ⟨BM, 0, none⟩), .pointer (some ⟨BR, 0, none⟩), .pointer (some ⟨BU, 0, none⟩), .pointer (some ⟨GB, 0, none⟩), .pointer (some ⟨BV, 0, none⟩), .pointer (some ⟨BL, 0, none⟩)]
/-- .. in memory: LB the least ones, RB = BL + 1 the ranks; boxes from BL on. -/
structure TjM (w0 : World) (n GB LB BL : Nat) (cs : Array Value) (rk : Nat → Nat) (ls : Nat → Int) (st : List Nat) (m : Nat) (W : World) : Prop where
  met : Boxed W (BL + 3) 3 (.int .i64 m)
  rkb : Boxed W (BL + 2) 22 (.slice (some ⟨BL + 1, 0, none⟩) n n)
  unk : ∃ v, Boxed W (BL + 4) 45 v ∧ IOw W (BL + 6) v (nums st)
  gb : Blk W GB 28 cs
  vis : Boxed W (BL + 5) 46 (visV (BL + 3) (BL + 2) (BL + 4) GB (BL + 5) BL)
  lsb : Boxed W BL 22 (.slice (some ⟨LB, 0, none⟩) n n)
  rrow : W.rowIs (BL + 1) 3 n (fun x => .int .i64 (rk x))
  lrow : W.rowIs LB 3 n (fun x => .int .i64 (ls x))
  bel : Below w0.heap.size w0 W
  gz : BL + 6 ≤ W.heap.size
  num : w0.heap.size ≤ GB ∧ GB < LB ∧ LB < BL
theorem TjM.below {w0 : World} {n GB LB BL : Nat} {cs : Array Value} {rk : Nat → Nat} {ls : Nat → Int} {st : List Nat} {m : Nat} {W W' : World} (h : TjM w0 n GB LB BL cs rk ls st m W) (hb : Below W.heap.size W W') : TjM w0 n GB LB BL cs rk ls st m W' := by
  obtain ⟨v, h1, h2⟩ := h.unk
  exact ⟨Blk.below h.met hb, Blk.below h.rkb hb, ⟨v, Blk.below h1 hb, h2.kept hb⟩, h.gb.below hb, Blk.below h.vis hb, Blk.below h.lsb hb, row_kept h.rrow hb, row_kept h.lrow hb, h.bel.trans (hb.mono h.bel.size), Nat.le_trans h.gz hb.size, h.num⟩
/-- The count is raised. -/
theorem TjM.raise {w0 : World} {n GB LB BL m' : Nat} {cs : Array Value} {rk : Nat → Nat} {ls : Nat → Int} {st : List Nat} {m : Nat} {W : World} (h : TjM w0 n GB LB BL cs rk ls st m W) : TjM w0 n GB LB BL cs rk ls st m' (W.setCell ⟨BL + 3, 0, none⟩ (.int .i64 m')) := by
  obtain ⟨v, h1, h2⟩ := h.unk
  have hn := h.num
  have ne : ∀ b, b ≠ BL + 3 → (W.setCell ⟨BL + 3, 0, none⟩ (.int .i64 m')).heap[b]? = W.heap[b]? := fun b hb => Below.heap_setCell _ _ _ _ hb
  exact ⟨Boxed.set _ h.met, (ne _ (by omega)).trans h.rkb, ⟨v, (ne _ (by omega)).trans h1, World.ownsRow.kept h2 (row := some (BL + 3)) (grownBy_setCell' _ _ _) (.inr (fun q => by have := (World.ownsRow.lt h2 _ q).1; omega))⟩, (ne _ (by omega)).trans h.gb, (ne _ (by omega)).trans h.vis, (ne _ (by omega)).trans h.lsb, h.rrow.of_block (ne _ (by omega)), h.lrow.of_block (ne _ (by omega)), h.bel.setCell (by show _ ≤ BL + 3; omega) _, by rw [World.size_setCell]; exact h.gz, hn⟩
theorem row_setN {w : World} {B n t v : Nat} {f : Nat → Nat} (h : w.rowIs B 3 n (fun j => .int .i64 (f j))) : (w.setCell ⟨B, t, none⟩ (.int .i64 v)).rowIs B 3 n (fun j => .int .i64 (updN f t v j)) :=
  (h.set t _).congr fun j _ => by unfold updN; by_cases e : j = t <;> simp [e]
def updZ (f : Nat → Int) (t : Nat) (v : Int) : Nat → Int := fun j => if j = t then v else f j
theorem row_setZ {w : World} {B n t : Nat} {v : Int} {f : Nat → Int} (h : w.rowIs B 3 n (fun j => .int .i64 (f j))) : (w.setCell ⟨B, t, none⟩ (.int .i64 v)).rowIs B 3 n (fun j => .int .i64 (updZ f t v j)) :=
  (h.set t _).congr fun j _ => by unfold updZ; by_cases e : j = t <;> simp [e]
theorem own_set {W : World} {G b k : Nat} {v u : Value} {L : List Int} (h : IOw W G v L) (hb : b < G) : IOw (W.setCell ⟨b, k, none⟩ u) G v L :=
  World.ownsRow.kept h (row := some b) ⟨rfl, rfl, rfl, by rw [World.size_setCell]; exact Nat.le_refl _, fun j _ hj => Below.heap_setCell _ _ _ _ (fun e => hj (by rw [e]))⟩ (.inr (fun q => by have := (World.ownsRow.lt h _ q).1; omega))
/-- A rank is put. -/
theorem TjM.rank {w0 : World} {n GB LB BL c r : Nat} {cs : Array Value} {rk : Nat → Nat} {ls : Nat → Int} {st : List Nat} {m : Nat} {W : World} (h : TjM w0 n GB LB BL cs rk ls st m W) : TjM w0 n GB LB BL cs (updN rk c r) ls st m (W.setCell ⟨BL + 1, c, none⟩ (.int .i64 r)) := by
  obtain ⟨v, h1, h2⟩ := h.unk
  have hn := h.num
  have ne : ∀ b, b ≠ BL + 1 → (W.setCell ⟨BL + 1, c, none⟩ (.int .i64 r)).heap[b]? = W.heap[b]? := fun b hb => Below.heap_setCell _ _ _ _ hb
  exact ⟨(ne _ (by omega)).trans h.met, (ne _ (by omega)).trans h.rkb, ⟨v, (ne _ (by omega)).trans h1, own_set h2 (by omega)⟩, (ne _ (by omega)).trans h.gb, (ne _ (by omega)).trans h.vis, (ne _ (by omega)).trans h.lsb, row_setN h.rrow, h.lrow.of_block (ne _ (by omega)), h.bel.setCell (by show _ ≤ BL + 1; omega) _, by rw [World.size_setCell]; exact h.gz, hn⟩
/-- A least one is put. -/
theorem TjM.least {w0 : World} {n GB LB BL c : Nat} {f : Int} {cs : Array Value} {rk : Nat → Nat} {ls : Nat → Int} {st : List Nat} {m : Nat} {W : World} (h : TjM w0 n GB LB BL cs rk ls st m W) : TjM w0 n GB LB BL cs rk (updZ ls c f) st m (W.setCell ⟨LB, c, none⟩ (.int .i64 f)) := by
  obtain ⟨v, h1, h2⟩ := h.unk
  have hn := h.num
  have ne : ∀ b, b ≠ LB → (W.setCell ⟨LB, c, none⟩ (.int .i64 f)).heap[b]? = W.heap[b]? := fun b hb => Below.heap_setCell _ _ _ _ hb
  exact ⟨(ne _ (by omega)).trans h.met, (ne _ (by omega)).trans h.rkb, ⟨v, (ne _ (by omega)).trans h1, own_set h2 (by omega)⟩, (ne _ (by omega)).trans h.gb, (ne _ (by omega)).trans h.vis, (ne _ (by omega)).trans h.lsb, h.rrow.of_block (ne _ (by omega)), row_setZ h.lrow, h.bel.setCell (by show _ ≤ LB; omega) _, by rw [World.size_setCell]; exact h.gz, hn⟩
/-- The unknown ones are others, all else is as it lay. -/
theorem TjM.row {w0 : World} {n GB LB BL : Nat} {cs : Array Value} {rk : Nat → Nat} {ls : Nat → Int} {st st' : List Nat} {m : Nat} {W W' : World} {v' : Value} (h : TjM w0 n GB LB BL cs rk ls st m W) (h1 : Boxed W' (BL + 4) 45 v') (h2 : IOw W' (BL + 6) v' (nums st')) (ho : W'.os = W.os ∧ W'.tape = W.tape ∧ W'.output = W.output ∧ W.heap.size ≤ W'.heap.size) (hk : ∀ k, k < BL + 6 → k ≠ BL + 4 → W'.heap[k]? = W.heap[k]?) : TjM w0 n GB LB BL cs rk ls st' m W' := by
  have hn := h.num
  exact ⟨(hk _ (by omega) (by omega)).trans h.met, (hk _ (by omega) (by omega)).trans h.rkb, ⟨v', h1, h2⟩, (hk _ (by omega) (by omega)).trans h.gb, (hk _ (by omega) (by omega)).trans h.vis, (hk _ (by omega) (by omega)).trans h.lsb, h.rrow.of_block (hk _ (by omega) (by omega)), h.lrow.of_block (hk _ (by omega) (by omega)), h.bel.trans ⟨ho.1, ho.2.1, ho.2.2.1, ho.2.2.2, fun k hkk => hk k (by omega) (by omega)⟩, Nat.le_trans h.gz ho.2.2.2, hn⟩
/-- The least of some numbers. -/
theorem minOf_mem (z : Int) (zs : List Int) : Lib.minOf (z :: zs) ∈ z :: zs ∧ ∀ x ∈ z :: zs, Lib.minOf (z :: zs) ≤ x := by
  have key : ∀ (l : List Int) (a : Int), (l.foldl min a = a ∨ l.foldl min a ∈ l) ∧ l.foldl min a ≤ a ∧ ∀ x ∈ l, l.foldl min a ≤ x := by
    intro l
    induction l with
    | nil => exact fun a => ⟨.inl rfl, Int.le_refl _, fun x hx => by cases hx⟩
    | cons b l ih =>
      intro a
      obtain ⟨h1, h2, h3⟩ := ih (min a b)
      refine ⟨?_, ?_, fun x hx => ?_⟩
      · show l.foldl min (min a b) = a ∨ l.foldl min (min a b) ∈ b :: l
        rcases h1 with h1 | h1
        · rw [h1]
          rcases Int.le_total a b with q | q
          · left; omega
          · right
            rw [show min a b = b by omega]
            exact List.mem_cons_self
        · exact .inr (List.mem_cons_of_mem _ h1)
      · show l.foldl min (min a b) ≤ a; omega
      · show l.foldl min (min a b) ≤ x
        rcases List.mem_cons.1 hx with rfl | hx
        · omega
        · exact h3 x hx
  unfold Lib.minOf
  obtain ⟨h1, h2, h3⟩ := key (z :: zs) z
  refine ⟨?_, h3⟩
  rcases h1 with h1 | h1
  · show (z :: zs).foldl min z ∈ _
    rw [h1]; exact List.mem_cons_self
  · exact h1
/-- What a visit leaves. -/
def VisP (w0 : World) (n GB LB BL : Nat) (cs : Array Value) (E : List Ed) (gy : Nat → Prop) (c : Nat) (rk : Nat → Nat) (ls : Nat → Int) (st : List Nat) (m : Nat) (e : Ending) (W' : World) : Prop :=
  ∃ (low : Nat) (rk' : Nat → Nat) (ls' : Nat → Int) (st' : List Nat) (m' : Nat), e = .returned (.int .i64 low) ∧ TjM w0 n GB LB BL cs rk' ls' st' m' W' ∧ Tj n E rk' ls' st' m' gy ∧ Tv n E rk ls st c low rk' ls' st' ∧ cntZ rk' n + 1 ≤ cntZ rk n ∧ m < rk' c
end Go.Proofs.Ytohilccbfdienaa

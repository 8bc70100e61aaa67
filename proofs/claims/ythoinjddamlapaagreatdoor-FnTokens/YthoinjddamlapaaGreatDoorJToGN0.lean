/-
  spec.l2dec at numbers of up to three digits.
  The drawing's writer in memory.
  What a function that draws a text leaves.
-/
import Derived.Test.YthoinjddamlapaaGreatDoorJToGNP
import Derived.Test.YthoinjddamlapaaGreatDoorJToMK
import Derived.Deep.RegionWith
import Derived.Test.YthoinjddamlapaaGreatDoorJToB0
import Derived.BigQuiet
import Derived.Deep.QuietTactic
namespace Go.Proofs.YthoinjddamlapaaGreatDoor
open Go.RowKit

theorem u8_wrapG {n : Nat} (h : n < 256) : IntKind.u8.wrap (n : Int) = (n : Int) := by
  simp only [IntKind.wrap, IntKind.bits, IntKind.signed]
  simp
  omega
theorem conv1 {r : Nat} (hr : r < 10) (W : World) (b : Nat) (hc : W.cell? ⟨b, 0, none⟩ = some (.int .u8 (48 + (r : Int)))) : (convert 22 9 (.slice (some ⟨b, 0, none⟩) 1 1)).run Tryz.prog W = .ok (.string (byt [48 + r])) W :=
  toStr_bs (s := byt [48 + r]) ⟨_, b, 0, 1, rfl, fun _ => rfl, fun j hj => by
    rw [byt_size] at hj
    obtain rfl : j = 0 := by simpa using hj
    rw [byt_bts (Lo.one (by omega)) (by simp), hc]
    simp⟩
set_option maxHeartbeats 1000000 in
set_option maxRecDepth 1000000 in
theorem l2dG_one (v : Nat) (w : World) (hv : v < 10) :
    Calls Tryz.prog 17 #[.int .i64 v] w fun e w' => e = .returned (.string (byt [48 + v])) ∧ Below w.heap.size w w' := by
  have t0 : decide ((v : Int) < 0) = false := decide_eq_false (by omega)
  have t1 : decide ((v : Int) < 10) = true := decide_eq_true (by omega)
  have hwr : IntKind.u8.wrap (48 + (v : Int)) = 48 + (v : Int) := by have := u8_wrapG (n := 48 + v) (by omega); rw [Int.natCast_add] at this; exact this
  have hcv := conv1 hv (w.alloc (.cells #[.int .u8 (48 + (v : Int))] 5)) w.heap.size (by simp)
  have HB : Hid (Below w.heap.size w (w.alloc (.cells #[.int .u8 (48 + (v : Int))] 5))) := (Below.refl _ _).alloc (Nat.le_refl _) _
  go_enter Tryz.func17, Tryz.ntmps17
  go_wp2
  go_ret
  exact ⟨rfl, HB.out⟩
set_option maxHeartbeats 2000000 in
set_option maxRecDepth 1000000 in
theorem l2dG_step (v q r : Nat) (S : ByteArray) (w : World) (hv : 10 ≤ v) (hr : r < 10) (hdv : IntKind.i64.wrap ((v : Int) / 10) = (q : Int)) (hrm : (v : Int).tmod 10 = (r : Int)) (hS : S.size ≤ 10)
    (hc : ∀ W, Calls Tryz.prog 17 #[.int .i64 q] W fun e w' => e = .returned (.string S) ∧ Below W.heap.size W w') :
    Calls Tryz.prog 17 #[.int .i64 v] w fun e w' => e = .returned (.string (S ++ byt [48 + r])) ∧ Below w.heap.size w w' := by
  have t0 : decide ((v : Int) < 0) = false := decide_eq_false (by omega)
  have t1 : decide ((v : Int) < 10) = false := decide_eq_false (by omega)
  have hwr : IntKind.u8.wrap (48 + (r : Int)) = 48 + (r : Int) := by have := u8_wrapG (n := 48 + r) (by omega); rw [Int.natCast_add] at this; exact this
  have hw0 : IntKind.i64.wrap (48 + (r : Int)) = 48 + (r : Int) := by rw [IntKind.wrap_i64]; omega
  have c1 := conv1 hr (w.alloc (.cells #[.int .u8 (48 + (r : Int))] 5)).drew w.heap.size (by simp)
  have c2 : ∀ W : World, (convert 22 9 (.slice (some ⟨W.heap.size, 0, none⟩) 1 1)).run Tryz.prog (W.alloc (.cells #[.int .u8 (48 + (r : Int))] 5)) = .ok (.string (byt [48 + r])) (W.alloc (.cells #[.int .u8 (48 + (r : Int))] 5)) := fun W => conv1 hr _ _ (by simp)
  have HC3 : Hid (∀ W, Below (w.alloc (.cells #[.int .u8 (48 + (r : Int))] 5)).drew.heap.size (w.alloc (.cells #[.int .u8 (48 + (r : Int))] 5)).drew W → (convert 22 9 (.slice (some ⟨w.heap.size, 0, none⟩) 1 1)).run Tryz.prog W = .ok (.string (byt [48 + r])) W) := fun W hW => conv1 hr _ _ (cell_kept (by simp) hW)
  have HBA : Hid (Below w.heap.size w (w.alloc (.cells #[.int .u8 (48 + (r : Int))] 5)).drew) := ((Below.refl _ w).alloc (Nat.le_refl _) _).drew
  have HQ := hide hc
  have hz1 : (byt [48 + r]).size = 1 := by rw [byt_size]; rfl
  obtain ⟨B, hB⟩ : ∃ B, byt [48 + r] = B := ⟨_, rfl⟩
  rw [hB] at c1 HC3 hz1 ⊢
  simp only [hB] at c2
  clear hc hr hv hB
  have hsz : ¬ 9223372036854775807 < S.size + 1 := by omega
  have HB0 : Hid (∀ W, Below w.heap.size w W → ∀ W', Below W.heap.size W W' → Below w.heap.size w W') := fun W h1 W' h2 => h1.trans (h2.mono h1.size)
  go_enter Tryz.func17, Tryz.ntmps17
  go_wp2_with fail
  go_region_with (go_at_call 17; refine (HQ.out _).mono ?_; rintro e w' ⟨rfl, hb'⟩; (try have c3 := HC3.out _ hb'); have HB' := hide hb'; clear hb')
  all_goals
    go_wp2
    go_ret
    refine ⟨rfl, ?_⟩
    first
      | exact HB0.out _ HBA.out _ HB'.out
      | exact (HB0.out _ (Below.refl _ w).drew _ HB'.out).alloc (HB0.out _ (Below.refl _ w).drew _ HB'.out).size _
theorem l2dG_any (v : Nat) (w : World) (hv : v < 1000) :
    Calls Tryz.prog 17 #[.int .i64 v] w fun e w' => e = .returned (.string (decB v)) ∧ Below w.heap.size w w' := by
  unfold decB decG
  by_cases h : v < 10
  · rw [if_pos h]; exact l2dG_one v w h
  rw [if_neg h]
  have e1 : ∀ n r : Nat, n % 10 = r → (n : Int).tmod 10 = (r : Int) := fun n r e => by rw [← e]; rfl
  by_cases h2 : v < 100
  · rw [if_pos h2]
    have := l2dG_step v (v / 10) (v % 10) (byt [48 + v / 10]) w (by omega) (by omega) (by rw [IntKind.wrap_i64]; omega) (e1 _ _ rfl) (by rw [byt_size]; simp) (fun W => l2dG_one (v / 10) W (by omega))
    rw [← byt_append] at this
    exact this
  · rw [if_neg h2]
    have := l2dG_step v (v / 10) (v % 10) (byt [48 + v / 10 / 10, 48 + v / 10 % 10]) w (by omega) (by omega) (by rw [IntKind.wrap_i64]; omega) (e1 _ _ rfl) (by rw [byt_size]; simp) (fun W => by
      have := l2dG_step (v / 10) (v / 10 / 10) (v / 10 % 10) (byt [48 + v / 10 / 10]) W (by omega) (by omega) (by rw [IntKind.wrap_i64]; omega) (e1 _ _ rfl) (by rw [byt_size]; simp) (fun W => l2dG_one (v / 10 / 10) W (by omega))
      rw [← byt_append] at this
      exact this)
    rw [← byt_append] at this
    exact this
end Go.Proofs.YthoinjddamlapaaGreatDoor

namespace Go.Proofs.YthoinjddamlapaaGreatDoor
open Go.RowKit

/-- All that lay there and has not the property lies as it lay. -/
structure Gw (P : Nat → Prop) (w w' : World) : Prop where
  os : w'.os = w.os
  tape : w'.tape = w.tape
  output : w'.output = w.output
  size : w.heap.size ≤ w'.heap.size
  block : ∀ k, k < w.heap.size → ¬ P k → w'.heap[k]? = w.heap[k]?
theorem Gw.refl (P : Nat → Prop) (w : World) : Gw P w w := ⟨rfl, rfl, rfl, Nat.le_refl _, fun _ _ _ => rfl⟩
theorem Gw.trans {P Q : Nat → Prop} {a b c : World} (h : Gw P a b) (k : Gw Q b c) (hq : ∀ j, j < a.heap.size → Q j → P j) : Gw P a c :=
  ⟨k.os.trans h.os, k.tape.trans h.tape, k.output.trans h.output, Nat.le_trans h.size k.size, fun j hj hp => (k.block j (Nat.lt_of_lt_of_le hj h.size) (fun g => hp (hq j hj g))).trans (h.block j hj hp)⟩
theorem Gw.mono {P Q : Nat → Prop} {a b : World} (h : Gw P a b) (hq : ∀ j, j < a.heap.size → P j → Q j) : Gw Q a b :=
  ⟨h.os, h.tape, h.output, h.size, fun j hj hp => h.block j hj (fun g => hp (hq j hj g))⟩
theorem Gw.of_grown {P : Nat → Prop} {w w' : World} {row : Option Nat} (h : w.grownBy w' row) (hr : ∀ k, row = some k → k < w.heap.size → P k) : Gw P w w' :=
  ⟨h.os, h.tape, h.output, h.size, fun k hk hp => h.block k hk (fun e => hp (hr k e.symm hk))⟩
theorem Gw.set (w : World) (b k : Nat) (v : Value) : Gw (· = b) w (w.setCell ⟨b, k, none⟩ v) := ⟨rfl, rfl, rfl, by simp, fun _ _ hk => Below.heap_setCell _ _ _ _ hk⟩
theorem Gw.of_below {P : Nat → Prop} {w w' : World} (h : Below w.heap.size w w') : Gw P w w' := ⟨h.os, h.tape, h.output, h.size, fun k hk _ => h.block k hk⟩
theorem Gw.below {P : Nat → Prop} {w0 w w' : World} {n : Nat} (h : Gw P w w') (hb : Below n w0 w) (hn : n ≤ w.heap.size) (hP : ∀ k, k < n → ¬ P k) : Below n w0 w' :=
  hb.trans ⟨h.os, h.tape, h.output, h.size, fun k hk => h.block k (Nat.lt_of_lt_of_le hk hn) (hP k hk)⟩
theorem Gw.cell {P : Nat → Prop} {w w' : World} {a : Addr} {v : Value} (h : Gw P w w') (hc : w.cell? a = some v) (hp : ¬ P a.block) : w'.cell? a = some v :=
  (World.cell?_of_block (h.block a.block (World.block_lt_of_cell? w a hc) hp)).trans hc
theorem Gw.blk {P : Nat → Prop} {w w' : World} {b : Nat} {t : TypeId} {cs : Array Value} (h : Gw P w w') (hb : Blk w b t cs) (hp : ¬ P b) : Blk w' b t cs := (h.block b hb.lt hp).trans hb
theorem Gw.own {P : Nat → Prop} {w w' : World} {B e sz n : Nat} {v : Value} {xs : List Value} (h : Gw P w w') (ho : w.ownsRow B e sz v n xs) (hp : ∀ k, v.ownBlock = some k → ¬ P k) : w'.ownsRow B e sz v n xs := by
  refine ⟨ho.1, ?_⟩
  rcases ho.2 with hn | ⟨g, cap, cur, rfl, hb, hgg, rest⟩
  · exact .inl hn
  · exact .inr ⟨g, cap, cur, rfl, hb, (h.block g (Array.getElem?_eq_some_iff.1 hgg).1 (hp g rfl)).trans hgg, rest⟩
theorem RdAt.gw {P : Nat → Prop} {w w' : World} {R : Nat} {a0 : Option Addr} {b off n cap : Nat} {cs : ByteArray} {i : Nat} (h : RdAt w R a0 b off n cap cs i) (hg : Gw P w w') (hr : ¬ P R) (hb : 0 < n → ¬ P b) : RdAt w' R a0 b off n cap cs i :=
  ⟨(hg.block R h.lt hr).trans h.blk, h.addr, h.ne, h.le, fun j hj => hg.cell (h.bytes j hj) (hb (by omega))⟩
/-- Where the reader, the writer and the read bytes lie. -/
structure GnC where
  R : Nat
  G : Nat
  a0 : Option Addr
  b : Nat
  off : Nat
  cap : Nat
/-- Texts that can be seen. -/
def SSr (w : World) (v : Value) (L : List ByteArray) (X : Nat → Prop) : Prop := ∃ a b o c, v = .slice a L.length c ∧ (0 < L.length → a = some ⟨b, o, none⟩ ∧ ¬ X b) ∧ ∀ j, j < L.length → w.cell? ⟨b, o + j, none⟩ = some (.string (L.getD j ⟨#[]⟩))
theorem SSr.gw {P : Nat → Prop} {w w' : World} {v : Value} {L : List ByteArray} {X Y : Nat → Prop} (h : SSr w v L X) (hg : Gw P w w') (hp : ∀ k, P k → X k) (hY : ∀ k, k < w.heap.size → Y k → X k) : SSr w' v L Y := by
  obtain ⟨a, b, o, c, h1, h2, h3⟩ := h
  refine ⟨a, b, o, c, h1, fun hl => ⟨(h2 hl).1, fun g => (h2 hl).2 (hY b (World.block_lt_of_cell? _ _ (h3 0 hl)) g)⟩, fun j hj => hg.cell (h3 j hj) (fun g => (h2 (by omega)).2 (hp _ g))⟩
def ist (l : List ByteArray) : List Value := l.map Value.string
theorem ist_length (l : List ByteArray) : (ist l).length = l.length := by simp [ist]
/-- What a statement may change: the reader, the writer, the names' row. -/
def GnX (c : GnC) (vi : Value) (k : Nat) : Prop := k = c.R ∨ k = c.G ∨ vi.ownBlock = some k
/-- A writer in the block G; its reader in R, i numbers on. -/
structure GnAt (w : World) (c : GnC) (e : GE) (i : Nat) (vi vt : Value) (ints : List ByteArray) (f : Int) : Prop where
  rd : RdAt w c.R c.a0 c.b c.off e.n c.cap e.cs i
  blk : Blk w c.G 57 #[.pointer (some ⟨c.R, 0, none⟩), .int .i64 (e.w : Nat), .int .i64 (e.h : Nat), vi, vt, .int .i64 f]
  io : w.ownsRow (c.R + 1) 9 1 vi ints.length (ist ints)
  ig : vi.ownBlock ≠ some c.G
  tx : SSr w vt e.texts (GnX c vi)
  lt : c.R < c.G
  bb : 0 < e.n → c.b < c.R
  n6 : e.n ≤ 600
  wb : 2 ≤ e.w ∧ e.w ≤ 40
  hb : 2 ≤ e.h ∧ e.h ≤ 40
  ns : ∀ x ∈ ints, x.size ≤ 4
  ts : ∀ x ∈ e.texts, x.size ≤ 4
  il : ints.length ≤ 10000
  tl : e.texts.length ≤ 10
  iz : ints.length = 0 → vi = .slice none 0 0
theorem GnAt.bG {w : World} {c : GnC} {e : GE} {i : Nat} {vi vt : Value} {ints : List ByteArray} {f : Int} (h : GnAt w c e i vi vt ints f) : ∀ k, vi.ownBlock = some k → k ≠ c.R := fun k hk e => by
  have := (h.io.lt k hk).1
  omega
/-- The reader alone has gone on. -/
theorem GnAt.go {w w' : World} {c : GnC} {e : GE} {i i' : Nat} {vi vt : Value} {ints : List ByteArray} {f : Int} (h : GnAt w c e i vi vt ints f) (hg : Gw (· = c.R) w w') (hr : RdAt w' c.R c.a0 c.b c.off e.n c.cap e.cs i') : GnAt w' c e i' vi vt ints f :=
  ⟨hr, hg.blk h.blk (by have := h.lt; omega), hg.own h.io (fun k hk => h.bG k hk), h.ig, h.tx.gw hg (fun k hk => .inl hk) (fun _ _ q => q), h.lt, h.bb, h.n6, h.wb, h.hb, h.ns, h.ts, h.il, h.tl, h.iz⟩
theorem GnAt.below {w w' : World} {c : GnC} {e : GE} {i : Nat} {vi vt : Value} {ints : List ByteArray} {f : Int} (h : GnAt w c e i vi vt ints f) (hb : Below w.heap.size w w') : GnAt w' c e i vi vt ints f :=
  h.go (Gw.of_below hb) (h.rd.gw (P := fun _ => False) (Gw.of_below hb) (fun g => g) (fun _ g => g))
/-- What a reading function leaves: a text, the reader at i'. -/
def GnQ (c : GnC) (e : GE) (i' : Nat) (vi vt : Value) (ints : List ByteArray) (f : Int) (w : World) (s : ByteArray) (r : Ending) (w' : World) : Prop :=
  r = .returned (.string s) ∧ GnAt w' c e i' vi vt ints f ∧ Gw (· = c.R) w w'
theorem next_gn {w : World} {c : GnC} {e : GE} {i : Nat} {vi vt : Value} {ints : List ByteArray} {f : Int} (h : GnAt w c e i vi vt ints f) :
    Calls Tryz.prog 8 #[.pointer (some ⟨c.R, 0, none⟩)] w fun r w' => r = .returned (.int .i64 (e.nx i : Nat)) ∧ GnAt w' c e (i + 1) vi vt ints f ∧ Gw (· = c.R) w w' := by
  refine (next_any w c.R c.a0 c.b c.off e.n c.cap e.cs i h.n6 h.rd).mono ?_
  rintro r w' ⟨rfl, h1, h2⟩
  have hg : Gw (· = c.R) w w' := Gw.of_grown h1 (fun k hk _ => by injection hk with hk; exact hk.symm)
  exact ⟨rfl, h.go hg h2, hg⟩
theorem GE.nx_lt (e : GE) (i : Nat) : e.nx i < 256 := Go.Proofs.YthoinjddamlapaaGreatDoor.nx_lt e.cs e.n i
theorem GnAt.ivw {w : World} {c : GnC} {e : GE} {i : Nat} {vi vt : Value} {ints : List ByteArray} {f : Int} (h : GnAt w c e i vi vt ints f) : ∃ a g k, vi = .slice a ints.length k ∧ (0 < ints.length → a = some ⟨g, 0, none⟩) ∧ ∀ j, j < ints.length → w.cell? ⟨g, j, none⟩ = some (.string (ints.getD j ⟨#[]⟩)) := by
  rcases h.io.2 with ⟨h1, h0⟩ | ⟨g, k, cur, h1, _⟩
  · exact ⟨none, 0, 0, by rw [h0]; exact h1, fun hl => by omega, fun j hj => by omega⟩
  · refine ⟨_, g, k, h1, fun _ => rfl, fun j hj => ?_⟩
    have ho := h.io
    rw [h1] at ho
    rw [ho.cellAt j (by omega)]
    simp [ist, List.getD, hj]
theorem gc0 {w : World} {c : GnC} {e : GE} {i : Nat} {vi vt : Value} {ints : List ByteArray} {f : Int} (h : GnAt w c e i vi vt ints f) : w.cell? ⟨c.G, 0, none⟩ = some (.pointer (some ⟨c.R, 0, none⟩)) ∧ w.cell? ⟨c.G, 1, none⟩ = some (.int .i64 (e.w : Nat)) ∧ w.cell? ⟨c.G, 2, none⟩ = some (.int .i64 (e.h : Nat)) ∧ w.cell? ⟨c.G, 3, none⟩ = some vi ∧ w.cell? ⟨c.G, 4, none⟩ = some vt ∧ w.cell? ⟨c.G, 5, none⟩ = some (.int .i64 f) :=
  ⟨h.blk.cell 0, h.blk.cell 1, h.blk.cell 2, h.blk.cell 3, h.blk.cell 4, h.blk.cell 5⟩
theorem getD_le {L : List ByteArray} {n : Nat} (h : ∀ x ∈ L, x.size ≤ n) (j : Nat) : (L.getD j ⟨#[]⟩).size ≤ n := by
  rw [List.getD_eq_getElem?_getD]
  cases hj : L[j]? with
  | none => exact Nat.zero_le _
  | some x => exact h x (List.mem_of_getElem? hj)
theorem lsz (l : Array UInt8) : (⟨l⟩ : ByteArray).size = l.size := rfl
theorem gI_le {ints : List ByteArray} (h : ∀ x ∈ ints, x.size ≤ 4) (most k : Nat) : (gI ints most k).size ≤ 30 := by
  have d : ∀ v, (decB v).size ≤ 3 := decB_le
  have d1 := d (k % most)
  have d2 := d (k % 3)
  have d3 := d (most - 1)
  have d4 := d k
  have d5 := d most
  unfold gI
  repeat' split
  · omega
  · have := getD_le h (k % ints.length); omega
  all_goals try simp only [ByteArray.size_append, lsz, List.size_toArray, List.length_cons, List.length_nil]
  all_goals try omega
  · have := getD_le (L := odI) (n := 10) (by decide) (k - 250); omega
end Go.Proofs.YthoinjddamlapaaGreatDoor

namespace Go.Proofs.YthoinjddamlapaaGreatDoor
open Go.RowKit

/-- What a function that draws a text leaves: its bytes in a row of their own, the reader further on. -/
def SrQ (R : Nat) (a0 : Option Addr) (b off n cap : Nat) (cs : ByteArray) (q : ByteArray × Nat) (w : World) (r : Ending) (w' : World) : Prop :=
  ∃ g c, r = .returned (.slice (some ⟨g, 0, none⟩) q.1.size c) ∧ q.1.size ≤ c ∧ q.1.size ≤ 90000000 ∧ w.heap.size ≤ g ∧ (∀ j, j < q.1.size → w'.cell? ⟨g, j, none⟩ = some (bts q.1 j)) ∧ Gw (· = R) w w' ∧ RdAt w' R a0 b off n cap cs q.2
end Go.Proofs.YthoinjddamlapaaGreatDoor

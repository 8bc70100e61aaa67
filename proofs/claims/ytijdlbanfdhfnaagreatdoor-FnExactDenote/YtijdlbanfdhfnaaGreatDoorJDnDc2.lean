/-
  The walk of eqDecl, where both read as the same.
  The walk of eqDeclS, where both read as the same.
  The walk of szDecl.
  The walk of szDeclS.
  Cells that are written; markByteS, heldByteS, markIntS, heldIntS at any slice.
-/
import Derived.Test.YtijdlbanfdhfnaaGreatDoorJDnDc0
import Derived.BigQuiet
import Derived.Deep.QuietTactic
import Derived.Deep.RegionWith
import Derived.Test.YtijdlbanfdhfnaaGreatDoorJDnT
namespace Go.Proofs.YtijdlbanfdhfnaaGreatDoor
open Go.RowKit

set_option maxHeartbeats 2000000 in
set_option maxRecDepth 1000000 in
theorem eqDc_same {w : World} {d : Dc} {p7 q7 : Value} (hb : DcB d) (h1 : DcV w d p7) (h2 : DcV w d q7) :
    Calls Tryz.prog 32 #[dcagg d p7, dcagg d q7] w fun e w' => e = .returned (.bool true) ∧ Below w.heap.size w w' := by
  obtain ⟨x0, x1, x2, x3, x4, x5, x6, x7, x8⟩ := d
  have e0 : (x0 != x0) = false := by simp
  have e1 : (x1 != x1) = false := by simp
  have e2 : (x2 != x2) = false := by simp
  have e3 : (x3 != x3) = false := by simp
  have e4 : (x4 != x4) = false := by simp
  have e5 : (x5 != x5) = false := by simp
  have e6 : (x6 != x6) = false := by simp
  have e8 : (x8 != x8) = false := by simp
  have HB := hide hb
  have H1 := hide h1
  have H2 := hide h2
  clear hb h1 h2
  unfold dcagg
  simp only
  obtain ⟨W0, hW0⟩ : ∃ W, (w.alloc (.cells #[.int .i64 x0, .int .i64 x1, .int .i64 x2, .int .i64 x3, .int .i64 x4, .int .i64 x5, .int .i64 x6, p7, .int .i64 x8] 42)).alloc (.cells #[.int .i64 x0, .int .i64 x1, .int .i64 x2, .int .i64 x3, .int .i64 x4, .int .i64 x5, .int .i64 x6, q7, .int .i64 x8] 42) = W := ⟨_, rfl⟩
  have hb0 : Below w.heap.size w W0 := by rw [← hW0]; exact ((Below.refl _ _).alloc (Nat.le_refl _) _).alloc (by simp) _
  have hA : Blk W0 w.heap.size 42 #[.int .i64 x0, .int .i64 x1, .int .i64 x2, .int .i64 x3, .int .i64 x4, .int .i64 x5, .int .i64 x6, p7, .int .i64 x8] := by rw [← hW0]; exact (Blk.new _ _ _).alloc _
  have hC : Blk W0 (w.heap.size + 1) 42 #[.int .i64 x0, .int .i64 x1, .int .i64 x2, .int .i64 x3, .int .i64 x4, .int .i64 x5, .int .i64 x6, q7, .int .i64 x8] := by
    rw [← hW0]
    have := Blk.new (w.alloc (.cells #[.int .i64 x0, .int .i64 x1, .int .i64 x2, .int .i64 x3, .int .i64 x4, .int .i64 x5, .int .i64 x6, p7, .int .i64 x8] 42)) 42 #[.int .i64 x0, .int .i64 x1, .int .i64 x2, .int .i64 x3, .int .i64 x4, .int .i64 x5, .int .i64 x6, q7, .int .i64 x8]
    simpa using this
  have HA0 := hide hA
  have HC0 := hide hC
  have HB0 := hide hb0
  have HW := hide hW0
  clear hA hC hb0 hW0
  go_enter Tryz.func32, Tryz.ntmps32
  go_wp2_with fail
  rw [HW.out]
  clear HW
  refine (eqB_self HB.out.name (H1.out.name.below HB0.out) (H2.out.name.below HB0.out)).mono ?_
  rintro e w2 ⟨rfl, hb2⟩
  have HA2 := hide (HA0.out.below hb2)
  have HC2 := hide (HC0.out.below hb2)
  have HB2 : Hid (Below w.heap.size w w2) := HB0.out.trans (hb2.mono HB0.out.size)
  have a8 := HA2.out.cell 8
  have c8 := HC2.out.cell 8
  simp only [List.getElem?_toArray, List.getElem?_cons_succ, List.getElem?_cons_zero] at a8 c8
  clear hb2 HA0 HC0 HB0
  go_wp2
  go_ret
  exact ⟨rfl, HB2.out⟩
end Go.Proofs.YtijdlbanfdhfnaaGreatDoor

namespace Go.Proofs.YtijdlbanfdhfnaaGreatDoor
open Go.RowKit

set_option maxHeartbeats 2000000 in
set_option maxRecDepth 1000000 in
theorem eqDcS_same {w : World} {v1 v2 : Value} {L : List Dc} (hs : DcSB L) (h1 : DcS w v1 L) (h2 : DcS w v2 L) :
    Calls Tryz.prog 9 #[v1, v2] w fun e w' => e = .returned (.bool true) ∧ Below w.heap.size w w' := by
  obtain ⟨a1, b1, o1, c1, rfl, ha1, hc1⟩ := h1
  obtain ⟨a2, b2, o2, c2, rfl, ha2, hc2⟩ := h2
  obtain ⟨hs, hz⟩ := hs
  have HC1 := hide hc1
  have HC2 := hide hc2
  have HZ := hide hz
  clear hc1 hc2 hz
  have hne : ((L.length : Int) != (L.length : Int)) = false := by simp
  have hmx : Tryz.prog.follows .mixedOrders = true := by kernel_rfl
  go_enter Tryz.func9, Tryz.ntmps9
  go_wp2
  go_loopw [5] (fun i wr => ∃ k : Nat, k ≤ L.length ∧ i = .int .i64 k ∧ Below w.heap.size w wr) (fun i _ => L.length - (intOf i).toNat)
  case atStart => exact ⟨0, Nat.zero_le _, rfl, Below.refl _ _⟩
  case round =>
    obtain ⟨k, hk, rfl, hb⟩ := hrel
    have HB := hide hb
    by_cases hlt : k < L.length
    · obtain rfl := ha1 (by omega)
      obtain rfl := ha2 (by omega)
      obtain ⟨p7, q1_, p1_⟩ := HC1.out k hlt
      obtain ⟨q7, q2_, p2_⟩ := HC2.out k hlt
      have hzk := HZ.out k hlt
      obtain ⟨d, hd⟩ : ∃ d, L.getD k .zero = d := ⟨_, rfl⟩
      rw [hd] at p1_ p2_ hzk q1_ q2_
      have HE := hide (eqDc_same (w := wr.drew) hzk (p1_.below hb.drew) (p2_.below hb.drew))
      obtain ⟨g0, g1, g2, g3, g4, g5, g6, g7, g8⟩ := q1_.below hb
      obtain ⟨f0, f1, f2, f3, f4, f5, f6, f7, f8⟩ := q2_.below hb
      unfold dcagg at HE
      obtain ⟨x0, x1, x2, x3, x4, x5, x6, x7, x8⟩ := d
      simp only at HE g0 f0 g1 f1 g2 f2 g3 f3 g4 f4 g5 f5 g6 f6 g8 f8
      have hbs := hb.size
      have hlti : (k : Int) < (L.length : Int) := by omega
      clear hb q1_ q2_ p1_ p2_ hd hzk
      go_wp2_with fail
      go_region_with (go_at_call 32; refine HE.out.mono ?_; rintro e w1 ⟨rfl, hb1⟩)
      all_goals have HB1 : Hid (Below w.heap.size w w1) := HB.out.drew.trans (hb1.mono hbs)
      all_goals clear hb1
      all_goals go_wp2
      all_goals
        go_roundw
        case rel => exact ⟨k + 1, by omega, by go_num, HB1.out⟩
        case measure => simp [intOf]; omega
    · have hge : ¬ (k : Int) < (L.length : Int) := by omega
      clear hb
      go_wp2
      go_ret
      exact ⟨rfl, HB.out⟩
end Go.Proofs.YtijdlbanfdhfnaaGreatDoor

namespace Go.Proofs.YtijdlbanfdhfnaaGreatDoor
open Go.RowKit

set_option maxHeartbeats 2000000 in
set_option maxRecDepth 1000000 in
theorem szDc_r {w : World} {d : Dc} {v7 : Value} {left : Int} (h0 : 0 ≤ left) (hl : left ≤ 1048576) (hd : DcL d) (h : DcV w d v7) :
    Calls Tryz.prog 13 #[dcagg d v7, .int .i64 left] w fun e w' => ∃ r, e = .returned (.int .i64 r) ∧ -1 ≤ r ∧ r ≤ left ∧ (0 ≤ r → DcB d) ∧ Below w.heap.size w w' := by
  obtain ⟨x0, x1, x2, x3, x4, x5, x6, x7, x8⟩ := d
  have HH := hide h
  have HD := hide hd
  clear h hd
  unfold dcagg
  simp only
  obtain ⟨W0, hW0⟩ : ∃ W, w.alloc (.cells #[.int .i64 x0, .int .i64 x1, .int .i64 x2, .int .i64 x3, .int .i64 x4, .int .i64 x5, .int .i64 x6, v7, .int .i64 x8] 40) = W := ⟨_, rfl⟩
  have HB0 : Hid (Below w.heap.size w W0) := by rw [← hW0]; exact (Below.refl _ _).alloc (Nat.le_refl _) _
  have HA0 : Hid (Blk W0 w.heap.size 40 #[.int .i64 x0, .int .i64 x1, .int .i64 x2, .int .i64 x3, .int .i64 x4, .int .i64 x5, .int .i64 x6, v7, .int .i64 x8]) := by rw [← hW0]; exact Blk.new _ _ _
  have HW := hide hW0
  clear hW0
  go_enter Tryz.func13, Tryz.ntmps13
  go_wp2_with fail
  rw [HW.out]
  clear HW
  refine (szB_r h0 hl HD.out.name (HH.out.name.below HB0.out)).mono ?_
  rintro e w2 ⟨r0, rfl, hm0, hn0, ho0, hb2⟩
  have HS0 := hide ho0
  have HA2 := hide (HA0.out.below hb2)
  have HB2 : Hid (Below w.heap.size w w2) := HB0.out.trans (hb2.mono HB0.out.size)
  clear hb2 ho0 HA0 HB0
  by_cases g0 : r0 < 0
  · have t0 : decide (r0 < 0) = true := decide_eq_true g0
    go_wp2
    go_ret
    exact ⟨-1, rfl, by omega, by omega, fun h => by omega, HB2.out⟩
  have t0 : decide (r0 < 0) = false := decide_eq_false g0
  have hl0 : 0 ≤ r0 := by omega
  have hu0 : r0 ≤ 1048576 := by omega
  go_wp2
  go_ret
  exact ⟨r0, rfl, by omega, by omega, fun _ => ⟨HS0.out (by omega)⟩, HB2.out⟩
end Go.Proofs.YtijdlbanfdhfnaaGreatDoor

namespace Go.Proofs.YtijdlbanfdhfnaaGreatDoor
open Go.RowKit

set_option maxHeartbeats 2000000 in
set_option maxRecDepth 1000000 in
theorem szDcS_r {w : World} {v : Value} {L : List Dc} {left : Int} (h0 : 0 ≤ left) (hl : left ≤ 1048576) (hn : DcSL L) (h : DcS w v L) :
    Calls Tryz.prog 4 #[v, .int .i64 left] w fun e w' => ∃ r, e = .returned (.int .i64 r) ∧ -1 ≤ r ∧ r ≤ left ∧ (0 ≤ r → DcSB L) ∧ Below w.heap.size w w' := by
  obtain ⟨a, b, o, c, rfl, ha, hc⟩ := h
  obtain ⟨hn, hz⟩ := hn
  have e1 : IntKind.i64.wrap (left - (L.length : Int)) = left - L.length := by rw [IntKind.wrap_i64]; omega
  have HC := hide hc
  have HZ := hide hz
  clear hc hz
  by_cases c1 : left - (L.length : Int) < 0
  · have d1 : decide (left - (L.length : Int) < 0) = true := decide_eq_true c1
    go_enter Tryz.func4, Tryz.ntmps4
    go_wp2
    go_ret
    exact ⟨-1, rfl, by omega, by omega, fun h => by omega, Below.refl _ _⟩
  · have d1 : decide (left - (L.length : Int) < 0) = false := decide_eq_false c1
    go_enter Tryz.func4, Tryz.ntmps4
    go_wp2
    go_loopw [1, 5] (fun lf ix wr => ∃ (k : Nat) (l : Int), k ≤ L.length ∧ lf = .int .i64 l ∧ ix = .int .i64 k ∧ 0 ≤ l ∧ l ≤ left ∧ (∀ j, j < k → DcB (L.getD j .zero)) ∧ Below w.heap.size w wr) (fun _ ix _ => L.length - (intOf ix).toNat)
    case atStart => exact ⟨0, left - L.length, Nat.zero_le _, rfl, rfl, by omega, by omega, fun j hj => absurd hj (Nat.not_lt_zero _), Below.refl _ _⟩
    case round =>
      obtain ⟨k, l, hk, rfl, rfl, hl0, hl1, hsz, hbl⟩ := hrel
      have HBL := hide hbl
      have HSZ := hide hsz
      by_cases hlt : k < L.length
      · obtain rfl := ha (by omega)
        obtain ⟨v7, hnc, hnv⟩ := HC.out k hlt
        have hzk := HZ.out k hlt
        obtain ⟨d, hd⟩ : ∃ d, L.getD k .zero = d := ⟨_, rfl⟩
        rw [hd] at hnc hnv hzk
        have HD := hide hd
        obtain ⟨g0, g1, g2, g3, g4, g5, g6, g7, g8⟩ := hnc.below hbl
        have HT := hide (szDc_r (w := wr) hl0 (by omega) hzk (hnv.below hbl))
        unfold dcagg at HT
        clear hd hzk hnc hnv
        obtain ⟨x0, x1, x2, x3, x4, x5, x6, x7, x8⟩ := d
        simp only at HT g0 g1 g2 g3 g4 g5 g6 g8
        have hlti : (k : Int) < (L.length : Int) := by omega
        clear hsz hbl
        go_wp2_with fail
        refine HT.out.mono ?_
        rintro e w2 ⟨r, rfl, hm, hr, ho, hb2⟩
        have HB2 : Hid (Below w.heap.size w w2) := HBL.out.trans (hb2.mono HBL.out.size)
        have HO := hide ho
        clear hb2 ho
        by_cases c2 : r < 0
        · have d2 : decide (r < 0) = true := decide_eq_true c2
          go_wp2
          go_ret
          exact ⟨-1, rfl, by omega, by omega, fun h => by omega, HB2.out⟩
        · have d2 : decide (r < 0) = false := decide_eq_false c2
          go_wp2
          go_roundw
          case rel => exact ⟨k + 1, r, by omega, rfl, by go_num, by omega, by omega, fun j hj => by
            by_cases e : j = k
            · rw [e, HD.out]; exact HO.out (by omega)
            · exact HSZ.out j (by omega), HB2.out⟩
          case measure => simp [intOf]; omega
      · have hge : ¬ (k : Int) < (L.length : Int) := by omega
        clear hsz hbl
        go_wp2
        go_ret
        exact ⟨l, rfl, by omega, by omega, fun _ => ⟨by omega, fun j hj => HSZ.out j (by omega)⟩, HBL.out⟩
end Go.Proofs.YtijdlbanfdhfnaaGreatDoor

namespace Go.Proofs.YtijdlbanfdhfnaaGreatDoor
open Go.RowKit

/-- Only cells of block b were written. -/
structure Wrt (b : Nat) (w w' : World) : Prop where
  os : w'.os = w.os
  tape : w'.tape = w.tape
  output : w'.output = w.output
  size : w'.heap.size = w.heap.size
  blk : ∀ g, g ≠ b → w'.heap[g]? = w.heap[g]?
  has : ∀ p : Addr, (∃ v, w.cell? p = some v) → ∃ v, w'.cell? p = some v
  fz : ∀ p : Addr, w'.frozen? p = w.frozen? p
theorem Wrt.refl (b : Nat) (w : World) : Wrt b w w := ⟨rfl, rfl, rfl, rfl, fun _ _ => rfl, fun _ h => h, fun _ => rfl⟩
theorem has_setCell {w : World} {q : Addr} {u v : Value} (hq : w.cell? q = some v) (p : Addr) (h : ∃ x, w.cell? p = some x) : ∃ x, (w.setCell q u).cell? p = some x := by
  by_cases e : p = q
  · subst e; exact ⟨u, World.cell?_setCell_same _ _ _ hq⟩
  · obtain ⟨x, hx⟩ := h
    exact ⟨x, by rw [World.cell?_setCell_other _ _ _ _ (fun h => e h.symm)]; exact hx⟩
theorem Wrt.setCell {b o : Nat} {w w' : World} {v : Value} (h : Wrt b w w') (hq : w'.cell? ⟨b, o, none⟩ = some v) (u : Value) : Wrt b w (w'.setCell ⟨b, o, none⟩ u) :=
  ⟨h.os, h.tape, h.output, by rw [World.size_setCell]; exact h.size, fun g hg => by rw [Below.heap_setCell _ _ _ _ hg]; exact h.blk g hg, fun p hp => has_setCell hq p (h.has p hp), fun p => by rw [World.frozen?_setCell]; exact h.fz p⟩
theorem Wrt.below {b B : Nat} {w w' : World} (h : Wrt b w w') (hb : B ≤ b) : Below B w w' :=
  ⟨h.os, h.tape, h.output, by rw [h.size]; exact Nat.le_refl _, fun g hg => h.blk g (by omega)⟩
theorem Wrt.cell {b : Nat} {w w' : World} (h : Wrt b w w') {p : Addr} (hp : p.block ≠ b) : w'.cell? p = w.cell? p := World.cell?_of_block (w := w) (h.blk _ hp)

/-- Blocks outside bl lie as they lay. -/
structure Wrs (bl : List Nat) (w w' : World) : Prop where
  os : w'.os = w.os
  tape : w'.tape = w.tape
  output : w'.output = w.output
  size : w.heap.size ≤ w'.heap.size
  blk : ∀ g, g < w.heap.size → g ∉ bl → w'.heap[g]? = w.heap[g]?
theorem Wrs.refl (bl : List Nat) (w : World) : Wrs bl w w := ⟨rfl, rfl, rfl, Nat.le_refl _, fun _ _ _ => rfl⟩
theorem Wrs.trans {bl : List Nat} {a b c : World} (h : Wrs bl a b) (k : Wrs bl b c) : Wrs bl a c :=
  ⟨k.os.trans h.os, k.tape.trans h.tape, k.output.trans h.output, Nat.le_trans h.size k.size, fun g hg ho => (k.blk g (Nat.lt_of_lt_of_le hg h.size) ho).trans (h.blk g hg ho)⟩
theorem Wrs.mono {bl bl' : List Nat} {w w' : World} (h : Wrs bl w w') (hs : ∀ g ∈ bl, g ∈ bl') : Wrs bl' w w' :=
  ⟨h.os, h.tape, h.output, h.size, fun g hg ho => h.blk g hg (fun hm => ho (hs g hm))⟩
theorem Wrs.of_below {bl : List Nat} {w w' : World} (h : Below w.heap.size w w') : Wrs bl w w' := ⟨h.os, h.tape, h.output, h.size, fun g hg _ => h.block g hg⟩
theorem Wrs.below {bl : List Nat} {B : Nat} {w w' : World} (h : Wrs bl w w') (hB : ∀ g ∈ bl, B ≤ g) (hw : B ≤ w.heap.size) : Below B w w' :=
  ⟨h.os, h.tape, h.output, h.size, fun g hg => h.blk g (by omega) (fun hm => by have := hB g hm; omega)⟩
theorem Wrs.set {bl : List Nat} {w w' : World} {b o : Nat} (h : Wrs bl w w') (hb : b ∈ bl) (u : Value) : Wrs bl w (w'.setCell ⟨b, o, none⟩ u) :=
  ⟨h.os, h.tape, h.output, by rw [World.size_setCell]; exact h.size, fun g hg ho => by rw [Below.heap_setCell _ _ _ _ (fun e => ho (by rw [e]; exact hb))]; exact h.blk g hg ho⟩
/-- Blocks that came, each once. -/
structure Fr (w w' : World) (bl : List Nat) : Prop where
  nd : bl.Nodup
  lo : ∀ g ∈ bl, w.heap.size ≤ g
  hi : ∀ g ∈ bl, g < w'.heap.size
theorem Fr.mono {w0 w w' w1 : World} {bl : List Nat} (h : Fr w w' bl) (h0 : w0.heap.size ≤ w.heap.size) (h1 : w'.heap.size ≤ w1.heap.size) : Fr w0 w1 bl :=
  ⟨h.nd, fun g hg => by have := h.lo g hg; omega, fun g hg => by have := h.hi g hg; omega⟩
theorem Fr.append {a b b' c : World} {x y : List Nat} (h : Fr a b x) (k : Fr b' c y) (hb : b.heap.size ≤ b'.heap.size) (hab : a.heap.size ≤ b.heap.size) (hbc : b'.heap.size ≤ c.heap.size) : Fr a c (x ++ y) :=
  ⟨List.nodup_append.2 ⟨h.nd, k.nd, fun p hp q hq e => by have h1 := h.hi p hp; have h2 := k.lo q hq; omega⟩, fun g hg => by
    rcases List.mem_append.1 hg with h1 | h1
    · exact h.lo g h1
    · have := k.lo g h1; omega, fun g hg => by
    rcases List.mem_append.1 hg with h1 | h1
    · have := h.hi g h1; omega
    · exact k.hi g h1⟩
theorem Fr.one {w w' : World} {b : Nat} (h1 : w.heap.size ≤ b) (h2 : b < w'.heap.size) (P : Prop) [Decidable P] : Fr w w' (if P then [b] else []) := by
  by_cases h : P
  · rw [if_pos h]
    exact ⟨by simp, fun g hg => by rw [List.mem_singleton.1 hg]; exact h1, fun g hg => by rw [List.mem_singleton.1 hg]; exact h2⟩
  · rw [if_neg h]
    exact ⟨List.nodup_nil, fun g hg => (by cases hg), fun g hg => (by cases hg)⟩
theorem Fr.nil (w w' : World) : Fr w w' [] := ⟨List.nodup_nil, fun g hg => (by cases hg), fun g hg => (by cases hg)⟩

/-- The mark of a number. -/
def mkB (k : Nat) : Value := .int .u8 ((k % 256 : Nat) : Int)
def mkI (k : Nat) : Value := .int .i64 (k : Int)
theorem set_hit {w : World} {b o m : Nat} {u v : Value} (h : w.cell? ⟨b, o + m, none⟩ = some v) (j : Nat) : (w.setCell ⟨b, o + m, none⟩ u).cell? ⟨b, j, none⟩ = if j = o + m then some u else w.cell? ⟨b, j, none⟩ := by
  by_cases e : j = o + m
  · subst e; rw [if_pos rfl]; exact World.cell?_setCell_same _ _ _ h
  · rw [if_neg e]; exact World.cell?_setCell_other _ _ _ _ (fun h => e (by have := congrArg Addr.off h; exact this.symm))

/-- A slice reads as s; its block. -/
def BF (w : World) (v : Value) (s : ByteArray) (bl : List Nat) : Prop := ∃ a b o c, v = .slice a s.size c ∧ (0 < s.size → a = some ⟨b, o, none⟩) ∧ bl = (if 0 < s.size then [b] else []) ∧ ∀ j, j < s.size → w.cell? ⟨b, o + j, none⟩ = some (bts s j) ∧ w.frozen? ⟨b, o + j, none⟩ = false
theorem BF.rd {w : World} {v : Value} {s : ByteArray} {bl : List Nat} (h : BF w v s bl) : BS w v s := by
  obtain ⟨a, b, o, c, h1, h2, _, h3⟩ := h
  exact ⟨a, b, o, c, h1, h2, fun j hj => (h3 j hj).1⟩
theorem BF.lt {w : World} {v : Value} {s : ByteArray} {bl : List Nat} (h : BF w v s bl) : ∀ g ∈ bl, g < w.heap.size := by
  obtain ⟨a, b, o, c, h1, h2, rfl, h3⟩ := h
  intro g hg
  by_cases hz : 0 < s.size
  · rw [if_pos hz] at hg
    obtain rfl := List.mem_singleton.1 hg
    exact World.block_lt_of_cell? _ _ (h3 0 hz).1
  · rw [if_neg hz] at hg; cases hg
theorem BF.keep {w w' : World} {v : Value} {s : ByteArray} {bl : List Nat} (h : BF w v s bl) (hk : ∀ g ∈ bl, w'.heap[g]? = w.heap[g]?) : BF w' v s bl := by
  obtain ⟨a, b, o, c, h1, h2, rfl, h3⟩ := h
  refine ⟨a, b, o, c, h1, h2, rfl, fun j hj => ?_⟩
  have hz : 0 < s.size := by omega
  have hb := hk b (by rw [if_pos hz]; exact List.mem_singleton.2 rfl)
  exact ⟨(World.cell?_of_block (w := w) (a := ⟨b, o + j, none⟩) hb).trans (h3 j hj).1, (World.frozen?_of_block (w := w) (a := ⟨b, o + j, none⟩) hb).trans (h3 j hj).2⟩
theorem BF.below {w w' : World} {v : Value} {s : ByteArray} {bl : List Nat} (h : BF w v s bl) (hb : Below w.heap.size w w') : BF w' v s bl := h.keep fun g hg => hb.block g (h.lt g hg)
theorem BF.slice {w : World} {v : Value} {s : ByteArray} {bl : List Nat} (h : BF w v s bl) : ∃ a c, v = .slice a s.size c := by
  obtain ⟨a, b, o, c, h1, _⟩ := h; exact ⟨a, c, h1⟩
/-- A slice of n holds marks from k on; its block. -/
def BM (w : World) (v : Value) (n k : Nat) (bl : List Nat) : Prop := ∃ a b o c, v = .slice a n c ∧ (0 < n → a = some ⟨b, o, none⟩) ∧ bl = (if 0 < n then [b] else []) ∧ ∀ j, j < n → w.cell? ⟨b, o + j, none⟩ = some (mkB (k + j))
theorem BM.keep {w w' : World} {v : Value} {n k : Nat} {bl : List Nat} (h : BM w v n k bl) (hk : ∀ g ∈ bl, w'.heap[g]? = w.heap[g]?) : BM w' v n k bl := by
  obtain ⟨a, b, o, c, h1, h2, rfl, h3⟩ := h
  refine ⟨a, b, o, c, h1, h2, rfl, fun j hj => ?_⟩
  have hz : 0 < n := by omega
  have hb := hk b (by rw [if_pos hz]; exact List.mem_singleton.2 rfl)
  exact (World.cell?_of_block (w := w) (a := ⟨b, o + j, none⟩) hb).trans (h3 j hj)
theorem BM.lt {w : World} {v : Value} {n k : Nat} {bl : List Nat} (h : BM w v n k bl) : ∀ g ∈ bl, g < w.heap.size := by
  obtain ⟨a, b, o, c, h1, h2, rfl, h3⟩ := h
  intro g hg
  by_cases hz : 0 < n
  · rw [if_pos hz] at hg
    obtain rfl := List.mem_singleton.1 hg
    exact World.block_lt_of_cell? _ _ (h3 0 hz)
  · rw [if_neg hz] at hg; cases hg
theorem BM.below {w w' : World} {v : Value} {n k : Nat} {bl : List Nat} (h : BM w v n k bl) (hb : Below w.heap.size w w') : BM w' v n k bl := h.keep fun g hg => hb.block g (h.lt g hg)
theorem BM.slice {w : World} {v : Value} {n k : Nat} {bl : List Nat} (h : BM w v n k bl) : ∃ a c, v = .slice a n c := by
  obtain ⟨a, b, o, c, h1, _⟩ := h; exact ⟨a, c, h1⟩

/-- A slice reads as s; its block. -/
def IF (w : World) (v : Value) (s : List Int) (bl : List Nat) : Prop := ∃ a b o c, v = .slice a s.length c ∧ (0 < s.length → a = some ⟨b, o, none⟩) ∧ bl = (if 0 < s.length then [b] else []) ∧ ∀ j, j < s.length → w.cell? ⟨b, o + j, none⟩ = some (.int .i64 (s.getD j 0)) ∧ w.frozen? ⟨b, o + j, none⟩ = false
theorem IF.rd {w : World} {v : Value} {s : List Int} {bl : List Nat} (h : IF w v s bl) : IS w v s := by
  obtain ⟨a, b, o, c, h1, h2, _, h3⟩ := h
  exact ⟨a, b, o, c, h1, h2, fun j hj => (h3 j hj).1⟩
theorem IF.lt {w : World} {v : Value} {s : List Int} {bl : List Nat} (h : IF w v s bl) : ∀ g ∈ bl, g < w.heap.size := by
  obtain ⟨a, b, o, c, h1, h2, rfl, h3⟩ := h
  intro g hg
  by_cases hz : 0 < s.length
  · rw [if_pos hz] at hg
    obtain rfl := List.mem_singleton.1 hg
    exact World.block_lt_of_cell? _ _ (h3 0 hz).1
  · rw [if_neg hz] at hg; cases hg
theorem IF.keep {w w' : World} {v : Value} {s : List Int} {bl : List Nat} (h : IF w v s bl) (hk : ∀ g ∈ bl, w'.heap[g]? = w.heap[g]?) : IF w' v s bl := by
  obtain ⟨a, b, o, c, h1, h2, rfl, h3⟩ := h
  refine ⟨a, b, o, c, h1, h2, rfl, fun j hj => ?_⟩
  have hz : 0 < s.length := by omega
  have hb := hk b (by rw [if_pos hz]; exact List.mem_singleton.2 rfl)
  exact ⟨(World.cell?_of_block (w := w) (a := ⟨b, o + j, none⟩) hb).trans (h3 j hj).1, (World.frozen?_of_block (w := w) (a := ⟨b, o + j, none⟩) hb).trans (h3 j hj).2⟩
theorem IF.below {w w' : World} {v : Value} {s : List Int} {bl : List Nat} (h : IF w v s bl) (hb : Below w.heap.size w w') : IF w' v s bl := h.keep fun g hg => hb.block g (h.lt g hg)
theorem IF.slice {w : World} {v : Value} {s : List Int} {bl : List Nat} (h : IF w v s bl) : ∃ a c, v = .slice a s.length c := by
  obtain ⟨a, b, o, c, h1, _⟩ := h; exact ⟨a, c, h1⟩
/-- A slice of n holds marks from k on; its block. -/
def IM (w : World) (v : Value) (n k : Nat) (bl : List Nat) : Prop := ∃ a b o c, v = .slice a n c ∧ (0 < n → a = some ⟨b, o, none⟩) ∧ bl = (if 0 < n then [b] else []) ∧ ∀ j, j < n → w.cell? ⟨b, o + j, none⟩ = some (mkI (k + j))
theorem IM.keep {w w' : World} {v : Value} {n k : Nat} {bl : List Nat} (h : IM w v n k bl) (hk : ∀ g ∈ bl, w'.heap[g]? = w.heap[g]?) : IM w' v n k bl := by
  obtain ⟨a, b, o, c, h1, h2, rfl, h3⟩ := h
  refine ⟨a, b, o, c, h1, h2, rfl, fun j hj => ?_⟩
  have hz : 0 < n := by omega
  have hb := hk b (by rw [if_pos hz]; exact List.mem_singleton.2 rfl)
  exact (World.cell?_of_block (w := w) (a := ⟨b, o + j, none⟩) hb).trans (h3 j hj)
theorem IM.lt {w : World} {v : Value} {n k : Nat} {bl : List Nat} (h : IM w v n k bl) : ∀ g ∈ bl, g < w.heap.size := by
  obtain ⟨a, b, o, c, h1, h2, rfl, h3⟩ := h
  intro g hg
  by_cases hz : 0 < n
  · rw [if_pos hz] at hg
    obtain rfl := List.mem_singleton.1 hg
    exact World.block_lt_of_cell? _ _ (h3 0 hz)
  · rw [if_neg hz] at hg; cases hg
theorem IM.below {w w' : World} {v : Value} {n k : Nat} {bl : List Nat} (h : IM w v n k bl) (hb : Below w.heap.size w w') : IM w' v n k bl := h.keep fun g hg => hb.block g (h.lt g hg)
theorem IM.slice {w : World} {v : Value} {n k : Nat} {bl : List Nat} (h : IM w v n k bl) : ∃ a c, v = .slice a n c := by
  obtain ⟨a, b, o, c, h1, _⟩ := h; exact ⟨a, c, h1⟩
end Go.Proofs.YtijdlbanfdhfnaaGreatDoor

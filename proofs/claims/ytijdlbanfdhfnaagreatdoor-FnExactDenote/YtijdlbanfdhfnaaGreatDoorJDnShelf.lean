/-
  DERIVED: THE SHELF's CONTRACTS AT THIS DUMP, IN PLAIN WORDS (tools/lay-plain.mjs out of 'TryzShelf.lean', which tools/lay-shelf.mjs wrote): THE SAME DECLARATIONS UNDER THE SAME NAMES: 'import', 'namespace', 'open', 'def', 'theorem' AND NOTHING ELSE: no command of the shelf's: FOR A HAND-IN. Each laying: the table of numbers ('.._ren') and one theorem, a field a fact of the dump's own or the kernel's comparison; each contract: ONE APPLICATION.
  The walk of slices.Repeat, of one ground.
  Impl's grid.
-/
import Derived.Shelf.Small.Bits
import Derived.Shelf.Strconv.Itoa0
import Derived.Shelf.Bits.Mul64
import Derived.Shelf.Unicode.DecodeSlow
import Derived.Shelf.Unicode.DecodeAny
import Derived.Test.YtijdlbanfdhfnaaGreatDoorProg
import Derived.Test.YtijdlbanfdhfnaaGreatDoorJDnDc2
import Derived.Laws.CopyOwn
import Derived.Laws.MakeOwn
import Derived.Deep.RegionLaw
import Derived.Test.YtijdlbanfdhfnaaGreatDoorJDnIMM
import Derived.Test.YtijdlbanfdhfnaaGreatDoorJDnFLI
import Derived.BigRegion
import Derived.Deep.RegionHeld3
namespace Go.Proofs
open Go.Shelf
def Tryz.lays212_ren : Go.Shelf.Ren := ⟨fun | 212 => 70 | 263 => 80 | 264 => 81 | n => n, fun | 46 => 92 | 51 => 105 | 146 => 106 | 53 => 108 | 148 => 109 | n => n, fun | n => n⟩
theorem Tryz.lays212 : Go.Proofs.Lays.n212 Tryz.prog Tryz.lays212_ren := {
  mixed := by kernel_rfl
  f212 := Tryz.func70.trans (congrArg some (by kernel_rfl))
  f263 := Tryz.func80.trans (congrArg some (by kernel_rfl))
  f264 := Tryz.func81.trans (congrArg some (by kernel_rfl))
  t46 := Tryz.underlying92
  a46 := Tryz.isAgg92
  z46 := Tryz.sizeOf92
  v46 := Tryz.zeroValue92
  t51 := Tryz.underlying105
  a51 := Tryz.isAgg105
  z51 := Tryz.sizeOf105
  v51 := Tryz.zeroValue105
  t53 := Tryz.underlying108
  a53 := Tryz.isAgg108
  z53 := Tryz.sizeOf108
  v53 := Tryz.zeroValue108
  t146 := Tryz.underlying106
  a146 := Tryz.isAgg106
  z146 := Tryz.sizeOf106
  v146 := Tryz.zeroValue106
  t148 := Tryz.underlying109
  a148 := Tryz.isAgg109
  z148 := Tryz.sizeOf109
  v148 := Tryz.zeroValue109 }
open Go.RowKit Go.Lib in
/-- math/bits.Mul: "Mul returns the full-width product of x and y": on a machine of 64 bits: Mul64's. (LAID: no walk: one application.) -/
theorem Tryz.bits_Mul (x y : Nat) (hx : x < 18446744073709551616) (hy : y < 18446744073709551616) (w : World) :
    Calls Tryz.prog 70 #[.int .u64 x, .int .u64 y] w fun e w' => e = .returned (.tuple #[.int .u64 ((x * y / 18446744073709551616 : Nat) : Int), .int .u64 ((x * y % 18446744073709551616 : Nat) : Int)]) ∧ w' = w := Any.bits_Mul Tryz.lays212 x y hx hy w
def Tryz.lays260_ren : Go.Shelf.Ren := ⟨fun | 260 => 104 | n => n, fun | 9 => 9 | 21 => 21 | 3 => 3 | 4 => 4 | 5 => 5 | 119 => 134 | 0 => 0 | 46 => 92 | 139 => 137 | 138 => 136 | n => n, fun | 3 => 2 | 4 => 3 | n => n⟩
theorem Tryz.lays260 : Go.Proofs.Lays.n260 Tryz.prog Tryz.lays260_ren := {
  mixed := by kernel_rfl
  f260 := Tryz.func104.trans (congrArg some (by kernel_rfl))
  t0 := Tryz.underlying0
  a0 := Tryz.isAgg0
  z0 := Tryz.sizeOf0
  v0 := Tryz.zeroValue0
  t3 := Tryz.underlying3
  a3 := Tryz.isAgg3
  z3 := Tryz.sizeOf3
  v3 := Tryz.zeroValue3
  t4 := Tryz.underlying4
  a4 := Tryz.isAgg4
  z4 := Tryz.sizeOf4
  v4 := Tryz.zeroValue4
  t5 := Tryz.underlying5
  a5 := Tryz.isAgg5
  z5 := Tryz.sizeOf5
  v5 := Tryz.zeroValue5
  t9 := Tryz.underlying9
  a9 := Tryz.isAgg9
  z9 := Tryz.sizeOf9
  v9 := Tryz.zeroValue9
  t21 := Tryz.underlying21
  a21 := Tryz.isAgg21
  z21 := Tryz.sizeOf21
  v21 := Tryz.zeroValue21
  t46 := Tryz.underlying92
  a46 := Tryz.isAgg92
  z46 := Tryz.sizeOf92
  v46 := Tryz.zeroValue92
  t119 := Tryz.underlying134
  a119 := Tryz.isAgg134
  z119 := Tryz.sizeOf134
  t138 := Tryz.underlying136
  a138 := Tryz.isAgg136
  z138 := Tryz.sizeOf136
  v138 := Tryz.zeroValue136
  t139 := Tryz.underlying137
  a139 := Tryz.isAgg137
  z139 := Tryz.sizeOf137
  v139 := Tryz.zeroValue137
  g3 := by kernel_rfl
  g4 := by kernel_rfl }
open Go.RowKit Go.Lib in
theorem Tryz.utf8_decodeRuneInStringSlow (s : ByteArray) (w : World) (hT : Lib.Utf8Tabs 2 3 w) :
    Calls Tryz.prog 104 #[.string s] w fun e w' => e = .returned (.tuple #[.int .i32 (Lib.decodeGo s).1, .int .i64 (Lib.decodeGo s).2]) ∧ Below w.heap.size w w' := Any.utf8_decodeRuneInStringSlow Tryz.lays260 s w hT
def Tryz.lays197_ren : Go.Shelf.Ren := ⟨fun | 197 => 102 | 260 => 104 | n => n, fun | 9 => 9 | 21 => 21 | 3 => 3 | 4 => 4 | 5 => 5 | 105 => 130 | 119 => 134 | 0 => 0 | 46 => 92 | 139 => 137 | 138 => 136 | n => n, fun | 3 => 2 | 4 => 3 | n => n⟩
theorem Tryz.lays197 : Go.Proofs.Lays.n197 Tryz.prog Tryz.lays197_ren := {
  mixed := by kernel_rfl
  f197 := Tryz.func102.trans (congrArg some (by kernel_rfl))
  f260 := Tryz.func104.trans (congrArg some (by kernel_rfl))
  t0 := Tryz.underlying0
  a0 := Tryz.isAgg0
  z0 := Tryz.sizeOf0
  v0 := Tryz.zeroValue0
  t3 := Tryz.underlying3
  a3 := Tryz.isAgg3
  z3 := Tryz.sizeOf3
  v3 := Tryz.zeroValue3
  t4 := Tryz.underlying4
  a4 := Tryz.isAgg4
  z4 := Tryz.sizeOf4
  v4 := Tryz.zeroValue4
  t5 := Tryz.underlying5
  a5 := Tryz.isAgg5
  z5 := Tryz.sizeOf5
  v5 := Tryz.zeroValue5
  t9 := Tryz.underlying9
  a9 := Tryz.isAgg9
  z9 := Tryz.sizeOf9
  v9 := Tryz.zeroValue9
  t21 := Tryz.underlying21
  a21 := Tryz.isAgg21
  z21 := Tryz.sizeOf21
  v21 := Tryz.zeroValue21
  t46 := Tryz.underlying92
  a46 := Tryz.isAgg92
  z46 := Tryz.sizeOf92
  v46 := Tryz.zeroValue92
  t105 := Tryz.underlying130
  a105 := Tryz.isAgg130
  z105 := Tryz.sizeOf130
  v105 := Tryz.zeroValue130
  t119 := Tryz.underlying134
  a119 := Tryz.isAgg134
  z119 := Tryz.sizeOf134
  t138 := Tryz.underlying136
  a138 := Tryz.isAgg136
  z138 := Tryz.sizeOf136
  v138 := Tryz.zeroValue136
  t139 := Tryz.underlying137
  a139 := Tryz.isAgg137
  z139 := Tryz.sizeOf137
  v139 := Tryz.zeroValue137
  g3 := by kernel_rfl
  g4 := by kernel_rfl }
open Go.RowKit Go.Lib in
/-- **unicode/utf8.DecodeRuneInString AT EVERY STRING.** (LAID: no walk: one application.) -/
theorem Tryz.utf8_DecodeRuneInString (s : ByteArray) (w : World) (hT : Lib.Utf8Tabs 2 3 w) :
    Calls Tryz.prog 102 #[.string s] w fun e w' => e = .returned (.tuple #[.int .i32 (Lib.decodeGo s).1, .int .i64 (Lib.decodeGo s).2]) ∧ Below w.heap.size w w' := Any.utf8_DecodeRuneInString Tryz.lays197 s w hT
end Go.Proofs

namespace Go.Proofs.YtijdlbanfdhfnaaGreatDoor
open Go.RowKit

theorem Tryz.infoG : (Tryz.prog.info? 63).map (fun i => (i.zero, i.size, i.bytes)) = some (some (.agg #[.bool false, .int .i64 0, .int .i64 0, .bool false]), 4, 32) := by kernel_rfl
theorem Tryz.infoGS : (Tryz.prog.info? 63).map (·.size) = some 4 := by kernel_rfl
theorem seg_get (L cs : List Value) (o j : Nat) (h : o + cs.length ≤ L.length) : (L.take o ++ cs ++ L.drop (o + cs.length))[j]? = if j < o then L[j]? else if j < o + cs.length then cs[j - o]? else L[j]? := by
  have ht : (L.take o).length = o := by rw [List.length_take]; omega
  by_cases h1 : j < o
  · rw [if_pos h1, List.append_assoc, List.getElem?_append_left (by omega), List.getElem?_take_of_lt h1]
  · rw [if_neg h1]
    by_cases h2 : j < o + cs.length
    · rw [if_pos h2, List.getElem?_append_left (by rw [List.length_append]; omega), List.getElem?_append_right (by omega), ht]
    · rw [if_neg h2, List.getElem?_append_right (by rw [List.length_append]; omega), List.getElem?_drop]
      congr 1
      rw [List.length_append]
      omega
theorem run_copy_rowN {P : Program} (w : World) (dT sT ty elem : TypeId) (g o dLen dCap : Nat) (a : Addr) (sLen sCap : Nat) (cur : Array Value) (t : TypeId) (cs : List Value) (sz k : Nat)
    (hu : P.underlying dT = some (.slice elem)) (hs : (P.info? elem).map (·.size) = some sz)
    (hg : w.heap[g]? = some (.cells cur t (0, 0))) (hk : Nat.min sLen dLen = k) (hn : k * sz = cs.length)
    (hsrc : ∀ j v, cs[j]? = some v → w.cell? (a.add j) = some v) (hfit : o + cs.length ≤ cur.size) (h1 : ∀ v ∈ cs, v.oneCell' = true) :
    (Builtin.copy_ #[dT, sT] ty #[.slice (some ⟨g, o, none⟩) dLen dCap, .slice (some a) sLen sCap]).run P w =
      .ok (goInt k) (w.setRow g (cur.toList.take o ++ cs ++ cur.toList.drop (o + cs.length)).toArray) := by
  have hl := run_loadCells_list (P := P) w a cs hsrc
  have hst := run_storeCells_at P g o t cs 0 cur w hg (by simpa using hfit) h1
  cases hq : P.info? elem with
  | none => simp [hq] at hs
  | some i =>
    have hi : i.size = sz := by simpa [hq] using hs
    simp [Builtin.copy_, run_underlying hu, Builtin.lenOf, Builtin.firstCells, sizeOf, typeInfo, hq, hi, hk, hn, hl, hst]
/-- Four values, again and again. -/
def g4 (x0 x1 x2 x3 : Value) (j : Nat) : Value := if j % 4 = 0 then x0 else if j % 4 = 1 then x1 else if j % 4 = 2 then x2 else x3
def g4l (x0 x1 x2 x3 : Value) (k : Nat) : List Value := (List.range (k * 4)).map (g4 x0 x1 x2 x3)
theorem g4l_len (x0 x1 x2 x3 : Value) (k : Nat) : (g4l x0 x1 x2 x3 k).length = k * 4 := by unfold g4l; simp
theorem g4l_at (x0 x1 x2 x3 : Value) {k j : Nat} (h : j < k * 4) : (g4l x0 x1 x2 x3 k)[j]? = some (g4 x0 x1 x2 x3 j) := by unfold g4l; simp [h]
theorem g4_add (x0 x1 x2 x3 : Value) (m j : Nat) (h : m * 4 ≤ j) : g4 x0 x1 x2 x3 (j - m * 4) = g4 x0 x1 x2 x3 j := by
  unfold g4
  rw [show (j - m * 4) % 4 = j % 4 by omega]
theorem g4_one {x0 x1 x2 x3 : Value} (h0 : x0.oneCell' = true) (h1 : x1.oneCell' = true) (h2 : x2.oneCell' = true) (h3 : x3.oneCell' = true) (k : Nat) : ∀ v ∈ g4l x0 x1 x2 x3 k, v.oneCell' = true := fun v hv => by
  obtain ⟨j, _, rfl⟩ := List.mem_map.1 hv
  unfold g4
  split
  · exact h0
  split
  · exact h1
  split
  · exact h2
  · exact h3
/-- The first m elements are there. -/
def Rq4 (w : World) (B n m : Nat) (x0 x1 x2 x3 : Value) : Prop := ∃ cs, Blk w B 63 cs ∧ cs.size = n * 4 ∧ ∀ j, j < m * 4 → cs[j]? = some (g4 x0 x1 x2 x3 j)
theorem Rq4.more {w : World} {B n m k : Nat} {x0 x1 x2 x3 : Value} {cs : Array Value} (h1 : Blk w B 63 cs) (h2 : cs.size = n * 4) (h3 : ∀ j, j < m * 4 → cs[j]? = some (g4 x0 x1 x2 x3 j)) (hk : m + k ≤ n) {q : Nat} (hq : q = m + k) : Rq4 (w.setRow B (cs.toList.take (m * 4) ++ g4l x0 x1 x2 x3 k ++ cs.toList.drop (m * 4 + (g4l x0 x1 x2 x3 k).length)).toArray) B n q x0 x1 x2 x3 := by
  have hl : m * 4 + (g4l x0 x1 x2 x3 k).length ≤ cs.toList.length := by rw [g4l_len, Array.length_toList]; omega
  refine ⟨_, setRow_heap w B cs _ _ _ h1, ?_, fun j hj => ?_⟩
  · rw [List.size_toArray, List.length_append, List.length_append, List.length_take, List.length_drop, g4l_len, Array.length_toList]
    omega
  · rw [List.getElem?_toArray, seg_get _ _ _ _ hl]
    by_cases q1 : j < m * 4
    · rw [if_pos q1, Array.getElem?_toList]; exact h3 j q1
    · rw [if_neg q1, if_pos (by rw [g4l_len]; omega), g4l_at _ _ _ _ (by omega), g4_add _ _ _ _ _ _ (by omega)]
/-- What Repeat answers. -/
def Rep4 (w w' : World) (n : Nat) (x0 x1 x2 x3 : Value) (e : Ending) : Prop := ∃ B, e = .returned (.slice (some ⟨B, 0, none⟩) n n) ∧ Rq4 w' B n n x0 x1 x2 x3 ∧ w.heap.size ≤ B ∧ Below w.heap.size w w'

set_option maxHeartbeats 2000000 in
set_option maxRecDepth 1000000 in
theorem repeat4_any (n b : Nat) (x0 x1 x2 x3 : Value) (w : World) (hn : n ≤ 1000000) (h1 : 1 ≤ n) (o0 : x0.oneCell' = true) (o1 : x1.oneCell' = true) (o2 : x2.oneCell' = true) (o3 : x3.oneCell' = true)
    (hc : ∀ j, j < 4 → w.cell? ⟨b, j, none⟩ = some (g4 x0 x1 x2 x3 j)) :
    Calls Tryz.prog 49 #[.slice (some ⟨b, 0, none⟩) 1 1, .int .i64 n] w fun e w' => Rep4 w w' n x0 x1 x2 x3 e := by
  have HM : Hid (Calls Tryz.prog 70 #[.int .u64 1, .int .u64 n] w fun e w' => e = .returned (.tuple #[.int .u64 0, .int .u64 n]) ∧ w' = w) := by
    have h := Tryz.bits_Mul 1 n (by omega) (by omega) w
    rw [Nat.one_mul, Nat.div_eq_of_lt (by omega), Nat.mod_eq_of_lt (by omega)] at h
    exact h
  have HON := hide (g4_one o0 o1 o2 o3)
  have hmk : (Instr.makeSlice 56 (.int .i64 (n : Int)) (.int .i64 (n : Int))).run Tryz.prog w = .ok (.slice (some ⟨w.heap.size, 0, none⟩) n n) (w.alloc (.cells (madeCells #[.bool false, .int .i64 0, .int .i64 0, .bool false] (n * 4)) 63)) := by
    obtain ⟨i, hi, hzz⟩ := Option.map_eq_some_iff.1 Tryz.infoG
    simp only [Prod.mk.injEq] at hzz
    obtain ⟨hz, hs, hb⟩ := hzz
    have h := run_makeSlice (P := Tryz.prog) w 56 63 i _ Tryz.underlying56 hi hz .i64 .i64 (n : Int) (n : Int) (by omega) (by omega) (by rw [hs]; simp; omega) (by rw [hb]; omega) (by omega)
    rw [hs] at h
    exact h
  have HR0 : Hid (∃ cs, Blk (w.alloc (.cells (madeCells #[.bool false, .int .i64 0, .int .i64 0, .bool false] (n * 4)) 63)) w.heap.size 63 cs ∧ cs.size = n * 4) := ⟨_, Blk.new _ _ _, size_madeCells _ _⟩
  obtain ⟨W1, hW1⟩ : ∃ W, w.alloc (.cells (madeCells #[.bool false, .int .i64 0, .int .i64 0, .bool false] (n * 4)) 63) = W := ⟨_, rfl⟩
  have hb1 : Below w.heap.size w W1 := by rw [← hW1]; exact (Below.refl _ _).alloc (Nat.le_refl _) _
  obtain ⟨B, hB⟩ : ∃ B, w.heap.size = B := ⟨_, rfl⟩
  rw [hW1, hB] at hmk HR0
  have HB1 := hide hb1
  have HBB := hide hB
  have tmax : decide ((9223372036854775807 : Int) < (n : Int)) = false := decide_eq_false (by omega)
  have tneg : decide ((n : Int) < 0) = false := decide_eq_false (by omega)
  have hwu : IntKind.u64.wrap (n : Int) = (n : Int) := by rw [IntKind.wrap_u64]; omega
  have hwi : IntKind.i64.wrap (n : Int) = (n : Int) := by rw [IntKind.wrap_i64]; omega
  have HCP : Hid (∀ j v, (g4l x0 x1 x2 x3 1)[j]? = some v → W1.cell? ((⟨b, 0, none⟩ : Addr).add j) = some v) := fun j v hj => by
    have hjl : j < 1 * 4 := by
      rcases Nat.lt_or_ge j (1 * 4) with q | q
      · exact q
      · rw [List.getElem?_eq_none (by rw [g4l_len]; exact q)] at hj; cases hj
    have e : (⟨b, 0, none⟩ : Addr).add j = ⟨b, j, none⟩ := by unfold Addr.add; split <;> simp_all
    rw [e, cell_kept (hc j hjl) HB1.out, ← hj, g4l_at _ _ _ _ hjl]
  obtain ⟨cs0, hr0, hs0⟩ := HR0.out
  have hcp := run_copy_rowN (P := Tryz.prog) W1 56 56 3 63 B 0 n n ⟨b, 0, none⟩ 1 1 cs0 63 (g4l x0 x1 x2 x3 1) 4 1 Tryz.underlying56 Tryz.infoGS hr0 (Nat.min_eq_left h1) (by rw [g4l_len]) HCP.out (by rw [g4l_len, hs0]; omega) (HON.out 1)
  have HG4 : Hid (Rq4 (W1.setRow B (cs0.toList.take 0 ++ g4l x0 x1 x2 x3 1 ++ cs0.toList.drop (0 + (g4l x0 x1 x2 x3 1).length)).toArray) B n 1 x0 x1 x2 x3) := by
    have h := Rq4.more (m := 0) (k := 1) (x0 := x0) (x1 := x1) (x2 := x2) (x3 := x3) hr0 hs0 (fun j hj => by omega) (by omega) (q := 1) (by omega)
    rw [Nat.zero_mul] at h
    exact h
  obtain ⟨w4, hw4⟩ : ∃ W, W1.setRow B (cs0.toList.take 0 ++ g4l x0 x1 x2 x3 1 ++ cs0.toList.drop (0 + (g4l x0 x1 x2 x3 1).length)).toArray = W := ⟨_, rfl⟩
  have HB4 : Hid (Below w.heap.size w w4) := by rw [← hw4]; exact below_setRow HB1.out (Nat.le_of_eq HBB.out) _
  rw [hw4] at hcp HG4
  rw [show goInt ((1 : Nat) : Int) = .int .i64 1 from rfl] at hcp
  clear hW1 hb1 hB hc hw4 HCP hr0 hs0 HR0 HB1 o0 o1 o2 o3
  go_enter Tryz.func49, Tryz.ntmps49
  go_wp2_with fail
  refine HM.out.mono ?_
  rintro e w2 ⟨rfl, hw2⟩
  subst hw2
  clear HM
  rename World => w2
  have HZ1 : Hid (w2.heap.size ≤ B) := Nat.le_of_eq HBB.out
  go_wp2
  clear hcp hmk
  go_loopw [8] (fun ix wr => ∃ m : Nat, 1 ≤ m ∧ m ≤ n ∧ ix = .int .i64 m ∧ Rq4 wr B n m x0 x1 x2 x3 ∧ Below w2.heap.size w2 wr) (fun ix _ => n - (intOf ix).toNat)
  case atStart => exact ⟨1, Nat.le_refl _, h1, rfl, HG4.out, HB4.out⟩
  case round =>
    clear HG4 HB4
    obtain ⟨m, hm1, hmn, rfl, hbk, hbl⟩ := hrel
    rename World => Z
    have HK := hide hbk
    have HB := hide hbl
    clear hbk hbl
    by_cases hlt : m < n
    · have hlti : (m : Int) < (n : Int) := by omega
      have hmi : (m : Int) ≤ (n : Int) := by omega
      obtain ⟨k, hk⟩ : ∃ k, Nat.min m (n - m) = k := ⟨_, rfl⟩
      have hkn : m + k ≤ n := by have : Nat.min m (n - m) ≤ n - m := Nat.min_le_right _ _; omega
      have hk1 : 1 ≤ k := by rw [← hk]; exact Nat.le_min.2 ⟨hm1, by omega⟩
      have hkm : k ≤ m := by rw [← hk]; exact Nat.min_le_left _ _
      obtain ⟨cur, hr, hsz, hat⟩ := HK.out
      have hsrc : ∀ j v, (g4l x0 x1 x2 x3 k)[j]? = some v → Z.drew.cell? ((⟨B, 0, none⟩ : Addr).add j) = some v := fun j v hj => by
        have hjl : j < k * 4 := by
          rcases Nat.lt_or_ge j (k * 4) with q | q
          · exact q
          · rw [List.getElem?_eq_none (by rw [g4l_len]; exact q)] at hj; cases hj
        have e : (⟨B, 0, none⟩ : Addr).add j = ⟨B, j, none⟩ := by unfold Addr.add; split <;> simp_all
        rw [e]
        have h2 := hr.cell j
        rw [hat j (by omega)] at h2
        rw [g4l_at _ _ _ _ hjl] at hj
        rw [← hj]
        exact h2
      have hws : IntKind.i64.wrap ((m : Int) + (k : Int)) = ((m + k : Nat) : Int) := by rw [IntKind.wrap_i64]; omega
      obtain ⟨mk, hmk⟩ : ∃ q, m + k = q := ⟨_, rfl⟩
      rw [hmk] at hws
      have HMK := hide hmk
      have hcp := run_copy_rowN (P := Tryz.prog) Z.drew 56 56 3 63 B (m * 4) (n - m) (n - m) ⟨B, 0, none⟩ m n cur 63 (g4l x0 x1 x2 x3 k) 4 k Tryz.underlying56 Tryz.infoGS hr hk (by rw [g4l_len]) hsrc (by rw [g4l_len, hsz]; omega) (HON.out k)
      rw [show goInt ((k : Nat) : Int) = .int .i64 k from rfl] at hcp
      have HG5 : Hid (Rq4 (Z.drew.setRow B (cur.toList.take (m * 4) ++ g4l x0 x1 x2 x3 k ++ cur.toList.drop (m * 4 + (g4l x0 x1 x2 x3 k).length)).toArray) B n mk x0 x1 x2 x3) := Rq4.more (w := Z.drew) hr hsz hat hkn hmk.symm
      obtain ⟨w5, hw5⟩ : ∃ W, Z.drew.setRow B (cur.toList.take (m * 4) ++ g4l x0 x1 x2 x3 k ++ cur.toList.drop (m * 4 + (g4l x0 x1 x2 x3 k).length)).toArray = W := ⟨_, rfl⟩
      have HB5 : Hid (Below w2.heap.size w2 w5) := by rw [← hw5]; exact below_setRow HB.out.drew HZ1.out _
      rw [hw5] at hcp HG5
      clear hk hmk hw5 hsrc hat hr hsz
      go_wp2_with fail
      go_region
      go_wp2
      go_roundw
      case rel => exact ⟨mk, by have := HMK.out; omega, by have := HMK.out; omega, rfl, HG5.out, HB5.out⟩
      case measure => have := HMK.out; simp [intOf]; omega
    · have hge : ¬ (m : Int) < (n : Int) := by omega
      obtain rfl : m = n := by omega
      have HF : Hid (Rep4 w2 Z m x0 x1 x2 x3 (.returned (.slice (some ⟨B, 0, none⟩) m m))) := ⟨B, rfl, HK.out, HZ1.out, HB.out⟩
      go_wp2
      go_ret
      exact HF.out
end Go.Proofs.YtijdlbanfdhfnaaGreatDoor

namespace Go.Proofs.YtijdlbanfdhfnaaGreatDoor
open Go.RowKit

/-- The floor ahead of its grid. -/
def Fl0 (w : World) (F M : Nat) : Prop := Blk w F 58 #[.int .i64 0, .int .i64 0, .slice none 0 0, .slice none 0 0, .map (some M)]
/-- Both sides may stand. -/
def sdD (d : Dc) : Bool := (decide (1 ≤ d.x1) && decide (d.x1 ≤ 40)) && (decide (1 ≤ d.y1) && decide (d.y1 ≤ 40))
set_option maxHeartbeats 2000000 in
set_option maxRecDepth 1000000 in
/-- A grid behind another. -/
theorem grid_ap (F cb cc M mn : Nat) (f : Flo) (vt : Value) (ns : List (Tg × Value)) (d : Dc) (v7 : Value) (i : Nat) (w : World) (h7 : ∃ a n c, v7 = .slice a n c) (hf : FloOk f) (hm : FlI w F cb cc M mn f vt ns) (hM : M < F) (hk : d.kind = 7) :
    Calls Tryz.prog 19 #[.pointer (some ⟨F, 0, none⟩), dcagg d v7] w (ApQ w F cb cc M f d i) := by
  obtain ⟨a7, n7, c7, rfl⟩ := h7
  have HB : Hid (Below w.heap.size w (w.alloc (.cells #[.int .i64 d.kind, .int .i64 d.x1, .int .i64 d.y1, .int .i64 d.x2, .int .i64 d.y2, .int .i64 d.dir, .int .i64 d.cost, .slice a7 n7 c7, .int .i64 d.node] 42))) := (Below.refl _ w).alloc (Nat.le_refl _) _
  have HA : Hid (∀ w', Below w.heap.size w w' → ApQ w F cb cc M f d i (.returned (.int .i64 8)) w') := fun w' hb => ⟨8, rfl, by unfold apC; rw [if_pos hk], hb.mono (by have := hm.blk.lt; omega), hb.size, fun g t cs _ _ _ q => q.below hb, fun h => by omega⟩
  have f2 := hm.blk.cell 2
  have hF := hm.blk.lt
  simp only [List.getElem?_toArray, List.getElem?_cons_succ, List.getElem?_cons_zero] at f2
  have hpos : 1 * 1 ≤ f.w * f.h := Nat.mul_le_mul hf.w0 hf.h0
  obtain ⟨nn, hnn⟩ : ∃ n, f.w * f.h = n := ⟨_, rfl⟩
  rw [hnn] at f2 hpos
  have hgt : (0 : Int) < (nn : Int) := by omega
  unfold dcagg
  clear hf hm hM hk hnn hpos
  go_enter Tryz.func19, Tryz.ntmps19
  go_wp2
  go_ret
  exact HA.out _ HB.out
set_option maxHeartbeats 2000000 in
set_option maxRecDepth 1000000 in
/-- A grid that may not stand. -/
theorem grid_bad (F M : Nat) (d : Dc) (v7 : Value) (w : World) (h7 : ∃ a n c, v7 = .slice a n c) (hm : Fl0 w F M) (hs : sdD d = false) :
    Calls Tryz.prog 19 #[.pointer (some ⟨F, 0, none⟩), dcagg d v7] w fun e w' => e = .returned (.int .i64 8) ∧ Below w.heap.size w w' := by
  obtain ⟨a7, n7, c7, rfl⟩ := h7
  have HB : Hid (Below w.heap.size w (w.alloc (.cells #[.int .i64 d.kind, .int .i64 d.x1, .int .i64 d.y1, .int .i64 d.x2, .int .i64 d.y2, .int .i64 d.dir, .int .i64 d.cost, .slice a7 n7 c7, .int .i64 d.node] 42))) := (Below.refl _ w).alloc (Nat.le_refl _) _
  have f2 := Blk.cell hm 2
  have hF := Blk.lt hm
  simp only [List.getElem?_toArray, List.getElem?_cons_succ, List.getElem?_cons_zero] at f2
  unfold sdD at hs
  obtain ⟨sx, hsx⟩ : ∃ b, (decide (1 ≤ d.x1) && decide (d.x1 ≤ 40)) = b := ⟨_, rfl⟩
  obtain ⟨sy, hsy⟩ : ∃ b, (decide (1 ≤ d.y1) && decide (d.y1 ≤ 40)) = b := ⟨_, rfl⟩
  have HSX : Hid (Calls Tryz.prog 48 #[.int .i64 d.x1] (w.alloc (.cells #[.int .i64 d.kind, .int .i64 d.x1, .int .i64 d.y1, .int .i64 d.x2, .int .i64 d.y2, .int .i64 d.dir, .int .i64 d.cost, .slice a7 n7 c7, .int .i64 d.node] 42)) fun e w' => e = .returned (.bool sx) ∧ w' = (w.alloc (.cells #[.int .i64 d.kind, .int .i64 d.x1, .int .i64 d.y1, .int .i64 d.x2, .int .i64 d.y2, .int .i64 d.dir, .int .i64 d.cost, .slice a7 n7 c7, .int .i64 d.node] 42))) := by rw [← hsx]; exact isSide_any _ _
  have HSY : Hid (Calls Tryz.prog 48 #[.int .i64 d.y1] (w.alloc (.cells #[.int .i64 d.kind, .int .i64 d.x1, .int .i64 d.y1, .int .i64 d.x2, .int .i64 d.y2, .int .i64 d.dir, .int .i64 d.cost, .slice a7 n7 c7, .int .i64 d.node] 42)) fun e w' => e = .returned (.bool sy) ∧ w' = (w.alloc (.cells #[.int .i64 d.kind, .int .i64 d.x1, .int .i64 d.y1, .int .i64 d.x2, .int .i64 d.y2, .int .i64 d.dir, .int .i64 d.cost, .slice a7 n7 c7, .int .i64 d.node] 42))) := by rw [← hsy]; exact isSide_any _ _
  rw [hsx, hsy] at hs
  unfold dcagg
  clear hm hsx hsy
  cases sx with
  | false =>
    clear hs
    go_enter Tryz.func19, Tryz.ntmps19
    go_wp2_with (go_at_call 48; refine HSX.out.mono ?_; rintro e w1 ⟨rfl, rfl⟩)
    go_ret
    exact ⟨rfl, HB.out⟩
  | true =>
    cases sy with
    | true => cases hs
    | false =>
      clear hs
      go_enter Tryz.func19, Tryz.ntmps19
      go_wp2_with (go_at_call 48; first | (refine HSX.out.mono ?_; rintro e w1 ⟨rfl, rfl⟩) | (refine HSY.out.mono ?_; rintro e w1 ⟨rfl, rfl⟩))
      go_ret
      exact ⟨rfl, HB.out⟩
end Go.Proofs.YtijdlbanfdhfnaaGreatDoor

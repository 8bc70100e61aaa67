/-
  Texts that lie in memory or are nil: the contracts of the text functions for both, laws.sameB, laws.take.
-/
import Derived.Test.YteojiblglbmmdaaGreatDoorJFTextsNL
import Derived.Test.YteojiblglbmmdaaGreatDoorJFTextsDC
import Derived.Test.YteojiblglbmmdaaGreatDoorJFTextsQC
import Derived.Test.YteojiblglbmmdaaGreatDoorJFTextsPXT
import Derived.Test.YteojiblglbmmdaaGreatDoorJFTextsUI
import Derived.Test.YteojiblglbmmdaaGreatDoorJFTextsRH
namespace Go.Proofs.YteojiblglbmmdaaGreatDoor
open Go.RowKit

/-- A slice that holds a text. -/
def Holds (w : World) (v : Value) (s : ByteArray) : Prop :=
  (v = .slice none 0 0 ∧ s = ByteArray.empty) ∨ ∃ b c, v = .slice (some ⟨b, 0, none⟩) s.size c ∧ s.size ≤ c ∧ ∀ j, j < s.size → w.cell? ⟨b, 0 + j, none⟩ = some (bts s j)
theorem Holds.below {w w' : World} {v : Value} {s : ByteArray} (h : Holds w v s) (hb : Below w.heap.size w w') : Holds w' v s :=
  h.imp id fun ⟨b, c, h1, h2, h3⟩ => ⟨b, c, h1, h2, fun j hj => by
    rw [hb.cell (p := ⟨b, 0 + j, none⟩) (World.block_lt_of_cell? _ _ (h3 j hj))]; exact h3 j hj⟩
theorem Holds.view {w : World} {v : Value} {s : ByteArray} (h : Holds w v s) : ∃ a b c, v = .slice a s.size c ∧ (0 < s.size → a = some ⟨b, 0, none⟩) ∧ ∀ j, j < s.size → w.cell? ⟨b, j, none⟩ = some (bts s j) := by
  rcases h with ⟨rfl, rfl⟩ | ⟨b, c, rfl, _, h⟩
  · exact ⟨none, 0, 0, rfl, fun h => absurd h (Nat.lt_irrefl _), fun j hj => absurd hj (Nat.not_lt_zero _)⟩
  · exact ⟨_, b, c, rfl, fun _ => rfl, fun j hj => by have := h j hj; rw [Nat.zero_add] at this; exact this⟩

/-- The bytes of a list. -/
def mkB (l : List Nat) : ByteArray := ⟨(l.map UInt8.ofNat).toArray⟩
theorem mkB_size (l : List Nat) : (mkB l).size = l.length := by simp [mkB, ByteArray.size]
theorem mkB_get {l : List Nat} (hl : ∀ x ∈ l, x < 256) (j : Nat) (hj : j < l.length) : ((mkB l).get! j).toNat = l.getD j 0 := by
  have h1 : j < (mkB l).size := by rw [mkB_size]; exact hj
  rw [Utf8W.get!_of_lt _ j h1]
  have e0 : (mkB l)[j]'h1 = ((l.map UInt8.ofNat).toArray)[j]'(by simpa using hj) := rfl
  have e : (mkB l)[j]'h1 = UInt8.ofNat (l[j]'hj) := by rw [e0]; simp
  have := hl l[j] (List.getElem_mem hj)
  rw [e, UInt8.toNat_ofNat', Nat.mod_eq_of_lt this, List.getD_eq_getElem?_getD, List.getElem?_eq_getElem hj]; rfl
theorem own_holds {w : World} {B : Nat} {v : Value} {l : List Nat} {s : ByteArray} (h : w.ownsRow B 5 1 v l.length (cv l)) (hz : s.size = l.length) (hb : ∀ j, j < l.length → l.getD j 0 = (s.get! j).toNat) : Holds w v s := by
  rcases own_cases h with ⟨rfl, rfl⟩ | ⟨g, c, rfl, _, _, hc, hcell⟩
  · refine .inl ⟨rfl, ?_⟩
    exact ext_bytes hz (fun j hj => absurd (hz ▸ hj) (Nat.not_lt_zero _))
  · refine .inr ⟨g, c, by rw [hz], by omega, fun j hj => ?_⟩
    rw [Nat.zero_add, hcell j (by omega), hb j (by omega)]; rfl

theorem specCheck_h {w : World} {v : Value} {s : ByteArray} (h : Holds w v s) (hs : s.size ≤ 1048576) :
    Calls Tryz.prog 5 #[v] w fun e w' => e = .returned (pairVal (chk s)) ∧ Below w.heap.size w w' := by
  rcases h with ⟨rfl, rfl⟩ | ⟨b, c, rfl, _, h⟩
  · exact specCheck_nil w
  · exact specCheck_any b 0 c s w hs h
theorem implCheck_h {w : World} {v : Value} {s : ByteArray} (h : Holds w v s) (hs : s.size ≤ 1048576) (hT : Lib.Utf8Tabs 1 2 w) :
    Calls Tryz.prog 6 #[v] w fun e w' => e = .returned (pairVal (chk s)) ∧ Below w.heap.size w w' := by
  rcases h with ⟨rfl, rfl⟩ | ⟨b, c, rfl, _, h⟩
  · exact implCheck_nil w
  · exact implCheck_any b 0 c s w hs hT h
theorem implQuote_h {w : World} {v : Value} {s : ByteArray} (h : Holds w v s) (hs : s.size ≤ 1048576) (hT : Lib.Utf8Tabs 1 2 w) (hdb : w.cell? ⟨7, 15, none⟩ = some (.int .u8 4)) :
    Calls Tryz.prog 7 #[v] w fun e w' => ∃ v', e = .returned v' ∧ w'.ownsRow w.heap.size 5 1 v' (quoted s).length (cv (quoted s)) ∧ Below w.heap.size w w' := by
  rcases h with ⟨rfl, rfl⟩ | ⟨b, c, rfl, _, h⟩
  · exact implQuote_nil w
  · exact implQuote_any b 0 c s w hs hT hdb h
theorem implPos_h {w : World} {v : Value} {s : ByteArray} {p st c : Nat} (h : Holds w v s) (hs : s.size ≤ 1048576) (hp : p ≤ s.size) (hP : Pos s p st c) :
    Calls Tryz.prog 12 #[v, .int .i64 p] w fun e w' => e = .returned (.tuple #[.int .i64 (1 + cntLF s p : Nat), .int .i64 (c : Nat)]) ∧ Below w.heap.size w w' := by
  rcases h with ⟨rfl, rfl⟩ | ⟨b, cap, rfl, hc, h⟩
  · have h0 : p = 0 := by have : ByteArray.empty.size = 0 := rfl; omega
    subst h0
    have h1 := hP.c_le
    have h2 := hP.one
    have h3 : c = 1 := by omega
    subst h3
    exact implPos_nil w
  · exact implPos_all b 0 cap p st c s w hs hp hc hP h

set_option maxHeartbeats 400000 in
set_option maxRecDepth 1000000 in
theorem sameB_any {w : World} {v1 v2 : Value} {s : ByteArray} (hs : s.size ≤ 1048576) (h1 : Holds w v1 s) (h2 : Holds w v2 s) :
    Calls Tryz.prog 10 #[v1, v2] w fun e w' => e = .returned (.bool true) ∧ Below w.heap.size w w' := by
  obtain ⟨a1, b1, c1, rfl, ha1, hc1⟩ := h1.view
  obtain ⟨a2, b2, c2, rfl, ha2, hc2⟩ := h2.view
  have HC1 := hide hc1
  have HC2 := hide hc2
  clear hc1 hc2 h1 h2
  have hne : ((s.size : Int) != (s.size : Int)) = false := by simp
  go_enter Tryz.func10, Tryz.ntmps10
  go_wp2
  go_loopw [5] (fun i wr => ∃ k n : Nat, k ≤ s.size ∧ i = .int .i64 k ∧ wr = w.drewN n) (fun i _ => s.size - (intOf i).toNat)
  case atStart => exact ⟨0, 0, Nat.zero_le _, rfl, rfl⟩
  case round =>
    obtain ⟨k, n, hk, rfl, rfl⟩ := hrel
    by_cases hlt : k < s.size
    · obtain rfl := ha1 (by omega)
      obtain rfl := ha2 (by omega)
      have g1 : w.cell? ⟨b1, k, none⟩ = some (.int .u8 ((s.get! k).toNat : Int)) := HC1.out k hlt
      have g2 : w.cell? ⟨b2, k, none⟩ = some (.int .u8 ((s.get! k).toNat : Int)) := HC2.out k hlt
      obtain ⟨y, hy⟩ : ∃ y : Nat, (s.get! k).toNat = y := ⟨_, rfl⟩
      rw [hy] at g1 g2
      have hyy : ((y : Int) != (y : Int)) = false := by simp
      have hlti : (k : Int) < (s.size : Int) := by omega
      clear hy
      go_wp2
      go_region
      all_goals go_wp2
      all_goals
        go_roundw
        case rel => exact ⟨k + 1, _, by omega, by go_num, rfl⟩
        case measure => simp [intOf]; omega
    · have hge : ¬ (k : Int) < (s.size : Int) := by omega
      go_wp2
      go_ret
      exact ⟨rfl, below_drewN (Below.refl _ _) n⟩

set_option maxHeartbeats 400000 in
set_option maxRecDepth 1000000 in
theorem take_any (w : World) (a0 : Option Addr) (b off cap : Nat) (ms : ByteArray) (i : Nat) (hs : ms.size ≤ 1048576) (ha : 0 < ms.size → a0 = some ⟨b, off, none⟩) (hc : ∀ j, j < ms.size → w.cell? ⟨b, off + j, none⟩ = some (bts ms j)) :
    Calls Tryz.prog 11 #[.slice a0 ms.size cap, .int .i64 i] w fun e w' => ∃ t : Nat, t < 256 ∧ e = .returned (.int .i64 t) ∧ Below w.heap.size w w' := by
  by_cases h0 : ms.size = 0
  · have e : ((ms.size : Int) == 0) = true := by rw [beq_iff_eq]; omega
    clear hc ha
    go_enter Tryz.func11, Tryz.ntmps11
    go_wp2
    go_ret
    exact ⟨0, by omega, rfl, Below.refl _ _⟩
  · obtain rfl := ha (by omega)
    have e : ((ms.size : Int) == 0) = false := by rw [beq_eq_false_iff_ne]; omega
    obtain ⟨k, hk⟩ : ∃ k, i % ms.size = k := ⟨_, rfl⟩
    have hkl : k < ms.size := by rw [← hk]; exact Nat.mod_lt _ (by omega)
    have hm : (i : Int).tmod (ms.size : Int) = (k : Int) := by rw [← hk]; exact (Int.ofNat_tmod i ms.size).symm
    have hkli : (k : Int) < (ms.size : Int) := by omega
    have g : w.cell? ⟨b, off + k, none⟩ = some (.int .u8 ((ms.get! k).toNat : Int)) := hc k hkl
    have hy := (ms.get! k).toNat_lt
    obtain ⟨y, hy'⟩ : ∃ y : Nat, (ms.get! k).toNat = y := ⟨_, rfl⟩
    rw [hy'] at g hy
    have hyi : (y : Int) < 256 := by omega
    clear hc ha hk hy'
    go_enter Tryz.func11, Tryz.ntmps11
    go_wp2
    go_ret
    exact ⟨y, by omega, rfl, Below.refl _ _⟩

/-! ### the drawn text's bytes, and its literal's -/
theorem dwN_lt (k : Nat) : ∀ x ∈ dwN k, x < 256 := fun x hx => by
  unfold dwN at hx
  obtain ⟨c, _, rfl⟩ := List.mem_map.1 hx
  exact c.toNat_lt
theorem bdN_lt (k : Nat) : ∀ x ∈ bdN k, x < 256 := fun x hx => by
  unfold bdN at hx
  obtain ⟨c, _, rfl⟩ := List.mem_map.1 hx
  exact c.toNat_lt
theorem dts_lt (cs : ByteArray) (n i : Nat) : ∀ k, ∀ x ∈ dts cs n i k, x < 256
  | 0, _, hx => by cases hx
  | k + 1, x, hx => by
    rw [dts, List.mem_append] at hx
    rcases hx with h | h
    · exact dts_lt cs n i k x h
    · exact dwN_lt _ x h
theorem dct_lt (cs : ByteArray) (n : Nat) : ∀ x ∈ dct cs n, x < 256 := fun x hx => by
  have ht : ∀ x ∈ dtx cs n, x < 256 := dts_lt cs n 2 _
  unfold dct at hx
  split at hx
  · unfold spl at hx
    rw [List.mem_append, List.mem_append] at hx
    rcases hx with (h | h) | h
    · exact ht x (List.mem_of_mem_take h)
    · exact bdN_lt _ x h
    · exact ht x (List.mem_of_mem_drop h)
  · exact ht x hx
theorem qb_lt {c : Nat} (h : c < 256) : ∀ x ∈ qb c, x < 256 := by
  intro x hm
  have d1 := dg_low (show c / 16 < 16 by omega)
  have d2 := dg_low (show c % 16 < 16 by omega)
  unfold qb hexL at hm
  split at hm
  · simp only [List.mem_cons, List.not_mem_nil, or_false] at hm; omega
  · split at hm
    · split at hm
      · have d3 := dg_low (show c < 16 by omega)
        simp only [List.cons_append, List.nil_append, List.mem_cons, List.not_mem_nil, or_false] at hm; omega
      · simp only [List.cons_append, List.nil_append, List.mem_cons, List.not_mem_nil, or_false] at hm; omega
    · simp only [List.mem_cons, List.not_mem_nil, or_false] at hm; omega
theorem qTo_lt (s : ByteArray) : ∀ k, ∀ x ∈ qTo s k, x < 256
  | 0, x, hx => by rw [qTo, List.mem_singleton] at hx; omega
  | k + 1, x, hx => by
    rw [qTo, List.mem_append] at hx
    rcases hx with h | h
    · exact qTo_lt s k x h
    · exact qb_lt (s.get! k).toNat_lt x h

/-- The literal of a well-formed text, as bytes. -/
theorem quoted_is {s : ByteArray} (h : (chk s).1 = 0) (hs : s.size ≤ 100) : ∃ q : ByteArray, q.size = (quoted s).length ∧ 2 ≤ q.size ∧ q.size ≤ 602 ∧ (∀ j, j < (quoted s).length → (quoted s).getD j 0 = (q.get! j).toNat) ∧ QX s q := by
  have hq : quoted s = qTo s s.size ++ [34] := by unfold quoted; rw [if_pos h]
  have hl := qTo_le s s.size
  have h1 := pl_mono s 0 s.size
  rw [pl_zero, Nat.zero_add] at h1
  have h1' : 1 ≤ (qTo s s.size).length := h1
  have hlt : ∀ x ∈ quoted s, x < 256 := fun x hx => by
    rw [hq, List.mem_append, List.mem_singleton] at hx
    rcases hx with g | g
    · exact qTo_lt s _ x g
    · omega
  have hz : (quoted s).length = (qTo s s.size).length + 1 := by rw [hq, List.length_append]; rfl
  have hg : ∀ j, j < (quoted s).length → (quoted s).getD j 0 = ((mkB (quoted s)).get! j).toNat := fun j hj => (mkB_get hlt j hj).symm
  refine ⟨mkB (quoted s), mkB_size _, by rw [mkB_size]; omega, by rw [mkB_size]; omega, hg, QX.mk' (by rw [mkB_size, hq]) (fun j hj => ?_)⟩
  rw [mkB_size] at hj
  rw [← hg j hj, hq]
theorem bys_own {w : World} {B : Nat} {v : Value} {s : ByteArray} (h : w.ownsRow B 5 1 v (bys s 0 s.size).length (cv (bys s 0 s.size))) : Holds w v s :=
  own_holds h (bys_length s _ _).symm (fun j hj => by rw [bys_length] at hj; rw [bys_at s _ _ _ hj, Nat.zero_add])

/-- A drawn text. -/
theorem drawn (w : World) (a0 : Option Addr) (b off cap : Nat) (cs : ByteArray) (hs : cs.size ≤ 1048576) (hcap : cs.size ≤ cap) (ha : 0 < cs.size → a0 = some ⟨b, off, none⟩) (hc : ∀ j, j < cs.size → w.cell? ⟨b, off + j, none⟩ = some (bts cs j)) :
    Calls Tryz.prog 4 #[.slice a0 cs.size cap] w fun e w' => ∃ v', e = .returned v' ∧ Holds w' v' (mkB (dct cs (min cs.size 600))) ∧ Below w.heap.size w w' :=
  (drawQ_any w a0 b off cap cs hs hcap ha hc).mono fun _ _ ⟨v', h1, h2, h3⟩ => ⟨v', h1, own_holds h2 (mkB_size _) (fun j hj => (mkB_get (dct_lt cs _) j hj).symm), h3⟩
end Go.Proofs.YteojiblglbmmdaaGreatDoor

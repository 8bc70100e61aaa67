/-
  The walk of szTargetS.
  Lists of Target: what is walked of them.
  The walk of eqTables, where both read as the same.
  Lists of lists of numbers with their blocks; marked.
  A Target with its blocks; marked.
  Lists of Target with their blocks; marked.
-/
import Derived.Test.YtpnocklldlacjaaDoorJDecodeImageTB
import Derived.Test.YtpnocklldlacjaaDoorJDecodeImageTgS1
import Derived.Test.YtpnocklldlacjaaDoorJDecodeImageIN3
import Derived.Test.YtpnocklldlacjaaDoorJDecodeImageMK
import Derived.Test.YtpnocklldlacjaaDoorJDecodeImageMKB
namespace Go.Proofs.YtpnocklldlacjaaDoor
open Go.RowKit

set_option maxHeartbeats 2000000 in
set_option maxRecDepth 1000000 in
theorem szTgS_r {w : World} {v : Value} {L : List Tg} {left : Int} (h0 : 0 ≤ left) (hl : left ≤ 1048576) (hn : TgSL L) (h : TgS w v L) :
    Calls Tryd.prog 24 #[v, .int .i64 left] w fun e w' => ∃ r, e = .returned (.int .i64 r) ∧ -1 ≤ r ∧ r ≤ left ∧ (0 ≤ r → TgSB L) ∧ Below w.heap.size w w' := by
  obtain ⟨a, b, o, c, rfl, ha, hc⟩ := h
  obtain ⟨hn, hz⟩ := hn
  have e1 : IntKind.i64.wrap (left - (L.length : Int)) = left - L.length := by rw [IntKind.wrap_i64]; omega
  have HC := hide hc
  have HZ := hide hz
  clear hc hz
  by_cases c1 : left - (L.length : Int) < 0
  · have d1 : decide (left - (L.length : Int) < 0) = true := decide_eq_true c1
    go_enter Tryd.func24, Tryd.ntmps24
    go_wp2
    go_ret
    exact ⟨-1, rfl, by omega, by omega, fun h => by omega, Below.refl _ _⟩
  · have d1 : decide (left - (L.length : Int) < 0) = false := decide_eq_false c1
    go_enter Tryd.func24, Tryd.ntmps24
    go_wp2
    go_loopw [1, 5] (fun lf ix wr => ∃ (k : Nat) (l : Int), k ≤ L.length ∧ lf = .int .i64 l ∧ ix = .int .i64 k ∧ 0 ≤ l ∧ l ≤ left ∧ (∀ j, j < k → TgB (L.getD j .zero)) ∧ Below w.heap.size w wr) (fun _ ix _ => L.length - (intOf ix).toNat)
    case atStart => exact ⟨0, left - L.length, Nat.zero_le _, rfl, rfl, by omega, by omega, fun j hj => absurd hj (Nat.not_lt_zero _), Below.refl _ _⟩
    case round =>
      obtain ⟨k, l, hk, rfl, rfl, hl0, hl1, hsz, hbl⟩ := hrel
      have HBL := hide hbl
      have HSZ := hide hsz
      by_cases hlt : k < L.length
      · obtain rfl := ha (by omega)
        obtain ⟨v0, hnc, hnv⟩ := HC.out k hlt
        have hzk := HZ.out k hlt
        obtain ⟨d, hd⟩ : ∃ d, L.getD k .zero = d := ⟨_, rfl⟩
        rw [hd] at hnc hnv hzk
        have HD := hide hd
        obtain ⟨g0, g1, g2⟩ := hnc.below hbl
        have HT := hide (szTg_r (w := wr) hl0 (by omega) hzk (hnv.below hbl))
        unfold tgagg at HT
        clear hd hzk hnc hnv
        obtain ⟨x0, x1, x2⟩ := d
        simp only at HT g1 g2
        have hlti : (k : Int) < (L.length : Int) := by omega
        clear hsz hbl
        go_wp2_with fail
        refine HT.out.mono ?_
        rintro e w2 ⟨r, rfl, hm, hr, ho, hb2⟩
        have HB2 : Hid (Below w.heap.size w w2) := HBL.out.trans (hb2.mono HBL.out.size)
        have HO := hide ho
        clear hb2 ho
        by_cases c2 : r < 0
        · have d2 : decide (r < 0) = true := decide_eq_true c2
          go_wp2
          go_ret
          exact ⟨-1, rfl, by omega, by omega, fun h => by omega, HB2.out⟩
        · have d2 : decide (r < 0) = false := decide_eq_false c2
          go_wp2
          go_roundw
          case rel => exact ⟨k + 1, r, by omega, rfl, by go_num, by omega, by omega, fun j hj => by
            by_cases e : j = k
            · rw [e, HD.out]; exact HO.out (by omega)
            · exact HSZ.out j (by omega), HB2.out⟩
          case measure => simp [intOf]; omega
      · have hge : ¬ (k : Int) < (L.length : Int) := by omega
        clear hsz hbl
        go_wp2
        go_ret
        exact ⟨l, rfl, by omega, by omega, fun _ => ⟨by omega, fun j hj => HSZ.out j (by omega)⟩, HBL.out⟩
end Go.Proofs.YtpnocklldlacjaaDoor



namespace Go.Proofs.YtpnocklldlacjaaDoor
open Go.RowKit

set_option maxHeartbeats 2000000 in
set_option maxRecDepth 1000000 in
theorem eqTb_same {w : World} {d : Tb} {p2 p3 p4 q2 q3 q4 : Value} (hb : TbB d) (h1 : TbV w d p2 p3 p4) (h2 : TbV w d q2 q3 q4) :
    Calls Tryd.prog 11 #[tbagg d p2 p3 p4, tbagg d q2 q3 q4] w fun e w' => e = .returned (.bool true) ∧ Below w.heap.size w w' := by
  obtain ⟨x0, x1, x2, x3, x4⟩ := d
  have e0 : (x0 != x0) = false := by simp
  have e1 : (x1 != x1) = false := by simp
  have HB := hide hb
  have H1 := hide h1
  have H2 := hide h2
  clear hb h1 h2
  unfold tbagg
  simp only
  obtain ⟨W0, hW0⟩ : ∃ W, (w.alloc (.cells #[.int .i64 x0, .int .i64 x1, p2, p3, p4] 30)).alloc (.cells #[.int .i64 x0, .int .i64 x1, q2, q3, q4] 30) = W := ⟨_, rfl⟩
  have hb0 : Below w.heap.size w W0 := by rw [← hW0]; exact ((Below.refl _ _).alloc (Nat.le_refl _) _).alloc (by simp) _
  have hA : Blk W0 w.heap.size 30 #[.int .i64 x0, .int .i64 x1, p2, p3, p4] := by rw [← hW0]; exact (Blk.new _ _ _).alloc _
  have hC : Blk W0 (w.heap.size + 1) 30 #[.int .i64 x0, .int .i64 x1, q2, q3, q4] := by
    rw [← hW0]
    have := Blk.new (w.alloc (.cells #[.int .i64 x0, .int .i64 x1, p2, p3, p4] 30)) 30 #[.int .i64 x0, .int .i64 x1, q2, q3, q4]
    simpa using this
  have HA0 := hide hA
  have HC0 := hide hC
  have HB0 := hide hb0
  have HW := hide hW0
  clear hA hC hb0 hW0
  go_enter Tryd.func11, Tryd.ntmps11
  go_wp2_with fail
  rw [HW.out]
  clear HW
  refine (eqTgS_same HB.out.targets (H1.out.targets.below HB0.out) (H2.out.targets.below HB0.out)).mono ?_
  rintro e w2 ⟨rfl, hb2⟩
  have HA2 := hide (HA0.out.below hb2)
  have HC2 := hide (HC0.out.below hb2)
  have HB2 : Hid (Below w.heap.size w w2) := HB0.out.trans (hb2.mono HB0.out.size)
  have a3 := HA2.out.cell 3
  have c3 := HC2.out.cell 3
  have a4 := HA2.out.cell 4
  have c4 := HC2.out.cell 4
  simp only [List.getElem?_toArray, List.getElem?_cons_succ, List.getElem?_cons_zero] at a3 c3 a4 c4
  clear hb2 HA0 HC0 HB0
  go_wp2_with fail
  clear a3 c3 a4 c4
  refine (eqIIS_same HB.out.dist (H1.out.dist.below HB2.out) (H2.out.dist.below HB2.out)).mono ?_
  rintro e w3 ⟨rfl, hb3⟩
  have HA3 := hide (HA2.out.below hb3)
  have HC3 := hide (HC2.out.below hb3)
  have HB3 : Hid (Below w.heap.size w w3) := HB2.out.trans (hb3.mono HB2.out.size)
  have a4 := HA3.out.cell 4
  have c4 := HC3.out.cell 4
  simp only [List.getElem?_toArray, List.getElem?_cons_succ, List.getElem?_cons_zero] at a4 c4
  clear hb3 HA2 HC2 HB2
  go_wp2_with fail
  clear a4 c4
  refine (eqIIS_same HB.out.hop (H1.out.hop.below HB3.out) (H2.out.hop.below HB3.out)).mono ?_
  rintro e w4 ⟨rfl, hb4⟩
  have HA4 := hide (HA3.out.below hb4)
  have HC4 := hide (HC3.out.below hb4)
  have HB4 : Hid (Below w.heap.size w w4) := HB3.out.trans (hb4.mono HB3.out.size)
  clear hb4 HA3 HC3 HB3
  go_wp2
  go_ret
  exact ⟨rfl, HB4.out⟩
end Go.Proofs.YtpnocklldlacjaaDoor

namespace Go.Proofs.YtpnocklldlacjaaDoor
open Go.RowKit

/-- A slice of slices reads as L; its blocks. -/
def IISF (w : World) (v : Value) (L : List (List Int)) (bl : List Nat) : Prop := ∃ a b o c, ∃ (V : Nat → Value) (NB : Nat → List Nat), v = .slice a L.length c ∧ (0 < L.length → a = some ⟨b, o, none⟩) ∧ bl = (if 0 < L.length then [b] else []) ++ ((List.range L.length).map NB).flatten ∧ ∀ j, j < L.length → w.cell? ⟨b, o + j, none⟩ = some (V j) ∧ IF w (V j) (L.getD j []) (NB j)
/-- How many marks those before the i-th take. -/
def IISn (L : List (List Int)) : Nat → Nat
  | 0 => 0
  | i + 1 => IISn L i + (L.getD i []).length
theorem IISn_le {L : List (List Int)} (h : IISB L) : ∀ i, i ≤ L.length → IISn L i ≤ i * 1048576
  | 0, _ => Nat.zero_le _
  | i + 1, hi => by
    have h1 := IISn_le h i (by omega)
    have h2 := h.each i (by omega)
    simp only [IISn]
    omega
/-- A slice of slices is marked from k on; its blocks. -/
def IISM (w : World) (v : Value) (L : List (List Int)) (k : Nat) (bl : List Nat) : Prop := ∃ a b o c, ∃ (V : Nat → Value) (NB : Nat → List Nat), v = .slice a L.length c ∧ (0 < L.length → a = some ⟨b, o, none⟩) ∧ bl = (if 0 < L.length then [b] else []) ++ ((List.range L.length).map NB).flatten ∧ ∀ j, j < L.length → w.cell? ⟨b, o + j, none⟩ = some (V j) ∧ IM w (V j) (L.getD j []).length (k + IISn L j) (NB j)
theorem IISF.rd {w : World} {v : Value} {L : List (List Int)} {bl : List Nat} (h : IISF w v L bl) : IIS w v L := by
  obtain ⟨a, b, o, c, V, NB, h1, h2, _, h3⟩ := h
  exact ⟨a, b, o, c, h1, h2, fun j hj => ⟨V j, (h3 j hj).1, (h3 j hj).2.rd⟩⟩
theorem IISF.slice {w : World} {v : Value} {L : List (List Int)} {bl : List Nat} (h : IISF w v L bl) : ∃ a c, v = .slice a L.length c := by
  obtain ⟨a, _, _, c, _, _, h1, _⟩ := h; exact ⟨a, c, h1⟩
theorem IISF.lt {w : World} {v : Value} {L : List (List Int)} {bl : List Nat} (h : IISF w v L bl) : ∀ g ∈ bl, g < w.heap.size := by
  obtain ⟨a, b, o, c, V, NB, h1, h2, rfl, h3⟩ := h
  intro g hg
  rcases List.mem_append.1 hg with hg | hg
  · by_cases hz : 0 < L.length
    · rw [if_pos hz] at hg
      obtain rfl := List.mem_singleton.1 hg
      exact World.block_lt_of_cell? _ _ (h3 0 hz).1
    · rw [if_neg hz] at hg; cases hg
  · obtain ⟨i, hi, hg⟩ := of_mem_flat hg
    exact (h3 i hi).2.lt g hg
theorem IISF.keep {w w' : World} {v : Value} {L : List (List Int)} {bl : List Nat} (h : IISF w v L bl) (hk : ∀ g ∈ bl, w'.heap[g]? = w.heap[g]?) : IISF w' v L bl := by
  obtain ⟨a, b, o, c, V, NB, h1, h2, rfl, h3⟩ := h
  have hb : 0 < L.length → w'.heap[b]? = w.heap[b]? := fun hz => hk b (List.mem_append_left _ (by rw [if_pos hz]; exact List.mem_singleton.2 rfl))
  exact ⟨a, b, o, c, V, NB, h1, h2, rfl, fun j hj => ⟨(World.cell?_of_block (w := w) (a := ⟨b, o + j, none⟩) (hb (by omega))).trans (h3 j hj).1, (h3 j hj).2.keep (fun g hg => hk g (List.mem_append_right _ (mem_flat hj hg)))⟩⟩
theorem IISF.below {w w' : World} {v : Value} {L : List (List Int)} {bl : List Nat} (h : IISF w v L bl) (hb : Below w.heap.size w w') : IISF w' v L bl := h.keep fun g hg => hb.block g (h.lt g hg)
theorem IISM.slice {w : World} {v : Value} {L : List (List Int)} {k : Nat} {bl : List Nat} (h : IISM w v L k bl) : ∃ a c, v = .slice a L.length c := by
  obtain ⟨a, _, _, c, _, _, h1, _⟩ := h; exact ⟨a, c, h1⟩
theorem IISM.lt {w : World} {v : Value} {L : List (List Int)} {k : Nat} {bl : List Nat} (h : IISM w v L k bl) : ∀ g ∈ bl, g < w.heap.size := by
  obtain ⟨a, b, o, c, V, NB, h1, h2, rfl, h3⟩ := h
  intro g hg
  rcases List.mem_append.1 hg with hg | hg
  · by_cases hz : 0 < L.length
    · rw [if_pos hz] at hg
      obtain rfl := List.mem_singleton.1 hg
      exact World.block_lt_of_cell? _ _ (h3 0 hz).1
    · rw [if_neg hz] at hg; cases hg
  · obtain ⟨i, hi, hg⟩ := of_mem_flat hg
    exact (h3 i hi).2.lt g hg
theorem IISM.keep {w w' : World} {v : Value} {L : List (List Int)} {k : Nat} {bl : List Nat} (h : IISM w v L k bl) (hk : ∀ g ∈ bl, w'.heap[g]? = w.heap[g]?) : IISM w' v L k bl := by
  obtain ⟨a, b, o, c, V, NB, h1, h2, rfl, h3⟩ := h
  have hb : 0 < L.length → w'.heap[b]? = w.heap[b]? := fun hz => hk b (List.mem_append_left _ (by rw [if_pos hz]; exact List.mem_singleton.2 rfl))
  exact ⟨a, b, o, c, V, NB, h1, h2, rfl, fun j hj => ⟨(World.cell?_of_block (w := w) (a := ⟨b, o + j, none⟩) (hb (by omega))).trans (h3 j hj).1, (h3 j hj).2.keep (fun g hg => hk g (List.mem_append_right _ (mem_flat hj hg)))⟩⟩
theorem IISM.below {w w' : World} {v : Value} {L : List (List Int)} {k : Nat} {bl : List Nat} (h : IISM w v L k bl) (hb : Below w.heap.size w w') : IISM w' v L k bl := h.keep fun g hg => hb.block g (h.lt g hg)
end Go.Proofs.YtpnocklldlacjaaDoor

namespace Go.Proofs.YtpnocklldlacjaaDoor
open Go.RowKit

/-- It reads as d; its blocks. -/
def TgF (w : World) (d : Tg) (v0 : Value) (bl : List Nat) : Prop := BF w v0 d.name bl
theorem TgF.rd {w : World} {d : Tg} {v0 : Value} {bl : List Nat} (h : TgF w d v0 bl) : TgV w d v0 := ⟨BF.rd h⟩
theorem TgF.keep {w w' : World} {d : Tg} {v0 : Value} {bl : List Nat} (h : TgF w d v0 bl) (hk : ∀ g ∈ bl, w'.heap[g]? = w.heap[g]?) : TgF w' d v0 bl := BF.keep h hk
theorem TgF.below {w w' : World} {d : Tg} {v0 : Value} {bl : List Nat} (h : TgF w d v0 bl) (hk : Below w.heap.size w w') : TgF w' d v0 bl := BF.below h hk
theorem TgF.lt {w : World} {d : Tg} {v0 : Value} {bl : List Nat} (h : TgF w d v0 bl) : ∀ g ∈ bl, g < w.heap.size := BF.lt h
end Go.Proofs.YtpnocklldlacjaaDoor

namespace Go.Proofs.YtpnocklldlacjaaDoor
open Go.RowKit

/-- A slice of them reads as L; its blocks. -/
def TgSF (w : World) (v : Value) (L : List Tg) (bl : List Nat) : Prop := ∃ a b o c, ∃ (V : Nat → Value) (NB : Nat → List Nat), v = .slice a L.length c ∧ (0 < L.length → a = some ⟨b, o, none⟩) ∧ bl = (if 0 < L.length then [b] else []) ++ ((List.range L.length).map NB).flatten ∧ (∀ j, j < L.length * 3 → w.frozen? ⟨b, o + j, none⟩ = false) ∧ ∀ j, j < L.length → TgC w b (o + j * 3) (L.getD j .zero) (V j) ∧ TgF w (L.getD j .zero) (V j) (NB j)
/-- How many marks one takes, and those before the i-th. -/
def TgN (d : Tg) : Nat := 2 + d.name.size
def TgSn (L : List Tg) : Nat → Nat
  | 0 => 0
  | i + 1 => TgSn L i + TgN (L.getD i .zero)
theorem TgSn_le {L : List Tg} (h : TgSB L) : ∀ i, i ≤ L.length → TgSn L i ≤ i * 1048600
  | 0, _ => Nat.zero_le _
  | i + 1, hi => by
    have h1 := TgSn_le h i (by omega)
    have h2 := (h.each i (by omega)).name
    simp only [TgSn, TgN]
    omega
/-- A slice of them is marked from k on; its blocks. -/
def TgSM (w : World) (v : Value) (L : List Tg) (k : Nat) (bl : List Nat) : Prop := ∃ a b o c, ∃ (V : Nat → Value) (NB : Nat → List Nat), v = .slice a L.length c ∧ (0 < L.length → a = some ⟨b, o, none⟩) ∧ bl = (if 0 < L.length then [b] else []) ++ ((List.range L.length).map NB).flatten ∧ ∀ j, j < L.length → (w.cell? ⟨b, o + j * 3 + 1, none⟩ = some (mkI (k + TgSn L j + (0 + (L.getD j .zero).name.size))) ∧ w.cell? ⟨b, o + j * 3 + 2, none⟩ = some (mkI (k + TgSn L j + (1 + (L.getD j .zero).name.size)))) ∧ w.cell? ⟨b, o + j * 3, none⟩ = some (V j) ∧ BM w (V j) ((L.getD j .zero).name.size) (k + TgSn L j + 0) (NB j)
theorem TgSF.rd {w : World} {v : Value} {L : List Tg} {bl : List Nat} (h : TgSF w v L bl) : TgS w v L := by
  obtain ⟨a, b, o, c, V, NB, h1, h2, _, _, h3⟩ := h
  exact ⟨a, b, o, c, h1, h2, fun j hj => ⟨V j, (h3 j hj).1, (h3 j hj).2.rd⟩⟩
theorem TgSF.slice {w : World} {v : Value} {L : List Tg} {bl : List Nat} (h : TgSF w v L bl) : ∃ a c, v = .slice a L.length c := by
  obtain ⟨a, _, _, c, _, _, h1, _⟩ := h; exact ⟨a, c, h1⟩
theorem TgSF.lt {w : World} {v : Value} {L : List Tg} {bl : List Nat} (h : TgSF w v L bl) : ∀ g ∈ bl, g < w.heap.size := by
  obtain ⟨a, b, o, c, V, NB, h1, h2, rfl, _, h3⟩ := h
  intro g hg
  rcases List.mem_append.1 hg with hg | hg
  · by_cases hz : 0 < L.length
    · rw [if_pos hz] at hg
      obtain rfl := List.mem_singleton.1 hg
      exact World.block_lt_of_cell? _ _ (h3 0 hz).1.name
    · rw [if_neg hz] at hg; cases hg
  · obtain ⟨i, hi, hg⟩ := of_mem_flat hg
    exact (h3 i hi).2.lt g hg
theorem TgSF.keep {w w' : World} {v : Value} {L : List Tg} {bl : List Nat} (h : TgSF w v L bl) (hk : ∀ g ∈ bl, w'.heap[g]? = w.heap[g]?) : TgSF w' v L bl := by
  obtain ⟨a, b, o, c, V, NB, h1, h2, rfl, hf, h3⟩ := h
  have hb : 0 < L.length → w'.heap[b]? = w.heap[b]? := fun hz => hk b (List.mem_append_left _ (by rw [if_pos hz]; exact List.mem_singleton.2 rfl))
  refine ⟨a, b, o, c, V, NB, h1, h2, rfl, fun j hj => ?_, fun j hj => ⟨?_, (h3 j hj).2.keep (fun g hg => hk g (List.mem_append_right _ (mem_flat hj hg)))⟩⟩
  · exact (World.frozen?_of_block (w := w) (a := ⟨b, o + j, none⟩) (hb (by omega))).trans (hf j hj)
  · have hb' := hb (by omega)
    have hc : ∀ j, w'.cell? ⟨b, j, none⟩ = w.cell? ⟨b, j, none⟩ := fun j => World.cell?_of_block (w := w) (a := ⟨b, j, none⟩) hb'
    obtain ⟨q0, q1, q2⟩ := (h3 j hj).1
    exact ⟨(hc _).trans q0, (hc _).trans q1, (hc _).trans q2⟩
theorem TgSF.below {w w' : World} {v : Value} {L : List Tg} {bl : List Nat} (h : TgSF w v L bl) (hb : Below w.heap.size w w') : TgSF w' v L bl := h.keep fun g hg => hb.block g (h.lt g hg)
theorem TgSM.slice {w : World} {v : Value} {L : List Tg} {k : Nat} {bl : List Nat} (h : TgSM w v L k bl) : ∃ a c, v = .slice a L.length c := by
  obtain ⟨a, _, _, c, _, _, h1, _⟩ := h; exact ⟨a, c, h1⟩
theorem TgSM.lt {w : World} {v : Value} {L : List Tg} {k : Nat} {bl : List Nat} (h : TgSM w v L k bl) : ∀ g ∈ bl, g < w.heap.size := by
  obtain ⟨a, b, o, c, V, NB, h1, h2, rfl, h3⟩ := h
  intro g hg
  rcases List.mem_append.1 hg with hg | hg
  · by_cases hz : 0 < L.length
    · rw [if_pos hz] at hg
      obtain rfl := List.mem_singleton.1 hg
      exact World.block_lt_of_cell? _ _ (h3 0 hz).2.1
    · rw [if_neg hz] at hg; cases hg
  · obtain ⟨i, hi, hg⟩ := of_mem_flat hg
    exact (h3 i hi).2.2.lt g hg
theorem TgSM.keep {w w' : World} {v : Value} {L : List Tg} {k : Nat} {bl : List Nat} (h : TgSM w v L k bl) (hk : ∀ g ∈ bl, w'.heap[g]? = w.heap[g]?) : TgSM w' v L k bl := by
  obtain ⟨a, b, o, c, V, NB, h1, h2, rfl, h3⟩ := h
  have hb : 0 < L.length → w'.heap[b]? = w.heap[b]? := fun hz => hk b (List.mem_append_left _ (by rw [if_pos hz]; exact List.mem_singleton.2 rfl))
  refine ⟨a, b, o, c, V, NB, h1, h2, rfl, fun j hj => ?_⟩
  have hb' := hb (by omega)
  have hc : ∀ j, w'.cell? ⟨b, j, none⟩ = w.cell? ⟨b, j, none⟩ := fun j => World.cell?_of_block (w := w) (a := ⟨b, j, none⟩) hb'
  obtain ⟨⟨q1, q2⟩, q, hm⟩ := h3 j hj
  exact ⟨⟨(hc _).trans q1, (hc _).trans q2⟩, (hc _).trans q, hm.keep (fun g hg => hk g (List.mem_append_right _ (mem_flat hj hg)))⟩
theorem TgSM.below {w w' : World} {v : Value} {L : List Tg} {k : Nat} {bl : List Nat} (h : TgSM w v L k bl) (hb : Below w.heap.size w w') : TgSM w' v L k bl := h.keep fun g hg => hb.block g (h.lt g hg)
end Go.Proofs.YtpnocklldlacjaaDoor

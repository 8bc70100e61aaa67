/-
  Plainly: what Denote answers is small.
  A slice of bytes that came in, as a text.
  Slices of bytes and of numbers that came in, and lists of lists.
  A Decl that came in.
-/
import Derived.Test.YtijdlbanfdhfnaaGreatDoorJDnDNW
import Derived.Test.YtijdlbanfdhfnaaGreatDoorJDnT
import Derived.Laws.BytesArg
import Derived.ProofKit
import Derived.OpenShut
import Derived.Deep.Slices
import Derived.Test.YtijdlbanfdhfnaaGreatDoorJDnDc0
namespace Go.Proofs.YtijdlbanfdhfnaaGreatDoor

theorem lyOf_b {f : Flo} (h : FloOk f) : LyB (lyOf f) := by
  have hp := srtT_perm f.tgs []
  have hl : (srtT [] f.tgs).length = f.tgs.length := hp.length_eq
  have hw : f.w * f.h ≤ 1600 := Nat.mul_le_mul h.w1 h.h1
  have ht := h.tl
  refine ⟨?_, ?_, ⟨?_, fun j hj => ⟨?_⟩⟩⟩
  · show ((List.range (f.w * f.h)).map (csF f)).length ≤ 1048576
    rw [List.length_map, List.length_range]; omega
  · show ((List.range (f.w * f.h)).map (exF f)).length ≤ 1048576
    rw [List.length_map, List.length_range]; omega
  · show (srtT [] f.tgs).length ≤ 1048576
    omega
  · have hj' : j < (srtT [] f.tgs).length := hj
    have hm : (lyOf f).targets.getD j .zero ∈ srtT [] f.tgs := by
      show (srtT [] f.tgs).getD j .zero ∈ _
      rw [List.getD_eq_getElem?_getD, List.getElem?_eq_getElem hj']; exact List.getElem_mem hj'
    have := h.ts _ (hp.mem_iff.1 hm)
    omega
theorem ly0_b : LyB .zero := ⟨Nat.zero_le _, Nat.zero_le _, ⟨Nat.zero_le _, fun j hj => by cases hj⟩⟩
open Classical in
theorem dnA_b (L : List Dc) : LyB (dnA L).1 := by
  by_cases h1 : dcsOk L
  · by_cases h2 : 0 < L.length ∧ grd0 (L.getD 0 .zero)
    · obtain ⟨_, _, g1, g2, g3, g4⟩ := id h2
      have hd : ∀ d ∈ L.drop 1, DcOk d := fun d hd => by
        obtain ⟨i, hi, rfl⟩ := List.mem_iff_getElem.1 (List.mem_of_mem_drop hd)
        have := h1.2 i hi
        rwa [List.getD_eq_getElem?_getD, List.getElem?_eq_getElem hi] at this
      have hk := dnR_ok (i := 1) (flo0_okI (p := (L.getD 0 .zero).x1.toNat) (q := (L.getD 0 .zero).y1.toNat) (by omega) (by omega)) hd
      unfold dnA
      rw [if_neg (fun g => g h1), if_neg (fun g => g h2)]
      simp only
      split
      · exact ly0_b
      · rename_i hc
        split
        · exact ly0_b
        · exact lyOf_b (hk (Classical.byContradiction hc)).1
    · rw [dnA_8 h1 h2]; exact ly0_b
  · rw [dnA_no h1]; exact ly0_b
end Go.Proofs.YtijdlbanfdhfnaaGreatDoor

namespace Go.Proofs.YtijdlbanfdhfnaaGreatDoor
open Go.ChangeShapes Go.WideShapes Go.ChangeAt Go.RowKit

/-- What is told of a slice of bytes that came in. -/
def IsRow (k : IntKind) (w : World) (a : Option Addr) (len cap : Nat) (zs : List Int) : Prop :=
  (a = none ∧ len = 0 ∧ cap = 0 ∧ zs = []) ∨
  ∃ x, a = some x ∧ len ≤ cap ∧ cap ≤ maxLen ∧ zs.length = cap ∧ (∀ i, i < zs.length → w.cell? (x.add i) = some (.int k (zs.getD i 0))) ∧ ∀ n ∈ zs, (Lit.int k n).wf = true

/-- The text that a slice of bytes holds. -/
theorem text_of_row {w : World} {a : Option Addr} {len cap : Nat} {zs : List Int} (h : IsRow .u8 w a len cap zs) :
    ∃ (s : ByteArray) (b off : Nat), s.size = len ∧ (0 < s.size → a = some ⟨b, off, none⟩) ∧ ∀ j, j < s.size → w.cell? ⟨b, off + j, none⟩ = some (bts s j) := by
  rcases h with ⟨rfl, rfl, rfl, rfl⟩ | ⟨x, rfl, hl, _, hz, hcell, hwf⟩
  · exact ⟨ByteArray.empty, 0, 0, rfl, fun h => absurd h (by decide), fun j hj => absurd hj (Nat.not_lt_zero _)⟩
  · have hsz : (strOfNums (zs.take len)).size = len := by rw [strOfNums_size]; simp; omega
    by_cases h0 : len = 0
    · exact ⟨strOfNums (zs.take len), 0, 0, hsz, fun h => by omega, fun j hj => by omega⟩
    · obtain ⟨b, off, rfl, hc⟩ := ints_at hcell (by omega)
      refine ⟨strOfNums (zs.take len), b, off, hsz, fun _ => rfl, fun j hj => ?_⟩
      have hj' : j < zs.length := by omega
      rw [hc j hj']
      have hw := hwf zs[j] (List.getElem_mem hj')
      have h1 : IntKind.u8.min = 0 := rfl
      have h2 : IntKind.u8.max = 255 := rfl
      simp only [Lit.wf, Bool.and_eq_true, decide_eq_true_eq] at hw
      have hb : 0 ≤ zs[j] ∧ zs[j] ≤ 255 := by omega
      have e : (strOfNums (zs.take len)).get! j = UInt8.ofNat zs[j].toNat := by
        have hjt : j < ((zs.take len).map fun n => UInt8.ofNat n.toNat).toArray.size := by simp; omega
        show ((zs.take len).map fun n => UInt8.ofNat n.toNat).toArray[j]! = _
        rw [getElem!_pos _ j hjt]
        simp
      have e2 : (UInt8.ofNat zs[j].toNat).toNat = zs[j].toNat := by rw [UInt8.toNat_ofNat']; omega
      have e3 : zs.getD j 0 = zs[j] := by simp [List.getD, hj']
      unfold bts
      rw [e, e2, e3, Int.toNat_of_nonneg hb.1]

end Go.Proofs.YtijdlbanfdhfnaaGreatDoor

namespace Go.Proofs.YtijdlbanfdhfnaaGreatDoor
open Go.ChangeShapes Go.WideShapes Go.ChangeAt Go.RowKit Go.Deep

theorem max_fits : (maxLen : Int) ≤ 9223372036854775807 := by unfold maxLen; omega

theorem bs_of {H : Type} {enc : TypeId × Value → H} {P : Program} {w : World} {base : Nat} {held : Bool} {t e : TypeId} (ht : P.underlying t = some (.slice e)) (he : P.underlying e = some (.int .u8)) (hc : P.cellsOf e = 1) {fuel : Nat} {v : Value} {x : DataW H × List MemPlace}
    (h : DataW.trod enc P w base (fun _ => true) held fuel t [v] = some x) : ∃ s : ByteArray, BS w v s ∧ (s.size : Int) ≤ 9223372036854775807 := by
  have mf := max_fits
  rcases open_ints ht he hc h with ⟨hcs, _⟩ | ⟨a, l, c, zs, hcs, _, hl, hm, hz, _, hcell, hwz⟩
  · simp only [List.cons.injEq, and_true] at hcs
    exact ⟨.empty, ⟨none, 0, 0, 0, hcs, fun h => absurd h (by decide), fun j hj => absurd hj (Nat.not_lt_zero _)⟩, by decide⟩
  · simp only [List.cons.injEq, and_true] at hcs
    have hr : IsRow .u8 w (some a) l c zs := .inr ⟨_, rfl, hl, hm, by simpa using hz, hcell, hwz⟩
    obtain ⟨s, b, off, h1, h2, h3⟩ := text_of_row hr
    exact ⟨s, ⟨some a, b, off, c, by rw [hcs, h1], h2, h3⟩, by omega⟩

theorem cap_of {H : Type} {enc : TypeId × Value → H} {P : Program} {w : World} {base : Nat} {held : Bool} {t e : TypeId} (ht : P.underlying t = some (.slice e)) (he : P.underlying e = some (.int .u8)) (hc : P.cellsOf e = 1) {fuel : Nat} {a0 : Option Addr} {l0 c0 : Nat} {x : DataW H × List MemPlace}
    (h : DataW.trod enc P w base (fun _ => true) held fuel t [.slice a0 l0 c0] = some x) : l0 ≤ c0 := by
  rcases open_ints ht he hc h with ⟨hcs, _⟩ | ⟨a, l, c, zs, hcs, _, hl, _⟩
  · simp only [List.cons.injEq, and_true, Value.slice.injEq] at hcs
    omega
  · simp only [List.cons.injEq, and_true, Value.slice.injEq] at hcs
    omega
theorem is_of {H : Type} {enc : TypeId × Value → H} {P : Program} {w : World} {base : Nat} {held : Bool} {t e : TypeId} (ht : P.underlying t = some (.slice e)) (he : P.underlying e = some (.int .i64)) (hc : P.cellsOf e = 1) {fuel : Nat} {v : Value} {x : DataW H × List MemPlace}
    (h : DataW.trod enc P w base (fun _ => true) held fuel t [v] = some x) : ∃ l : List Int, IS w v l ∧ IL l := by
  have mf := max_fits
  rcases open_ints ht he hc h with ⟨hcs, _⟩ | ⟨a, l, c, zs, hcs, _, hl, hm, hz, _, hcell, hwf⟩
  · simp only [List.cons.injEq, and_true] at hcs
    exact ⟨[], ⟨none, 0, 0, 0, hcs, fun h => absurd h (by decide), fun j hj => absurd hj (Nat.not_lt_zero _)⟩, ⟨by simp, fun j hj => absurd hj (Nat.not_lt_zero _)⟩⟩
  · simp only [List.cons.injEq, and_true] at hcs
    have hzl : zs.length = c := by simpa using hz
    have hlen : (zs.take l).length = l := by rw [List.length_take]; omega
    by_cases h0 : l = 0
    · subst h0
      exact ⟨[], ⟨some a, 0, 0, c, hcs, fun h => absurd h (by decide), fun j hj => absurd hj (Nat.not_lt_zero _)⟩, ⟨by simp, fun j hj => absurd hj (Nat.not_lt_zero _)⟩⟩
    · obtain ⟨b, off, rfl, hc⟩ := ints_at hcell (by omega)
      refine ⟨zs.take l, ⟨_, b, off, c, by rw [hcs, hlen], fun _ => rfl, fun j hj => ?_⟩, ⟨by omega, fun j hj => ?_⟩⟩
      rotate_left
      · rw [List.getD_eq_getElem?_getD, List.getElem?_eq_getElem hj, Option.getD_some]
        exact hwf _ (List.mem_of_mem_take (List.getElem_mem hj))
      rw [hc j (by omega)]
      have : (zs.take l).getD j 0 = zs.getD j 0 := by
        simp only [List.getD_eq_getElem?_getD, List.getElem?_take]; rw [if_pos (by omega)]
      rw [this]

theorem range_getD {α : Type} (S : Nat → α) (z : α) (n j : Nat) (h : j < n) : ((List.range n).map S).getD j z = S j := by
  simp [List.getD, h]
end Go.Proofs.YtijdlbanfdhfnaaGreatDoor

namespace Go.Proofs.YtijdlbanfdhfnaaGreatDoor
open Go.ChangeShapes Go.WideShapes Go.ChangeAt Go.RowKit Go.Deep

theorem dc_of {H : Type} {enc : TypeId × Value → H} {P : Program} {w : World} {base : Nat} {held : Bool} {q tb tedc u : TypeId} {fdc0 fdc1 fdc2 fdc3 fdc4 fdc5 fdc6 fdc7 fdc8 : Field} (hq : P.underlying q = some (.int .i64)) (cq : P.cellsOf q = 1) (htb : P.underlying tb = some (.slice u)) (hu : P.underlying u = some (.int .u8)) (cu : P.cellsOf u = 1) (ctb : P.cellsOf tb = 1) (hedc : P.underlying tedc = some (.struct #[fdc0, fdc1, fdc2, fdc3, fdc4, fdc5, fdc6, fdc7, fdc8])) (cedc : P.cellsOf tedc = 9) (odc : fdc0.offset = 0 ∧ fdc1.offset = 1 ∧ fdc2.offset = 2 ∧ fdc3.offset = 3 ∧ fdc4.offset = 4 ∧ fdc5.offset = 5 ∧ fdc6.offset = 6 ∧ fdc7.offset = 7 ∧ fdc8.offset = 8) (ydc : fdc0.type = q ∧ fdc1.type = q ∧ fdc2.type = q ∧ fdc3.type = q ∧ fdc4.type = q ∧ fdc5.type = q ∧ fdc6.type = q ∧ fdc7.type = tb ∧ fdc8.type = q) {fuel : Nat} {cs : List Value} {x : DataW H × List MemPlace}
    (h : DataW.trod enc P w base (fun _ => true) held fuel tedc cs = some x) : ∃ (d : Dc) (v7 : Value), cs = [.int .i64 d.kind, .int .i64 d.x1, .int .i64 d.y1, .int .i64 d.x2, .int .i64 d.y2, .int .i64 d.dir, .int .i64 d.cost, v7, .int .i64 d.node] ∧ DcV w d v7 ∧ DcL d := by
  obtain ⟨o0, o1, o2, o3, o4, o5, o6, o7, o8⟩ := odc
  obtain ⟨y0, y1, y2, y3, y4, y5, y6, y7, y8⟩ := ydc
  obtain ⟨xs, n, hk, _, hlen, hxl, hf⟩ := DataW.trod_struct hedc h
  rw [cedc] at hlen
  match xs, hxl, cs, hlen with
  | [z0, z1, z2, z3, z4, z5, z6, z7, z8], _, [u0, u1, u2, u3, u4, u5, u6, u7, u8], _ =>
    have g0 := hf 0 fdc0 rfl
    have g1 := hf 1 fdc1 rfl
    have g2 := hf 2 fdc2 rfl
    have g3 := hf 3 fdc3 rfl
    have g4 := hf 4 fdc4 rfl
    have g5 := hf 5 fdc5 rfl
    have g6 := hf 6 fdc6 rfl
    have g7 := hf 7 fdc7 rfl
    have g8 := hf 8 fdc8 rfl
    rw [o0, y0, cq] at g0
    rw [o1, y1, cq] at g1
    rw [o2, y2, cq] at g2
    rw [o3, y3, cq] at g3
    rw [o4, y4, cq] at g4
    rw [o5, y5, cq] at g5
    rw [o6, y6, cq] at g6
    rw [o7, y7, ctb] at g7
    rw [o8, y8, cq] at g8
    obtain ⟨l0, hl0, _, hb0⟩ := DataW.trod_int hq (x := z0) g0
    obtain ⟨l1, hl1, _, hb1⟩ := DataW.trod_int hq (x := z1) g1
    obtain ⟨l2, hl2, _, hb2⟩ := DataW.trod_int hq (x := z2) g2
    obtain ⟨l3, hl3, _, hb3⟩ := DataW.trod_int hq (x := z3) g3
    obtain ⟨l4, hl4, _, hb4⟩ := DataW.trod_int hq (x := z4) g4
    obtain ⟨l5, hl5, _, hb5⟩ := DataW.trod_int hq (x := z5) g5
    obtain ⟨l6, hl6, _, hb6⟩ := DataW.trod_int hq (x := z6) g6
    obtain ⟨l7, hl7, hb7⟩ := bs_of htb hu cu (x := z7) (v := u7) g7
    obtain ⟨l8, hl8, _, hb8⟩ := DataW.trod_int hq (x := z8) g8
    simp at hl0 hl1 hl2 hl3 hl4 hl5 hl6 hl8
    subst hl0 hl1 hl2 hl3 hl4 hl5 hl6 hl8
    exact ⟨⟨l0, l1, l2, l3, l4, l5, l6, l7, l8⟩, u7, rfl, ⟨hl7⟩, ⟨hb0, hb1, hb2, hb3, hb4, hb5, hb6, hb7, hb8⟩⟩

theorem dcs_of {H : Type} {enc : TypeId × Value → H} {P : Program} {w : World} {base : Nat} {held : Bool} {tsdc q tb tedc u : TypeId} {fdc0 fdc1 fdc2 fdc3 fdc4 fdc5 fdc6 fdc7 fdc8 : Field} (htsdc : P.underlying tsdc = some (.slice tedc)) (hq : P.underlying q = some (.int .i64)) (cq : P.cellsOf q = 1) (htb : P.underlying tb = some (.slice u)) (hu : P.underlying u = some (.int .u8)) (cu : P.cellsOf u = 1) (ctb : P.cellsOf tb = 1) (hedc : P.underlying tedc = some (.struct #[fdc0, fdc1, fdc2, fdc3, fdc4, fdc5, fdc6, fdc7, fdc8])) (cedc : P.cellsOf tedc = 9) (odc : fdc0.offset = 0 ∧ fdc1.offset = 1 ∧ fdc2.offset = 2 ∧ fdc3.offset = 3 ∧ fdc4.offset = 4 ∧ fdc5.offset = 5 ∧ fdc6.offset = 6 ∧ fdc7.offset = 7 ∧ fdc8.offset = 8) (ydc : fdc0.type = q ∧ fdc1.type = q ∧ fdc2.type = q ∧ fdc3.type = q ∧ fdc4.type = q ∧ fdc5.type = q ∧ fdc6.type = q ∧ fdc7.type = tb ∧ fdc8.type = q) {fuel : Nat} {v : Value} {x : DataW H × List MemPlace}
    (h : DataW.trod enc P w base (fun _ => true) held fuel tsdc [v] = some x) : ∃ L : List Dc, DcS w v L ∧ DcSL L := by
  have mf := max_fits
  rcases open_slice htsdc h with ⟨hcs, _⟩ | ⟨a, len, cap, m, n, D, Pl, hcs, _, hl, hm, hmm, _, hx⟩
  · simp only [List.cons.injEq, and_true] at hcs
    exact ⟨[], ⟨none, 0, 0, 0, hcs, fun h => absurd h (by decide), fun j hj => absurd hj (Nat.not_lt_zero _)⟩, ⟨by simp, fun j hj => absurd hj (Nat.not_lt_zero _)⟩⟩
  · simp only [List.cons.injEq, and_true] at hcs
    have hmc : m = cap := by simpa using hmm
    have each : ∀ i, i < len → ∃ d : Dc, ∃ v7, (w.cell? (a.add (i * 9)) = some (.int .i64 d.kind) ∧ w.cell? (a.add (i * 9 + 1)) = some (.int .i64 d.x1) ∧ w.cell? (a.add (i * 9 + 2)) = some (.int .i64 d.y1) ∧ w.cell? (a.add (i * 9 + 3)) = some (.int .i64 d.x2) ∧ w.cell? (a.add (i * 9 + 4)) = some (.int .i64 d.y2) ∧ w.cell? (a.add (i * 9 + 5)) = some (.int .i64 d.dir) ∧ w.cell? (a.add (i * 9 + 6)) = some (.int .i64 d.cost) ∧ w.cell? (a.add (i * 9 + 7)) = some v7 ∧ w.cell? (a.add (i * 9 + 8)) = some (.int .i64 d.node)) ∧ DcV w d v7 ∧ DcL d := by
      intro i hi
      obtain ⟨cs', h1, h2⟩ := hx i (by omega)
      rw [cedc] at h1
      obtain ⟨_, hlen, hcell⟩ := World.cells?_some h1
      obtain ⟨d, v7, rfl, hv, hL⟩ := dc_of hq cq htb hu cu ctb hedc cedc odc ydc h2
      have e0 := hcell 0 (by omega)
      have e1 := hcell 1 (by omega)
      have e2 := hcell 2 (by omega)
      have e3 := hcell 3 (by omega)
      have e4 := hcell 4 (by omega)
      have e5 := hcell 5 (by omega)
      have e6 := hcell 6 (by omega)
      have e7 := hcell 7 (by omega)
      have e8 := hcell 8 (by omega)
      rw [add_add] at e0 e1 e2 e3 e4 e5 e6 e7 e8
      exact ⟨d, v7, ⟨by simpa using e0, by simpa using e1, by simpa using e2, by simpa using e3, by simpa using e4, by simpa using e5, by simpa using e6, by simpa using e7, by simpa using e8⟩, hv, hL⟩
    have : Inhabited Dc := ⟨.zero⟩
    obtain ⟨S, hS⟩ := choose_lt (α := Dc) each
    have hlen : ((List.range len).map S).length = len := by simp
    by_cases h0 : len = 0
    · subst h0
      exact ⟨[], ⟨some a, 0, 0, cap, hcs, fun h => absurd h (by decide), fun j hj => absurd hj (Nat.not_lt_zero _)⟩, ⟨by simp, fun j hj => absurd hj (Nat.not_lt_zero _)⟩⟩
    · obtain ⟨b, off, spot⟩ := a
      have hspot : spot = none := by
        obtain ⟨_, hh, _⟩ := hS 0 (by omega)
        simpa [Addr.add] using World.cell?_spot hh.1
      subst hspot
      refine ⟨(List.range len).map S, ⟨_, b, off, cap, by rw [hcs, hlen], fun _ => rfl, fun j hj => ?_⟩, ⟨by omega, fun j hj => ?_⟩⟩
      · rw [hlen] at hj
        rw [range_getD S _ _ _ hj]
        obtain ⟨v7, ⟨k0, k1, k2, k3, k4, k5, k6, k7, k8⟩, hv, _⟩ := hS j hj
        simp only [Go.WideShapes.add_plain] at k0 k1 k2 k3 k4 k5 k6 k7 k8
        exact ⟨v7, ⟨k0, k1, k2, k3, k4, k5, k6, k7, k8⟩, hv⟩
      · rw [hlen] at hj
        rw [range_getD S _ _ _ hj]
        obtain ⟨_, _, _, hn⟩ := hS j hj
        exact hn
end Go.Proofs.YtijdlbanfdhfnaaGreatDoor

/-
  The walk of impl.RunFleet.
  A slice of bytes that came in, as a text.
  Slices of bytes and of numbers that came in, and lists of lists.
  Lists of lists that came in.
-/
import Derived.Test.YteicpjbeihabnaaDoorJRunFleetITK
import Derived.Test.YteicpjbeihabnaaDoorJRunFleetSTF
import Derived.Test.YteicpjbeihabnaaDoorJRunFleetB0
import Derived.Laws.BytesArg
import Derived.ProofKit
import Derived.OpenShut
import Derived.Deep.Slices
import Derived.Test.YteicpjbeihabnaaDoorJRunFleetIIS0
namespace Go.Proofs.YteicpjbeihabnaaDoor
open Go.RowKit

set_option maxHeartbeats 4000000 in
set_option maxRecDepth 1000000 in
theorem implRn_one (tk : Int) (d : Tb) (v2 v3 v4 : Value) (L : List Ro) (u : Value) (w : World) (hb : TbB d) (hL : L.length ≤ 1048576) (hd : TbL d) (hRo : RoL L) (hmv : MvOk w) (hT : Lib.Utf8Tabs 2 3 w) (h : TbV w d v2 v3 v4) (hu : RoS w u L) :
    Calls Tryd.prog 34 #[tbagg d v2 v3 v4, u, .int .i64 tk] w fun e w' => ∃ v, e = .returned (rnagg (rnC tk d L) (rnT tk d L) v) ∧ RoNw w w' v (rnF tk d L) ∧ Below w.heap.size w w' := by
  have HNF := hide (fun V (hV : Below w.heap.size w V) => newFleet_any d v2 v3 v4 L u V hb hL hd hRo (hmv.below hV) (Utf8Tabs_below hT hV) (h.below hV) (hu.below hV))
  have HTK := hide (fun rv (n : Nat) F R M W V (hW : Below w.heap.size w W) hV hf hR hM hRV hok hn => run_any d v2 v3 v4 rv L n F R M W V hb (hmv.below hW) (h.below hW) hV hf hR hM hRV hok hn)
  obtain ⟨au, cu, rfl⟩ := hu.slice
  obtain ⟨a2, c2, rfl⟩ := h.targets.slice
  obtain ⟨a3, c3, rfl⟩ := h.dist.slice
  obtain ⟨a4, c4, rfl⟩ := h.hop.slice
  clear h hb hu hRo hd hmv hT
  unfold tbagg at HNF ⊢
  obtain ⟨X, Y, T, Ds, Hs⟩ := d
  simp only at HNF ⊢
  obtain ⟨W0, hW0⟩ : ∃ W, (w.alloc (.cells #[.int .i64 X, .int .i64 Y, .slice a2 T.length c2, .slice a3 Ds.length c3, .slice a4 Hs.length c4] 31)).alloc (.cells #[.int .i64 0, .int .i64 0, .slice none 0 0] 57) = W := ⟨_, rfl⟩
  have hB0 : Below w.heap.size w W0 := by rw [← hW0]; exact ((Below.refl _ _).alloc (Nat.le_refl _) _).alloc (by simp) _
  have hA0 : Blk W0 w.heap.size 31 #[.int .i64 X, .int .i64 Y, .slice a2 T.length c2, .slice a3 Ds.length c3, .slice a4 Hs.length c4] := by rw [← hW0]; exact (Blk.new _ _ _).alloc _
  have hA1 : Blk W0 (w.heap.size + 1) 57 #[.int .i64 0, .int .i64 0, .slice none 0 0] := by
    rw [← hW0]
    have e : (w.alloc (.cells #[.int .i64 X, .int .i64 Y, .slice a2 T.length c2, .slice a3 Ds.length c3, .slice a4 Hs.length c4] 31)).heap.size = w.heap.size + 1 := by simp
    rw [← e]
    exact Blk.new _ _ _
  have HA1 := hide hA1
  have hz1 := hA1.lt
  have z0 := hA0.cell 0
  have z1 := hA0.cell 1
  have z2 := hA0.cell 2
  have z3 := hA0.cell 3
  have z4 := hA0.cell 4
  simp only [List.getElem?_toArray, List.getElem?_cons_succ, List.getElem?_cons_zero] at z0 z1 z2 z3 z4
  have HB := hide hB0
  have HTC := hide (HNF.out W0 hB0)
  have hW := hW0
  clear hW0 hB0 HNF hA0 hA1
  go_enter Tryd.func34, Tryd.ntmps34
  go_wp2_with fail
  refine HTC.out.mono ?_
  rintro e w1 ⟨hn, hb1⟩
  have HB1 : Hid (Below w.heap.size w w1) := HB.out.trans (hb1.mono HB.out.size)
  have HB01 := hide hb1
  clear hb1 z0 z1 z2 z3 z4 hW HTC
  have HR1 := hide (HA1.out.below HB01.out)
  have q0 := HR1.out.cell 0
  have q1 := HR1.out.cell 1
  have q2 := HR1.out.cell 2
  simp only [List.getElem?_toArray, List.getElem?_cons_succ, List.getElem?_cons_zero] at q0 q1 q2
  have f0 := HR1.out.frozen 0
  have f1 := HR1.out.frozen 1
  have f2 := HR1.out.frozen 2
  rcases hn with ⟨hno, rfl⟩ | ⟨hyes, F, R, M, rv, rfl, hfl, hF, hR, hM⟩
  · have HR : Hid (¬ RnIn tk ⟨X, Y, T, Ds, Hs⟩ L) := fun h => hno h.1
    clear hno
    go_wp2
    (try simp only [Exit.inBlock, Exit.then])
    refine bodyPost_ret (results_cell_row rfl _ _ (w.heap.size + 1) 57 #[.int .i64 1, .int .i64 0, .slice none 0 0] (0, 0) _ rfl (rep_set HR1.out _ _ _) Tryd.underlying57 rfl (by kernel_rfl)) rfl ?_
    refine ⟨.slice none 0 0, ?_, ?_, rep_below HB1.out (by omega) _ _ _⟩
    · unfold rnagg rnC rnT
      rw [rnX_no HR.out]
      rfl
    · unfold rnF
      rw [rnX_no HR.out]
      exact ro_nil _ _ _
  have HOK := hide hyes
  by_cases t1 : tk < 0
  · have d1 : decide (tk < 0) = true := decide_eq_true t1
    have HR : Hid (¬ RnIn tk ⟨X, Y, T, Ds, Hs⟩ L) := fun h => by have := h.2.1; omega
    clear t1 hyes hfl
    go_wp2
    (try simp only [Exit.inBlock, Exit.then])
    refine bodyPost_ret (results_cell_row rfl _ _ (w.heap.size + 1) 57 #[.int .i64 1, .int .i64 0, .slice none 0 0] (0, 0) _ rfl (rep_set HR1.out _ _ _) Tryd.underlying57 rfl (by kernel_rfl)) rfl ?_
    refine ⟨.slice none 0 0, ?_, ?_, rep_below HB1.out (by omega) _ _ _⟩
    · unfold rnagg rnC rnT
      rw [rnX_no HR.out]
      rfl
    · unfold rnF
      rw [rnX_no HR.out]
      exact ro_nil _ _ _
  have d1 : decide (tk < 0) = false := decide_eq_false t1
  by_cases t2 : 5000 < tk
  · have d2 : decide (5000 < tk) = true := decide_eq_true t2
    have HR : Hid (¬ RnIn tk ⟨X, Y, T, Ds, Hs⟩ L) := fun h => by have := h.2.2; omega
    clear t1 t2 hyes hfl
    go_wp2
    (try simp only [Exit.inBlock, Exit.then])
    refine bodyPost_ret (results_cell_row rfl _ _ (w.heap.size + 1) 57 #[.int .i64 1, .int .i64 0, .slice none 0 0] (0, 0) _ rfl (rep_set HR1.out _ _ _) Tryd.underlying57 rfl (by kernel_rfl)) rfl ?_
    refine ⟨.slice none 0 0, ?_, ?_, rep_below HB1.out (by omega) _ _ _⟩
    · unfold rnagg rnC rnT
      rw [rnX_no HR.out]
      rfl
    · unfold rnF
      rw [rnX_no HR.out]
      exact ro_nil _ _ _
  have d2 : decide (5000 < tk) = false := decide_eq_false t2
  obtain ⟨n, rfl⟩ : ∃ n : Nat, tk = n := ⟨tk.toNat, by omega⟩
  have HR : Hid (RnIn (n : Int) ⟨X, Y, T, Ds, Hs⟩ L) := ⟨hyes, by omega, by omega⟩
  have HTI := hide (HTK.out rv n F R M W0 w1 HB.out HB01.out hfl hR hM (fun h0 => by obtain ⟨cur, h1, _⟩ := hfl.row.blk h0; exact h1.lt) hyes (by omega))
  have hwR : w.heap.size ≤ R := Nat.le_trans HB.out.size hR
  have HWR := hide hwR
  have HWM : Hid (w.heap.size ≤ M) := Nat.le_trans HB.out.size hM
  have HR0 : Hid (w.heap.size + 1 ≠ R ∧ w.heap.size + 1 ≠ M ∧ w.heap.size + 1 ≠ F) := by show _ ∧ _; omega
  obtain ⟨ar, cr, hrv, _⟩ := hfl.row.slc
  subst hrv
  have HLL := hide (runN_len ⟨X, Y, T, Ds, Hs⟩ n L 0)
  obtain ⟨Q, hQ⟩ : ∃ q, runN ⟨X, Y, T, Ds, Hs⟩ n L 0 = q := ⟨_, rfl⟩
  have HQE : Hid (rnX (n : Int) ⟨X, Y, T, Ds, Hs⟩ L = Q) := by show _ = _; rw [rnX_yes HR.out, hQ]
  rw [hQ] at HTI HLL
  obtain ⟨qc, qm, qL⟩ := Q
  simp only at HTI HLL
  clear hyes hfl hF hR hM hwR HTK hQ t1 t2
  go_wp2_with fail
  refine HTI.out.mono ?_
  rintro e w2 ⟨rfl, hf2, hw2⟩
  have HF2 := hide hf2
  have y5 := hf2.blk.cell 5
  simp only [List.getElem?_toArray, List.getElem?_cons_succ, List.getElem?_cons_zero] at y5
  have HR2 : Hid (Blk w2 (w.heap.size + 1) 57 #[.int .i64 0, .int .i64 0, .slice none 0 0]) := (hw2.blk _ HR1.out.lt (by have := HR0.out; simp; omega)).trans HR1.out
  have HB2 : Hid (Below w.heap.size w w2) := HB1.out.trans (hw2.below (fun g hg => by
    have h1 := HWR.out
    have h2 := HWM.out
    simp at hg
    rcases hg with rfl | rfl
    · exact h1
    · exact h2) HB1.out.size)
  clear q0 q1 q2 f0 f1 f2
  have q0 := HR2.out.cell 0
  have q1 := HR2.out.cell 1
  have q2 := HR2.out.cell 2
  simp only [List.getElem?_toArray, List.getElem?_cons_succ, List.getElem?_cons_zero] at q0 q1 q2
  have f0 := HR2.out.frozen 0
  have f1 := HR2.out.frozen 1
  have f2 := HR2.out.frozen 2
  clear hf2 hw2 HTI
  go_wp2
  (try simp only [Exit.inBlock, Exit.then])
  refine bodyPost_ret (results_cell_row rfl _ _ (w.heap.size + 1) 57 #[.int .i64 qc, .int .i64 qm, .slice ar L.length cr] (0, 0) _ rfl (rep_set HR2.out _ _ _) Tryd.underlying57 rfl (by kernel_rfl)) rfl ?_
  refine ⟨.slice ar L.length cr, ?_, ?_, rep_below HB2.out (by omega) _ _ _⟩
  · unfold rnagg rnC rnT
    rw [HQE.out]
  · unfold rnF
    rw [HQE.out]
    exact (HF2.out.row.keep (fun _ => rep_blk _ _ _ (by have := HR0.out; omega) _ _ _)).rf HWR.out
theorem implRn_any (tk : Int) (d : Tb) (v2 v3 v4 : Value) (L : List Ro) (u : Value) (w : World) (hb : TbB d) (hL : L.length ≤ 1048576) (hd : TbL d) (hRo : RoL L) (hmv : MvOk w) (hT : Lib.Utf8Tabs 2 3 w) (h : TbV w d v2 v3 v4) (hu : RoS w u L) :
    Calls Tryd.prog 34 #[tbagg d v2 v3 v4, u, .int .i64 tk] w fun e w' => ∃ v bl, e = .returned (.agg #[.int .i64 (rnC tk d L), .int .i64 (rnT tk d L), v]) ∧ RoF w' v (rnF tk d L) bl ∧ Fr w w' bl ∧ Below w.heap.size w w' :=
  (implRn_one tk d v2 v3 v4 L u w hb hL hd hRo hmv hT h hu).mono fun _ _ ⟨v, h1, ⟨bl, h2, h3⟩, h4⟩ => ⟨v, bl, h1, h2, h3, h4⟩
end Go.Proofs.YteicpjbeihabnaaDoor

namespace Go.Proofs.YteicpjbeihabnaaDoor
open Go.ChangeShapes Go.WideShapes Go.ChangeAt Go.RowKit

/-- What is told of a slice of bytes that came in. -/
def IsRow (k : IntKind) (w : World) (a : Option Addr) (len cap : Nat) (zs : List Int) : Prop :=
  (a = none ∧ len = 0 ∧ cap = 0 ∧ zs = []) ∨
  ∃ x, a = some x ∧ len ≤ cap ∧ cap ≤ maxLen ∧ zs.length = cap ∧ (∀ i, i < zs.length → w.cell? (x.add i) = some (.int k (zs.getD i 0))) ∧ ∀ n ∈ zs, (Lit.int k n).wf = true

/-- The text that a slice of bytes holds. -/
theorem text_of_row {w : World} {a : Option Addr} {len cap : Nat} {zs : List Int} (h : IsRow .u8 w a len cap zs) :
    ∃ (s : ByteArray) (b off : Nat), s.size = len ∧ (0 < s.size → a = some ⟨b, off, none⟩) ∧ ∀ j, j < s.size → w.cell? ⟨b, off + j, none⟩ = some (bts s j) := by
  rcases h with ⟨rfl, rfl, rfl, rfl⟩ | ⟨x, rfl, hl, _, hz, hcell, hwf⟩
  · exact ⟨ByteArray.empty, 0, 0, rfl, fun h => absurd h (by decide), fun j hj => absurd hj (Nat.not_lt_zero _)⟩
  · have hsz : (strOfNums (zs.take len)).size = len := by rw [strOfNums_size]; simp; omega
    by_cases h0 : len = 0
    · exact ⟨strOfNums (zs.take len), 0, 0, hsz, fun h => by omega, fun j hj => by omega⟩
    · obtain ⟨b, off, rfl, hc⟩ := ints_at hcell (by omega)
      refine ⟨strOfNums (zs.take len), b, off, hsz, fun _ => rfl, fun j hj => ?_⟩
      have hj' : j < zs.length := by omega
      rw [hc j hj']
      have hw := hwf zs[j] (List.getElem_mem hj')
      have h1 : IntKind.u8.min = 0 := rfl
      have h2 : IntKind.u8.max = 255 := rfl
      simp only [Lit.wf, Bool.and_eq_true, decide_eq_true_eq] at hw
      have hb : 0 ≤ zs[j] ∧ zs[j] ≤ 255 := by omega
      have e : (strOfNums (zs.take len)).get! j = UInt8.ofNat zs[j].toNat := by
        have hjt : j < ((zs.take len).map fun n => UInt8.ofNat n.toNat).toArray.size := by simp; omega
        show ((zs.take len).map fun n => UInt8.ofNat n.toNat).toArray[j]! = _
        rw [getElem!_pos _ j hjt]
        simp
      have e2 : (UInt8.ofNat zs[j].toNat).toNat = zs[j].toNat := by rw [UInt8.toNat_ofNat']; omega
      have e3 : zs.getD j 0 = zs[j] := by simp [List.getD, hj']
      unfold bts
      rw [e, e2, e3, Int.toNat_of_nonneg hb.1]

end Go.Proofs.YteicpjbeihabnaaDoor

namespace Go.Proofs.YteicpjbeihabnaaDoor
open Go.ChangeShapes Go.WideShapes Go.ChangeAt Go.RowKit Go.Deep

theorem max_fits : (maxLen : Int) ≤ 9223372036854775807 := by unfold maxLen; omega

theorem bs_of {H : Type} {enc : TypeId × Value → H} {P : Program} {w : World} {base : Nat} {held : Bool} {t e : TypeId} (ht : P.underlying t = some (.slice e)) (he : P.underlying e = some (.int .u8)) (hc : P.cellsOf e = 1) {fuel : Nat} {v : Value} {x : DataW H × List MemPlace}
    (h : DataW.trod enc P w base (fun _ => true) held fuel t [v] = some x) : ∃ s : ByteArray, BS w v s ∧ (s.size : Int) ≤ 9223372036854775807 := by
  have mf := max_fits
  rcases open_ints ht he hc h with ⟨hcs, _⟩ | ⟨a, l, c, zs, hcs, _, hl, hm, hz, _, hcell, hwz⟩
  · simp only [List.cons.injEq, and_true] at hcs
    exact ⟨.empty, ⟨none, 0, 0, 0, hcs, fun h => absurd h (by decide), fun j hj => absurd hj (Nat.not_lt_zero _)⟩, by decide⟩
  · simp only [List.cons.injEq, and_true] at hcs
    have hr : IsRow .u8 w (some a) l c zs := .inr ⟨_, rfl, hl, hm, by simpa using hz, hcell, hwz⟩
    obtain ⟨s, b, off, h1, h2, h3⟩ := text_of_row hr
    exact ⟨s, ⟨some a, b, off, c, by rw [hcs, h1], h2, h3⟩, by omega⟩

theorem cap_of {H : Type} {enc : TypeId × Value → H} {P : Program} {w : World} {base : Nat} {held : Bool} {t e : TypeId} (ht : P.underlying t = some (.slice e)) (he : P.underlying e = some (.int .u8)) (hc : P.cellsOf e = 1) {fuel : Nat} {a0 : Option Addr} {l0 c0 : Nat} {x : DataW H × List MemPlace}
    (h : DataW.trod enc P w base (fun _ => true) held fuel t [.slice a0 l0 c0] = some x) : l0 ≤ c0 := by
  rcases open_ints ht he hc h with ⟨hcs, _⟩ | ⟨a, l, c, zs, hcs, _, hl, _⟩
  · simp only [List.cons.injEq, and_true, Value.slice.injEq] at hcs
    omega
  · simp only [List.cons.injEq, and_true, Value.slice.injEq] at hcs
    omega
theorem is_of {H : Type} {enc : TypeId × Value → H} {P : Program} {w : World} {base : Nat} {held : Bool} {t e : TypeId} (ht : P.underlying t = some (.slice e)) (he : P.underlying e = some (.int .i64)) (hc : P.cellsOf e = 1) {fuel : Nat} {v : Value} {x : DataW H × List MemPlace}
    (h : DataW.trod enc P w base (fun _ => true) held fuel t [v] = some x) : ∃ l : List Int, IS w v l ∧ IL l := by
  have mf := max_fits
  rcases open_ints ht he hc h with ⟨hcs, _⟩ | ⟨a, l, c, zs, hcs, _, hl, hm, hz, _, hcell, hwf⟩
  · simp only [List.cons.injEq, and_true] at hcs
    exact ⟨[], ⟨none, 0, 0, 0, hcs, fun h => absurd h (by decide), fun j hj => absurd hj (Nat.not_lt_zero _)⟩, ⟨by simp, fun j hj => absurd hj (Nat.not_lt_zero _)⟩⟩
  · simp only [List.cons.injEq, and_true] at hcs
    have hzl : zs.length = c := by simpa using hz
    have hlen : (zs.take l).length = l := by rw [List.length_take]; omega
    by_cases h0 : l = 0
    · subst h0
      exact ⟨[], ⟨some a, 0, 0, c, hcs, fun h => absurd h (by decide), fun j hj => absurd hj (Nat.not_lt_zero _)⟩, ⟨by simp, fun j hj => absurd hj (Nat.not_lt_zero _)⟩⟩
    · obtain ⟨b, off, rfl, hc⟩ := ints_at hcell (by omega)
      refine ⟨zs.take l, ⟨_, b, off, c, by rw [hcs, hlen], fun _ => rfl, fun j hj => ?_⟩, ⟨by omega, fun j hj => ?_⟩⟩
      rotate_left
      · rw [List.getD_eq_getElem?_getD, List.getElem?_eq_getElem hj, Option.getD_some]
        exact hwf _ (List.mem_of_mem_take (List.getElem_mem hj))
      rw [hc j (by omega)]
      have : (zs.take l).getD j 0 = zs.getD j 0 := by
        simp only [List.getD_eq_getElem?_getD, List.getElem?_take]; rw [if_pos (by omega)]
      rw [this]

theorem range_getD {α : Type} (S : Nat → α) (z : α) (n j : Nat) (h : j < n) : ((List.range n).map S).getD j z = S j := by
  simp [List.getD, h]
end Go.Proofs.YteicpjbeihabnaaDoor

namespace Go.Proofs.YteicpjbeihabnaaDoor
open Go.ChangeShapes Go.WideShapes Go.ChangeAt Go.RowKit Go.Deep

theorem iis_of {H : Type} {enc : TypeId × Value → H} {P : Program} {w : World} {base : Nat} {held : Bool} {tiis q ti : TypeId} (htiis : P.underlying tiis = some (.slice ti)) (hti : P.underlying ti = some (.slice q)) (hq : P.underlying q = some (.int .i64)) (cq : P.cellsOf q = 1) (cti : P.cellsOf ti = 1) {fuel : Nat} {v : Value} {x : DataW H × List MemPlace}
    (h : DataW.trod enc P w base (fun _ => true) held fuel tiis [v] = some x) : ∃ L : List (List Int), IIS w v L ∧ IISL L := by
  have mf := max_fits
  rcases open_slice1 htiis cti h with ⟨hcs, _⟩ | ⟨a, len, cap, m, n, V, D, Pl, hcs, _, hl, hm, hmm, _, hx⟩
  · simp only [List.cons.injEq, and_true] at hcs
    exact ⟨[], ⟨none, 0, 0, 0, hcs, fun h => absurd h (by decide), fun j hj => absurd hj (Nat.not_lt_zero _)⟩, ⟨by simp, fun j hj => absurd hj (Nat.not_lt_zero _)⟩⟩
  · simp only [List.cons.injEq, and_true] at hcs
    have hmc : m = cap := by simpa using hmm
    obtain ⟨S, hS⟩ := choose_lt (α := List Int) (n := len) (p := fun i s => IS w (V i) s ∧ IL s) (fun i hi => is_of hti hq cq (hx i (by omega)).2)
    have hlen : ((List.range len).map S).length = len := by simp
    by_cases h0 : len = 0
    · subst h0
      exact ⟨[], ⟨some a, 0, 0, cap, hcs, fun h => absurd h (by decide), fun j hj => absurd hj (Nat.not_lt_zero _)⟩, ⟨by simp, fun j hj => absurd hj (Nat.not_lt_zero _)⟩⟩
    · obtain ⟨b, off, spot⟩ := a
      have hspot : spot = none := by simpa [Addr.add] using World.cell?_spot (hx 0 (by omega)).1
      subst hspot
      refine ⟨(List.range len).map S, ⟨_, b, off, cap, by rw [hcs, hlen], fun _ => rfl, fun j hj => ?_⟩, ⟨by omega, fun j hj => ?_⟩⟩
      · rw [hlen] at hj
        refine ⟨V j, ?_, ?_⟩
        · rw [← Go.WideShapes.add_plain]; exact (hx j (by omega)).1
        · rw [range_getD S _ _ _ hj]; exact (hS j hj).1
      · rw [hlen] at hj
        rw [range_getD S _ _ _ hj]; exact (hS j hj).2
end Go.Proofs.YteicpjbeihabnaaDoor

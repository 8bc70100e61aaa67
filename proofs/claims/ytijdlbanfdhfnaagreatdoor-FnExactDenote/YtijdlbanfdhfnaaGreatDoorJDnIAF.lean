/-
  impl's fits, area and what goes through an area.
  A region walked plainly, in a round of a range over a function: whatever it calls.
  What a round of a range over a function keeps.
-/
import Derived.Test.YtijdlbanfdhfnaaGreatDoorJDnRFN
import Derived.Shelf.Abstract
import Derived.OwnWalkIn
import Derived.TacticsInMore
import Derived.LoopNIn
import Derived.LoopIn
import Derived.Test.YtijdlbanfdhfnaaGreatDoorJDnT
import Derived.OrdersIn
import Derived.Deep.RegionHeld3
import Derived.RangeFuncCalls
import Derived.RangeFuncNested
import Derived.RangeFuncBound
import Derived.RangeFuncLeaves
import Derived.RangeFuncBox
import Derived.Shelf.RegionOpen
import Derived.Maps.AppendAt
namespace Go.Proofs.YtijdlbanfdhfnaaGreatDoor
open Go.RowKit

theorem inF_iff (W H : Nat) (d : Dc) : (insd W H d.x1 d.y1 && insd W H d.x2 d.y2) = true ↔ inF W H d := by
  unfold insd inF loI hiI
  simp only [Bool.and_eq_true, decide_eq_true_eq]
  by_cases h1 : d.x1 ≤ d.x2 <;> by_cases h2 : d.y1 ≤ d.y2 <;> simp only [h1, h2, if_true, if_false] <;> omega
set_option maxHeartbeats 2000000 in
set_option maxRecDepth 1000000 in
theorem fits_any (F W H : Nat) (d : Dc) (v7 : Value) (w : World) (h7 : ∃ a n c, v7 = .slice a n c)
    (f0 : w.cell? ⟨F, 0, none⟩ = some (.int .i64 (W : Nat))) (f1 : w.cell? ⟨F, 1, none⟩ = some (.int .i64 (H : Nat))) :
    Calls Tryz.prog 57 #[.pointer (some ⟨F, 0, none⟩), dcagg d v7] w fun e w' => e = .returned (.bool (insd W H d.x1 d.y1 && insd W H d.x2 d.y2)) ∧ Below w.heap.size w w' := by
  obtain ⟨a7, n7, c7, rfl⟩ := h7
  unfold dcagg
  obtain ⟨W1, hW1⟩ : ∃ W, w.alloc (.cells #[.int .i64 d.kind, .int .i64 d.x1, .int .i64 d.y1, .int .i64 d.x2, .int .i64 d.y2, .int .i64 d.dir, .int .i64 d.cost, .slice a7 n7 c7, .int .i64 d.node] 42) = W := ⟨_, rfl⟩
  have hB1 : Below w.heap.size w W1 := by rw [← hW1]; exact (Below.refl _ _).alloc (Nat.le_refl _) _
  have hBK : Blk W1 w.heap.size 42 #[.int .i64 d.kind, .int .i64 d.x1, .int .i64 d.y1, .int .i64 d.x2, .int .i64 d.y2, .int .i64 d.dir, .int .i64 d.cost, .slice a7 n7 c7, .int .i64 d.node] := by rw [← hW1]; exact Blk.new _ _ _
  have z1 := hBK.cell 1
  have z2 := hBK.cell 2
  have z3 := hBK.cell 3
  have z4 := hBK.cell 4
  simp only [List.getElem?_toArray, List.getElem?_cons_succ, List.getElem?_cons_zero] at z1 z2 z3 z4
  have x0 := cell_kept f0 hB1
  have x1 := cell_kept f1 hB1
  have HB1 := hide hB1
  have HI : Hid (∀ (x y : Int) (b : Bool) (V : World), insd (W : Nat) (H : Nat) x y = b → Calls Tryz.prog 72 #[.int .i64 (W : Nat), .int .i64 (H : Nat), .int .i64 x, .int .i64 y] V fun e w' => e = .returned (.bool b) ∧ w' = V) := fun x y b V e => by rw [← e]; exact isInside_any (W : Nat) (H : Nat) x y V
  obtain ⟨b1, hb1⟩ : ∃ b, insd (W : Nat) (H : Nat) d.x1 d.y1 = b := ⟨_, rfl⟩
  obtain ⟨b2, hb2⟩ : ∃ b, insd (W : Nat) (H : Nat) d.x2 d.y2 = b := ⟨_, rfl⟩
  rw [hb1, hb2]
  have HB1' := hide hb1
  have HB2' := hide hb2
  clear hb1 hb2
  have hW := hW1
  clear f0 f1 hB1 hBK hW1
  cases b1 with
  | false =>
    go_enter Tryz.func57, Tryz.ntmps57
    go_wp2_with fail
    go_quiet ((go_at_call 72; first | exact Calls.quiet_of_same (HI.out _ _ _ _ HB1'.out) | exact Calls.quiet_of_same (HI.out _ _ _ _ HB2'.out)))
    go_wp2
    go_ret
    exact ⟨rfl, below_drewN HB1.out _⟩
  | true =>
    go_enter Tryz.func57, Tryz.ntmps57
    go_wp2_with fail
    go_quiet ((go_at_call 72; first | exact Calls.quiet_of_same (HI.out _ _ _ _ HB1'.out) | exact Calls.quiet_of_same (HI.out _ _ _ _ HB2'.out)))
    go_wp2
    go_ret
    exact ⟨rfl, below_drewN HB1.out _⟩
set_option maxRecDepth 1000000 in
set_option maxHeartbeats 1000000 in
theorem area_in (n F : Nat) (d : Dc) (a7 : Option Addr) (n7 c7 : Nat) (w : World) :
    CallsIn Fence.wide n Tryz.prog 71 #[.pointer (some ⟨F, 0, none⟩), .agg #[.int .i64 d.kind, .int .i64 d.x1, .int .i64 d.y1, .int .i64 d.x2, .int .i64 d.y2, .int .i64 d.dir, .int .i64 d.cost, .slice a7 n7 c7, .int .i64 d.node]] w fun e w' => e = .returned (.func (.func 82) #[] #[.pointer (some ⟨w.heap.size + 1, 0, none⟩), .pointer (some ⟨w.heap.size, 0, none⟩)]) ∧ w' = (w.alloc (.cells #[.pointer (some ⟨F, 0, none⟩)] 54)).alloc (.cells #[.int .i64 d.kind, .int .i64 d.x1, .int .i64 d.y1, .int .i64 d.x2, .int .i64 d.y2, .int .i64 d.dir, .int .i64 d.cost, .slice a7 n7 c7, .int .i64 d.node] 42) := by
  refine callsIn_of_wp Tryz.func71 rfl trivial ?_ rfl
  simp only [Tryz.ntmps71, List.size_toArray, List.length_cons, List.length_nil, Nat.reduceAdd, Nat.reduceSub, Array.replicate_succ, Array.replicate_zero, List.push_toArray, List.append_toArray, List.nil_append, List.cons_append]
  gi_wp2
  go_ret
  exact ⟨rfl, rfl⟩
/-- What an area's walk reads. -/
structure ArE (V : World) (DB FB F W : Nat) (d : Dc) : Prop where
  x1 : V.cell? ⟨DB, 1, none⟩ = some (.int .i64 d.x1)
  y1 : V.cell? ⟨DB, 2, none⟩ = some (.int .i64 d.y1)
  x2 : V.cell? ⟨DB, 3, none⟩ = some (.int .i64 d.x2)
  y2 : V.cell? ⟨DB, 4, none⟩ = some (.int .i64 d.y2)
  fb : V.cell? ⟨FB, 0, none⟩ = some (.pointer (some ⟨F, 0, none⟩))
  fw : V.cell? ⟨F, 0, none⟩ = some (.int .i64 (W : Nat))
set_option maxRecDepth 1000000 in
set_option maxHeartbeats 4000000 in
theorem area1_in (n : Nat) (hn : 1 ≤ n) (l DB FB F W H : Nat) (d : Dc) (J : Nat → World → Prop) (V : World) (hW : W ≤ 40) (hH : H ≤ 40) (hin : inF W H d)
    (hE : ∀ k V, J k V → ArE V DB FB F W d)
    (hY : ∀ k V1, k < (arL W d).length → J k V1 → YieldAt Fence.wide (n - 1) Tryz.prog l #[.int .i64 ((arL W d).getD k 0)] V1 fun e V' => e = .returned (.bool true) ∧ J (k + 1) V') (h0 : J 0 V) :
    CallsIn Fence.wide n Tryz.prog 82 #[.func (.yield l) #[] #[], .pointer (some ⟨DB, 0, none⟩), .pointer (some ⟨FB, 0, none⟩)] V fun e V' => (∃ v, e = .returned v) ∧ J (arL W d).length V' := by
  have HY := hide hY
  have H0 := hide h0
  have HE := hide hE
  have hIN := hin
  obtain ⟨i1, i2, i3, i4⟩ := hin
  obtain ⟨xa, hxa⟩ : ∃ x : Nat, loI d.x1 d.x2 = x := ⟨(loI d.x1 d.x2).toNat, by omega⟩
  obtain ⟨ya, hya⟩ : ∃ x : Nat, loI d.y1 d.y2 = x := ⟨(loI d.y1 d.y2).toNat, by omega⟩
  have l1 := loI_le d.x1 d.x2
  have l2 := loI_le d.y1 d.y2
  obtain ⟨nx, hnx, hnx1⟩ : ∃ nx : Nat, hiI d.x1 d.x2 = ((xa + nx : Nat) : Int) - 1 ∧ 1 ≤ nx := ⟨(hiI d.x1 d.x2 - loI d.x1 d.x2 + 1).toNat, by omega, by omega⟩
  obtain ⟨ny, hny, hny1⟩ : ∃ ny : Nat, hiI d.y1 d.y2 = ((ya + ny : Nat) : Int) - 1 ∧ 1 ≤ ny := ⟨(hiI d.y1 d.y2 - loI d.y1 d.y2 + 1).toNat, by omega, by omega⟩
  have HL : Hid (arL W d = arT W (xa : Int) (ya : Int) nx ny) := by
    show _ = _
    unfold arL
    rw [hxa, hya, show (hiI d.x1 d.x2 - (xa : Int) + 1).toNat = nx by omega, show (hiI d.y1 d.y2 - (ya : Int) + 1).toNat = ny by omega]
  have HLN : Hid ((arL W d).length = ny * nx) := by show _ = _; rw [HL.out, arT_length]
  have HG : Hid (∀ j i, j < ny → i < nx → (arL W d).getD (j * nx + i) 0 = ((ya + j : Nat) : Int) * W + ((xa + i : Nat) : Int)) := fun j i hj hi => by
    rw [HL.out, List.getD_eq_getElem?_getD, arT_get W _ _ nx ny j i hj hi]
    simp
  have HYB : Hid (ya + ny ≤ 40 ∧ xa + nx ≤ 40 ∧ 1 ≤ nx ∧ 1 ≤ ny) := ⟨by omega, by omega, hnx1, hny1⟩
  obtain ⟨xb, hxb⟩ : ∃ x : Nat, xa + nx = x + 1 := ⟨xa + nx - 1, by omega⟩
  obtain ⟨yb, hyb⟩ : ∃ x : Nat, ya + ny = x + 1 := ⟨ya + ny - 1, by omega⟩
  have HXB := hide hxb
  have HYB2 := hide hyb
  have HMM : Hid ((if d.y2 < d.y1 then d.y2 else d.y1) = (ya : Int) ∧ (if d.y1 < d.y2 then d.y2 else d.y1) = (yb : Int) ∧ (if d.x2 < d.x1 then d.x2 else d.x1) = (xa : Int) ∧ (if d.x1 < d.x2 then d.x2 else d.x1) = (xb : Int)) := by
    unfold loI at hxa hya
    unfold hiI at hnx hny
    refine ⟨?_, ?_, ?_, ?_⟩
    · by_cases q : d.y1 ≤ d.y2
      · rw [if_pos q] at hya; rw [if_neg (by omega)]; exact hya
      · rw [if_neg q] at hya; rw [if_pos (by omega)]; exact hya
    · by_cases q : d.y1 ≤ d.y2
      · rw [if_pos q] at hny
        by_cases e : d.y1 < d.y2
        · rw [if_pos e]; omega
        · rw [if_neg e]; omega
      · rw [if_neg q] at hny; rw [if_neg (by omega)]; omega
    · by_cases q : d.x1 ≤ d.x2
      · rw [if_pos q] at hxa; rw [if_neg (by omega)]; exact hxa
      · rw [if_neg q] at hxa; rw [if_pos (by omega)]; exact hxa
    · by_cases q : d.x1 ≤ d.x2
      · rw [if_pos q] at hnx
        by_cases e : d.x1 < d.x2
        · rw [if_pos e]; omega
        · rw [if_neg e]; omega
      · rw [if_neg q] at hnx; rw [if_neg (by omega)]; omega
  have HCA := hide (fun (x y : Nat) (V : World) (hV : V.cell? ⟨F, 0, none⟩ = some (.int .i64 (W : Nat))) (h1 : x ≤ 40) (h2 : y ≤ 40) => cellAt_any F W (x : Int) (y : Int) V hV hW (by omega) (by omega))
  have hb1 : ya ≤ 40 := by omega
  have hb2 : yb ≤ 40 := by omega
  have hb3 : xa ≤ 40 := by omega
  have hb4 : xb ≤ 40 := by omega
  clear hY h0 hE hxa hya hnx hny l1 l2 i1 i2 i3 i4 hnx1 hny1 hxb hyb hIN
  refine callsIn_of_wp Tryz.func82 rfl trivial ?_ rfl
  simp only [Tryz.ntmps82, List.size_toArray, List.length_cons, List.length_nil, Nat.reduceAdd, Nat.reduceSub, Array.replicate_succ, Array.replicate_zero, List.push_toArray, List.append_toArray, List.nil_append, List.cons_append]
  obtain ⟨z1, z2, z3, z4, zf, zw⟩ := HE.out 0 V H0.out
  obtain ⟨m1, m2, m3, m4⟩ := HMM.out
  gi_wp2
  clear z1 z2 z3 z4 zf zw
  gi_loopw [4] (fun yx wr => ∃ j : Nat, j ≤ ny ∧ yx = .int .i64 ((ya + j : Nat) : Int) ∧ Hid (J (j * nx) wr)) (fun yx _ => ya + ny - (intOf yx).toNat)
  case atStart => exact ⟨0, by omega, rfl, by rw [Nat.zero_mul]; exact H0⟩
  case round =>
    obtain ⟨j, hj, rfl, HJ⟩ := hrel
    rename World => V1
    obtain ⟨z1, z2, z3, z4, zf, zw⟩ := HE.out _ V1 HJ.out
    obtain ⟨y, hy⟩ : ∃ y, ya + j = y := ⟨_, rfl⟩
    rw [hy]
    have HY1 := hide hy
    by_cases hjt : j < ny
    · have hyt : y ≤ yb := by have := HYB2.out; omega
      have hyti : (y : Int) ≤ (yb : Int) := by omega
      have hy40 : y ≤ 40 := by omega
      clear hy
      gi_wp2
      clear z1 z2 z3 z4 zf zw
      gi_loopw [5] (fun xx wr => ∃ i : Nat, i ≤ nx ∧ xx = .int .i64 ((xa + i : Nat) : Int) ∧ Hid (J (j * nx + i) wr)) (fun xx _ => xa + nx - (intOf xx).toNat)
      case atStart => exact ⟨0, by omega, rfl, by rw [Nat.add_zero]; exact HJ⟩
      case round =>
        clear HJ
        obtain ⟨i, hi, rfl, HJ⟩ := hrel
        rename World => V2
        obtain ⟨z1, z2, z3, z4, zf, zw⟩ := HE.out _ V2 HJ.out
        obtain ⟨x, hx⟩ : ∃ x, xa + i = x := ⟨_, rfl⟩
        rw [hx]
        have HX1 := hide hx
        by_cases hit : i < nx
        · have hxt : x ≤ xb := by have := HXB.out; omega
          have hxti : (x : Int) ≤ (xb : Int) := by omega
          have hx40 : x ≤ 40 := by omega
          have HK : Hid (j * nx + i < (arL W d).length) := by
            have h1 : (j + 1) * nx ≤ ny * nx := Nat.mul_le_mul_right _ hjt
            rw [Nat.succ_mul] at h1
            have h2 := HLN.out
            show _ < _
            omega
          obtain ⟨fn, tmps, assign, body, hyy, hR⟩ := HY.out (j * nx + i) V2 HK.out HJ.out
          rw [HG.out j i hjt hit, HY1.out, HX1.out] at hyy
          clear hx
          gi_wp2_with (refine ⟨trivial, ?_⟩; gi_at_call 28; refine (callsIn_wide.2 (HCA.out x y _ zw hx40 hy40)).mono ?_; rintro e w' ⟨rfl, rfl⟩)
          refine hR.mono ?_
          rintro e V3 ⟨rfl, hJ3⟩
          have HJ3 : Hid (J (j * nx + (i + 1)) V3) := hJ3
          clear hJ3 hyy hR z1 z2 z3 z4 zf zw
          gi_wp2
          go_roundw
          case rel => exact ⟨i + 1, by omega, by rw [← HX1.out]; go_num, HJ3⟩
          case measure =>
            have h1 := HX1.out
            simp [intOf]
            omega
        · obtain rfl : i = nx := by omega
          have hxn : ¬ x ≤ xb := by have := HXB.out; omega
          have hxni : ¬ (x : Int) ≤ (xb : Int) := by omega
          have HJ2 : Hid (J ((j + 1) * i) V2) := by rw [Nat.succ_mul]; exact HJ.out
          clear hx hit
          gi_wp2
          go_roundw
          case rel => exact ⟨j + 1, by omega, by rw [← HY1.out]; go_num, HJ2⟩
          case measure =>
            have h1 := HY1.out
            simp [intOf]
            omega
    · obtain rfl : j = ny := by omega
      have hyn : ¬ y ≤ yb := by have := HYB2.out; omega
      have hyni : ¬ (y : Int) ≤ (yb : Int) := by omega
      have HJ2 : Hid (J (arL W d).length V1) := by rw [HLN.out]; exact HJ.out
      clear hy hjt
      gi_wp2
      go_end0
      exact ⟨⟨_, rfl⟩, HJ2.out⟩
end Go.Proofs.YtijdlbanfdhfnaaGreatDoor

namespace Go.Proofs.YtijdlbanfdhfnaaGreatDoor
open Go.RowKit

theorem rows_round {l n : Nat} {P : Program} {row : String} {args : Array Value} {w : World} {R : Value → World → Prop} (h : Rows P row args w R) : RowsIn (Fence.wide.inRound l) n P row args w R := fun c cs _ =>
  let ⟨v, w', r, s⟩ := h c cs; ⟨v, w', r, stepsIn_wide.2 s⟩
theorem upon_round {l n : Nat} {P : Program} {o : Oper} {a : Act} {K : Act → World → Prop} {Q : Exit → Act → World → Prop} {r : Result Next} (h : o.upon P a K Q r) : o.uponIn (Fence.wide.inRound l) n P a K Q r := by
  cases r with
  | ok x w =>
    cases x with
    | enter f args => exact ⟨fun e => (by cases e), CallsIn.inRound l (callsIn_wide.2 h)⟩
    | row row args => exact ⟨fun e => (by cases e), rows_round h⟩
    | round _ _ _ _ _ => exact h.elim
    | _ => exact h
  | halt x w => cases x <;> exact h
/-- Nothing is deferred. -/
def noDef (ops : Array Oper) : Bool := ops.toList.all fun o => match o.op with | .defer _ => false | _ => true
theorem noDef_at {ops : Array Oper} (h : noDef ops = true) {i : Nat} {o : Oper} (ho : ops[i]? = some o) : ∀ c, o.op ≠ .defer c := fun c e => by
  have h1 := (List.all_eq_true.1 h) o (by rw [← Array.getElem?_toList] at ho; exact List.mem_of_getElem? ho)
  rw [e] at h1
  cases h1
theorem any_round {l n : Nat} {P : Program} {md : Region.Mode} {ops : Array Oper} {Q : Exit → Act → World → Prop} {S : World → Prop} (hp : noDef ops = true) (hQ : ¬ LetsOut Q) :
    ∀ (fuel : Nat) (listed : Array Bool) (a : Act) (w : World), wpAnyH P md ops Q S fuel listed a w → wpAnyIn (Fence.wide.inRound l) n P md ops Q fuel listed a w
  | 0, _, _, _, h => h
  | fuel + 1, listed, a, w, h => by
    refine ⟨h.1, fun i hi => ?_⟩
    have h1 := h.2 i hi
    unfold wpOp at h1
    unfold wpOpIn
    cases ho : ops[i]? with
    | none =>
      rw [ho] at h1
      exact any_round hp hQ fuel _ _ _ h1.2
    | some o =>
      rw [ho] at h1
      simp only at h1 ⊢
      have hpo := noDef_at hp ho
      split
      · rename_i hw
        rw [if_pos hw] at h1
        rcases h1 with h1 | h1
        · refine Oper.wpIn_mono (K := fun a' w' => S w' ∧ wpAnyH P md ops Q S fuel (listed.setIfInBounds i true) a' w') (fun a' w' h' => any_round hp hQ fuel _ _ _ h'.2) ⟨fun f _ => trivial, ?_⟩
          rw [Oper.semAt_eq _ _ _ hpo]
          exact upon_round h1
        · exact absurd h1.2 hQ
      · rename_i hw
        rw [if_neg hw] at h1
        exact ⟨fun f _ => trivial, any_round hp hQ fuel _ _ _ h1.2⟩
theorem wpIn_region_round {l n id : Nat} {P : Program} {ops : Array Oper} {Q : Exit → Act → World → Prop} {S : World → Prop} {a : Act} {w : World} (hm : P.follows .mixedOrders = true) (hp : noDef ops = true) (hQ : ¬ LetsOut Q) (hS : S w.drew)
    (h : S w.drew → wpAnyH P .any ops Q S ops.size (Array.replicate ops.size false) a w.drew) : (Code.region id ops true).wpIn (Fence.wide.inRound l) n P Q a w :=
  wpIn_region_any hm (any_round hp hQ _ _ _ _ (h hS))
/-- Blocks of cells stay where another thing is put. -/
theorem blk_put {W : World} {l g : Nat} {t : TypeId} {cs : Array Value} {o o' : Obj} (h : Blk W g t cs) (ho : W.heap[l]? = some o) (hc : o.isCells = false) : Blk (W.putObj l o') g t cs := by
  refine (World.putObj_heap_other (fun e => ?_)).trans h
  subst e
  unfold Blk at h
  rw [h] at ho
  cases ho
  cases hc
/-- All but one block is as it was. -/
structure KpC (c : Nat) (w V : World) : Prop where
  os : V.os = w.os
  tape : V.tape = w.tape
  output : V.output = w.output
  size : w.heap.size ≤ V.heap.size
  blk : ∀ g, g < w.heap.size → g ≠ c → V.heap[g]? = w.heap[g]?
theorem KpC.of_below {c : Nat} {w V : World} (h : Below w.heap.size w V) : KpC c w V := ⟨h.os, h.tape, h.output, h.size, fun g hg _ => h.block g hg⟩
theorem KpC.trans {c : Nat} {a b d : World} (h : KpC c a b) (k : KpC c b d) : KpC c a d := ⟨k.os.trans h.os, k.tape.trans h.tape, k.output.trans h.output, Nat.le_trans h.size k.size, fun g hg hc => (k.blk g (Nat.lt_of_lt_of_le hg h.size) hc).trans (h.blk g hg hc)⟩
theorem KpC.set {c k : Nat} {a b : World} (h : KpC c a b) (v : Value) : KpC c a (b.setCell ⟨c, k, none⟩ v) := ⟨h.os, h.tape, h.output, by rw [World.size_setCell]; exact h.size, fun g hg hc => (Below.heap_setCell _ _ _ _ hc).trans (h.blk g hg hc)⟩
theorem KpC.put {c l : Nat} {a b : World} {o' : Obj} (h : KpC c a b) (hl : a.heap.size ≤ l) : KpC c a (b.putObj l o') := ⟨h.os, h.tape, h.output, by simp only [World.putObj, Array.size_setIfInBounds]; exact h.size, fun g hg hc => (World.putObj_heap_other (by omega)).trans (h.blk g hg hc)⟩
theorem KpC.cell {c : Nat} {a b : World} (h : KpC c a b) {g k : Nat} {v : Value} (hv : a.cell? ⟨g, k, none⟩ = some v) (hg : g ≠ c) : b.cell? ⟨g, k, none⟩ = some v :=
  (World.cell?_of_block (w := a) (a := ⟨g, k, none⟩) (h.blk g (World.block_lt_of_cell? _ _ hv) hg)).trans hv
theorem KpC.block {c : Nat} {a b : World} (h : KpC c a b) {g : Nat} {t : TypeId} {cs : Array Value} (hv : Blk a g t cs) (hg : g ≠ c) : Blk b g t cs := (h.blk g hv.lt hg).trans hv
theorem KpC.below {c B : Nat} {a b : World} (h : KpC c a b) (hB : B ≤ c) (hs : B ≤ a.heap.size) : Below B a b := ⟨h.os, h.tape, h.output, h.size, fun g hg => h.blk g (by omega) (by omega)⟩
end Go.Proofs.YtijdlbanfdhfnaaGreatDoor

namespace Go.Proofs.YtijdlbanfdhfnaaGreatDoor
open Go.RowKit Go.Shelf

/-- What is kept over a round: what lay below n₀, and the box of the source. -/
def KpB (n₀ Bn : Nat) (W W' : World) : Prop := Below n₀ W W' ∧ W'.cell? ⟨Bn, 0, none⟩ = W.cell? ⟨Bn, 0, none⟩

theorem below_grown {w w' : World} (hb : Below w.heap.size w w') : w.grownBy w' none := ⟨hb.os, hb.tape, hb.output, hb.size, fun k hk _ => hb.block k hk⟩
theorem kpB_t {n₀ Bn : Nat} {A B C : World} (h : KpB n₀ Bn A B) (k : KpB n₀ Bn B C) : KpB n₀ Bn A C := ⟨h.1.trans k.1, k.2.trans h.2⟩
theorem kpB_b {n₀ Bn : Nat} {w : World} (hn : n₀ ≤ w.heap.size) (hB : Bn < w.heap.size) (W : World) (l : Nat) (o o' : Obj) (hl : w.heap.size ≤ l) (h : W.heap[l]? = some o) (h1 : o.isCells = false) (h2 : o.isWalk = false) : KpB n₀ Bn W (W.putObj l o') :=
  ⟨belowK_b hn W l o o' hl h h1 h2, (belowK_b (n₀ := Bn + 1) (w := w) hB W l o o' hl h h1 h2).cell (p := ⟨Bn, 0, none⟩) (Nat.lt_succ_self _)⟩

theorem box_kept {W W' : World} {row : Option Nat} {B : Nat} {t : TypeId} {v : Value} (h : Boxed W B t v) (hg : W.grownBy W' row) (hr : ∀ r, row = some r → ∃ o : Obj, W.heap[r]? = some o ∧ o.isCells = false) : Boxed W' B t v :=
  h.kept hg (fun e' => by obtain ⟨o, ho, hc⟩ := hr B e'.symm; rw [show W.heap[B]? = _ from h] at ho; cases ho; cases hc)
end Go.Proofs.YtijdlbanfdhfnaaGreatDoor

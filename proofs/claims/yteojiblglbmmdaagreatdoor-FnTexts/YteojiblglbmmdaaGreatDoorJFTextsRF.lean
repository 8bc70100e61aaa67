/-
  The walk of the function that impl.scan answers: what it hands to the loop's body.
-/
import Derived.Test.YteojiblglbmmdaaGreatDoorJFTextsLB
import Derived.Test.YteojiblglbmmdaaGreatDoorJFTextsKP
import Derived.RangeFuncNested
import Derived.RangeFuncBound
import Derived.RangeFuncCalls
import Derived.RangeFuncLeaves
import Derived.RangeFuncBox
import Derived.Shelf.Abstract
import Derived.Shelf.RegionOpen
import Derived.OwnWalkIn
import Derived.TacticsInMore
import Derived.LoopNIn
import Derived.LoopIn
import Derived.Maps.AppendAt
namespace Go.Proofs.YteojiblglbmmdaaGreatDoor
open Go.RowKit Go.Shelf

attribute [local go_sem] Oper.semAt_some

/-- What is handed on: a token's kind, place and length, and whether it is one. -/
abbrev Tk := Nat × Nat × Nat × Bool
def encT (x : Tk) : Array Value := #[.agg #[.int .i64 (x.1 : Nat), .int .i64 (x.2.1 : Nat), .int .i64 (x.2.2.1 : Nat)], .bool x.2.2.2]

/-- All that is handed on, from p on. -/
def yl (s : ByteArray) : Nat → Nat → List Tk
  | 0, _ => []
  | f + 1, p =>
    if p < s.size then
      (if 0 < bl s p then yl s f (p + (bl s p).toNat)
      else if bl s p < 0 then [(0, p, 0, false)]
      else if (tok s p).2 = 0 then [(0, p, 0, false)]
      else ((tok s p).1, p, (tok s p).2, true) :: yl s f (p + (tok s p).2))
    else []
theorem yl_end {s : ByteArray} {f p : Nat} (h : ¬ p < s.size) : yl s f p = [] := by cases f <;> simp [yl, h]
theorem yl_step {s : ByteArray} {f p : Nat} (hf : s.size < p + f) (h : p < s.size) : ∃ g, f = g + 1 ∧ yl s f p =
      (if 0 < bl s p then yl s g (p + (bl s p).toNat)
      else if bl s p < 0 then [(0, p, 0, false)]
      else if (tok s p).2 = 0 then [(0, p, 0, false)]
      else ((tok s p).1, p, (tok s p).2, true) :: yl s g (p + (tok s p).2)) := by
  cases f with
  | zero => omega
  | succ f => exact ⟨f, rfl, by rw [yl, if_pos h]⟩

/-- What the library's variables hold. -/
structure LibOk (w : World) (m : Int) (te1 te2 : TypeId) (pe1 pe2 : Value) : Prop where
  tabs : Lib.Utf8Tabs 1 2 w
  max : w.cell? ⟨0, 0, none⟩ = some (.int .i64 m)
  syn : w.cell? ⟨4, 0, none⟩ = some (.iface te1 pe1)
  rng : w.cell? ⟨5, 0, none⟩ = some (.iface te2 pe2)
theorem LibOk.below {w w' : World} {m : Int} {te1 te2 : TypeId} {pe1 pe2 : Value} (h : LibOk w m te1 te2 pe1 pe2) (hb : Below w.heap.size w w') : LibOk w' m te1 te2 pe1 pe2 :=
  ⟨Utf8Tabs_below h.tabs hb, by rw [hb.cell (p := ⟨0, 0, none⟩) (World.block_lt_of_cell? _ _ h.max)]; exact h.max, by rw [hb.cell (p := ⟨4, 0, none⟩) (World.block_lt_of_cell? _ _ h.syn)]; exact h.syn, by rw [hb.cell (p := ⟨5, 0, none⟩) (World.block_lt_of_cell? _ _ h.rng)]; exact h.rng⟩

set_option maxRecDepth 1000000 in
set_option maxHeartbeats 2000000 in
theorem scan1_in (n : Nat) (hn : 1 ≤ n) (l Bn : Nat) (s : ByteArray) (hs : s.size ≤ 5000) (hok : chk s = (0, 0)) (m : Int) (te1 te2 : TypeId) (pe1 pe2 : Value) (J Jx : List Tk → World → Prop) (W w0 : World) (hJ : AbidesFrom W.heap.size J)
    (hY : ∀ pre x W1, J pre W1 → pre.length < (yl s (s.size + 1) 0).length → YieldAt Fence.wide (n - 1) Tryz.prog l (encT x) W1 fun e W' =>
      (e = .returned (.bool true) ∧ J (pre ++ [x]) W' ∧ KpB w0.heap.size Bn W1 W') ∨ (e = .returned (.bool false) ∧ Jx (pre ++ [x]) W'))
    (hBn : W.cell? ⟨Bn, 0, none⟩ = some (.string s)) (hlib : LibOk w0 m te1 te2 pe1 pe2) (hW : Below w0.heap.size w0 W) (h0 : J [] W) :
    CallsIn Fence.wide n Tryz.prog 33 #[.func (.yield l) #[] #[], .pointer (some ⟨Bn, 0, none⟩)] W fun e W' => (∃ v, e = .returned v) ∧
      ((∃ ys, ys = yl s (s.size + 1) 0 ∧ J ys W') ∨ (∃ pre, pre <+: yl s (s.size + 1) 0 ∧ Jx pre W')) := by
  obtain ⟨A, hA⟩ : ∃ A, yl s (s.size + 1) 0 = A := ⟨_, rfl⟩
  rw [hA] at hY ⊢
  have HA := hide hA
  have HJ := hide hJ
  have HY := hide hY
  have HL := hide hlib
  have HW := hide hW
  have H0 := hide h0
  have HOK : Hid (bnd s 0) := ⟨s.size + 1, by omega, hok⟩
  clear hA hJ hY hlib hW h0 hok
  refine callsIn_of_wp Tryz.func33 rfl trivial ?_ rfl
  simp only [Tryz.ntmps33, List.size_toArray, List.length_cons, List.length_nil, Nat.reduceAdd, Nat.reduceSub, Array.replicate_succ, Array.replicate_zero, List.push_toArray, List.append_toArray, List.nil_append, List.cons_append]
  gi_wp2
  gi_loopw [3] (fun ix wr => ∃ (p f : Nat) (pre : List Tk), ix = .int .i64 p ∧ p ≤ s.size ∧ s.size < p + f ∧ A = pre ++ yl s f p ∧ bnd s p ∧ J pre wr ∧ Below w0.heap.size w0 wr ∧ W.heap.size ≤ wr.heap.size ∧ wr.cell? ⟨Bn, 0, none⟩ = some (.string s)) (fun ix _ => s.size - (intOf ix).toNat)
  case atStart => exact ⟨0, s.size + 1, [], rfl, Nat.zero_le _, by omega, by rw [HA.out]; rfl, HOK.out, H0.out, HW.out, Nat.le_refl _, hBn⟩
  case round =>
    obtain ⟨p, f, pre, rfl, hp, hf, hA, hb, hJs, hbl, hWs, hcs⟩ := hrel
    have HAA := hide hA
    have HB := hide hb
    have HJS := hide hJs
    have HBL := hide hbl
    clear hA hb hJs hbl
    by_cases hlt : p < s.size
    · have d1 : decide ((p : Int) < (s.size : Int)) = true := decide_eq_true (by omega)
      obtain ⟨g, hfg, hst⟩ := yl_step hf hlt
      have hz := size_ext s p hp
      have HPK := fun w hT => pieceKind_any (s.extract p s.size) w (by omega) hT
      have HPS := fun w hT hM hE hR => pieceSize_any (s.extract p s.size) w m te1 te2 pe1 pe2 (by omega) (by omega) (bnd_rest hp HB.out) hT hM hE hR
      obtain ⟨k, hk⟩ : ∃ k, pk (s.extract p s.size) = k := ⟨_, rfl⟩
      obtain ⟨z, hzz⟩ : ∃ z, psz k (s.extract p s.size) = z := ⟨_, rfl⟩
      have hsp := piece_spec s p hlt k z hk hzz
      rw [hk] at HPK HPS
      rw [hzz] at HPS
      obtain ⟨r, hr⟩ : ∃ r, s.extract p s.size = r := ⟨_, rfl⟩
      have HPK' := hide HPK
      have HPS' := hide HPS
      have hfg' : f ≤ g + 1 := by omega
      have hk6 : k ≤ 6 := hsp.2.2.2
      have HSP := hide hsp
      have HST := hide hst
      rw [hr] at HPK' HPS'
      clear HPK HPS hk hzz hsp hst hfg hz
      have HSJ : Hid (∀ w', Below wr.heap.size wr w' → J pre w') := fun w' hb => HJ.out pre wr w' none HJS.out (below_grown hb) (fun r e => by cases e)
      by_cases h0 : z = 0
      · have t1 : ((z : Int) == 0) = true := by rw [beq_iff_eq]; omega
        have HE : Hid (A = pre ++ [(0, p, 0, false)]) := by
          have hh := HSP.out.1 h0
          show _ = _
          rw [HAA.out, HST.out, if_neg hh.1]
          by_cases hn : bl s p < 0
          · rw [if_pos hn]
          · rw [if_neg hn]
            rcases hh.2 with e | e
            · exact absurd e hn
            · rw [if_pos e]
        have hlen : pre.length < A.length := by rw [HE.out]; simp
        clear h0 HSP HST
        gi_wp2_with first | (refine ⟨trivial, ?_⟩; gi_at_call 34; refine (callsIn_wide.2 (HPK'.out _ (HL.out.below HBL.out).tabs)).mono ?_; rintro e w1 ⟨rfl, hb1⟩; have hc1 : w1.cell? ⟨Bn, 0, none⟩ = some (.string s) := (by rw [hb1.cell (p := ⟨Bn, 0, none⟩) (World.block_lt_of_cell? _ _ hcs)]; exact hcs); have HB1 := hide hb1; have HL1 := hide ((HL.out.below HBL.out).below hb1); clear hb1 HPK') | (refine ⟨trivial, ?_⟩; gi_at_call 35; refine (callsIn_wide.2 (HPS'.out _ HL1.out.tabs HL1.out.max HL1.out.syn HL1.out.rng)).mono ?_; rintro e w2 ⟨rfl, hb2⟩; have HB2 := hide (HB1.out.trans (hb2.mono HB1.out.size)); have hc2 : w2.cell? ⟨Bn, 0, none⟩ = some (.string s) := (by rw [HB2.out.cell (p := ⟨Bn, 0, none⟩) (World.block_lt_of_cell? _ _ hcs)]; exact hcs); have HJ2 := hide (HSJ.out w2 HB2.out); have HBL2 : Hid (Below w0.heap.size w0 w2) := HBL.out.trans (HB2.out.mono HBL.out.size); have hWs2 : W.heap.size ≤ w2.heap.size := Nat.le_trans hWs HB2.out.size; clear hb2 HPS'; obtain ⟨fn, tmps, assign, body, hy, hR⟩ := HY.out pre (0, p, 0, false) w2 HJ2.out hlen; dsimp only [encT] at hy; rw [show ((0 : Nat) : Int) = 0 from rfl] at hy)
        refine hR.mono ?_
        rintro e W3 (⟨rfl, hJ3, hk3⟩ | ⟨rfl, hJx3⟩)
        · gi_wp2
          refine bodyPost_ret (results_none rfl _ _ _) rfl ?_
          exact ⟨⟨_, rfl⟩, .inl ⟨_, HE.out.symm, hJ3⟩⟩
        · gi_wp2
          refine bodyPost_ret (results_none rfl _ _ _) rfl ?_
          exact ⟨⟨_, rfl⟩, .inr ⟨_, by rw [HE.out]; exact List.prefix_refl _, hJx3⟩⟩
      · have t1 : ((z : Int) == 0) = false := by rw [beq_eq_false_iff_ne]; omega
        have hz1 : 1 ≤ z := by omega
        by_cases h3 : k < 3
        · have t2 : decide ((3 : Int) ≤ (k : Int)) = false := decide_eq_false (by omega)
          have hbl := HSP.out.2.1 h0 h3
          have hle := bl_le s p hlt
          rw [hbl] at hle
          have hpz : p + z ≤ s.size := by omega
          have HNB : Hid (bnd s (p + z)) := bnd_to HB.out (by omega) hpz (bl_low s p z hlt hbl (by omega))
          have HE : Hid (A = pre ++ yl s g (p + z)) := by
            show _ = _
            rw [HAA.out, HST.out, if_pos (by rw [hbl]; omega), hbl, Int.toNat_natCast]
          clear h0 h3 HSP HST hbl hle
          gi_wp2_with first | (refine ⟨trivial, ?_⟩; gi_at_call 34; refine (callsIn_wide.2 (HPK'.out _ (HL.out.below HBL.out).tabs)).mono ?_; rintro e w1 ⟨rfl, hb1⟩; have hc1 : w1.cell? ⟨Bn, 0, none⟩ = some (.string s) := (by rw [hb1.cell (p := ⟨Bn, 0, none⟩) (World.block_lt_of_cell? _ _ hcs)]; exact hcs); have HB1 := hide hb1; have HL1 := hide ((HL.out.below HBL.out).below hb1); clear hb1 HPK') | (refine ⟨trivial, ?_⟩; gi_at_call 35; refine (callsIn_wide.2 (HPS'.out _ HL1.out.tabs HL1.out.max HL1.out.syn HL1.out.rng)).mono ?_; rintro e w2 ⟨rfl, hb2⟩; have HB2 := hide (HB1.out.trans (hb2.mono HB1.out.size)); have hc2 : w2.cell? ⟨Bn, 0, none⟩ = some (.string s) := (by rw [HB2.out.cell (p := ⟨Bn, 0, none⟩) (World.block_lt_of_cell? _ _ hcs)]; exact hcs); have HJ2 := hide (HSJ.out w2 HB2.out); have HBL2 : Hid (Below w0.heap.size w0 w2) := HBL.out.trans (HB2.out.mono HBL.out.size); have hWs2 : W.heap.size ≤ w2.heap.size := Nat.le_trans hWs HB2.out.size; clear hb2 HPS')
          go_roundw
          case rel => exact ⟨p + z, g, pre, by go_num, hpz, by omega, HE.out, HNB.out, HJ2.out, HBL2.out, hWs2, hc2⟩
          case measure => simp [intOf]; omega
        · have t2 : decide ((3 : Int) ≤ (k : Int)) = true := decide_eq_true (by omega)
          obtain ⟨hbl, htk⟩ := HSP.out.2.2.1 h0 (by omega)
          have hle := tok_le s p hlt
          have hlow := tok_low s p hlt (by rw [htk]; exact h0)
          rw [htk] at hle hlow
          simp only at hle hlow
          have HNB : Hid (bnd s (p + z)) := bnd_to HB.out (by omega) hle (.inr hlow)
          have HTK := hide (fun w => tokenKind_any k (s.extract p (p + z)) w hk6)
          have HE : Hid (A = (pre ++ [(tkd k (s.extract p (p + z)), p, z, true)]) ++ yl s g (p + z)) := by
            show _ = _
            rw [HAA.out, HST.out, if_neg (by rw [hbl]; omega), if_neg (by rw [hbl]; omega), htk, if_neg h0]
            simp
          obtain ⟨x, hx⟩ : ∃ x, s.extract p (p + z) = x := ⟨_, rfl⟩
          rw [hx] at HTK HE
          obtain ⟨d, hd⟩ : ∃ d, tkd k x = d := ⟨_, rfl⟩
          rw [hd] at HTK HE
          have hlen : pre.length < A.length := by rw [HE.out]; simp
          clear h0 h3 HSP HST hbl hlow htk hd
          gi_wp2_with first | (refine ⟨trivial, ?_⟩; gi_at_call 34; refine (callsIn_wide.2 (HPK'.out _ (HL.out.below HBL.out).tabs)).mono ?_; rintro e w1 ⟨rfl, hb1⟩; have hc1 : w1.cell? ⟨Bn, 0, none⟩ = some (.string s) := (by rw [hb1.cell (p := ⟨Bn, 0, none⟩) (World.block_lt_of_cell? _ _ hcs)]; exact hcs); have HB1 := hide hb1; have HL1 := hide ((HL.out.below HBL.out).below hb1); clear hb1 HPK') | (refine ⟨trivial, ?_⟩; gi_at_call 35; refine (callsIn_wide.2 (HPS'.out _ HL1.out.tabs HL1.out.max HL1.out.syn HL1.out.rng)).mono ?_; rintro e w2 ⟨rfl, hb2⟩; have HB2 := hide (HB1.out.trans (hb2.mono HB1.out.size)); have hc2 : w2.cell? ⟨Bn, 0, none⟩ = some (.string s) := (by rw [HB2.out.cell (p := ⟨Bn, 0, none⟩) (World.block_lt_of_cell? _ _ hcs)]; exact hcs); have HJ2 := hide (HSJ.out w2 HB2.out); have HBL2 : Hid (Below w0.heap.size w0 w2) := HBL.out.trans (HB2.out.mono HBL.out.size); have hWs2 : W.heap.size ≤ w2.heap.size := Nat.le_trans hWs HB2.out.size; clear hb2 HPS') | (refine ⟨trivial, ?_⟩; gi_at_call 36; refine (callsIn_wide.2 (HTK.out _)).mono ?_; rintro e w3 ⟨rfl, hw3⟩; subst hw3; obtain ⟨fn, tmps, assign, body, hy, hR⟩ := HY.out pre (d, p, z, true) (w3.alloc (.cells #[.int .i64 d, .int .i64 p, .int .i64 z] 33)) (HJ.out pre w3 _ none HJ2.out (World.grownBy_alloc w3 _ none) (fun r e => by cases e)) hlen; dsimp only [encT] at hy)
          refine hR.mono ?_
          rintro e W3 (⟨rfl, hJ3, hk3⟩ | ⟨rfl, hJx3⟩)
          · have hc3 : W3.cell? ⟨Bn, 0, none⟩ = some (.string s) := hk3.2.trans (by rw [((Below.refl w3.heap.size w3).alloc (Nat.le_refl _) _).cell (p := ⟨Bn, 0, none⟩) (World.block_lt_of_cell? _ _ hc2)]; exact hc2)
            have HB3 : Hid (Below w0.heap.size w0 W3) := (HBL2.out.alloc HBL2.out.size _).trans hk3.1
            have hWs3 : W.heap.size ≤ W3.heap.size := Nat.le_trans hWs2 (Nat.le_trans (by simp) hk3.1.size)
            have HJ3 := hide hJ3
            clear hk3 hJ3
            gi_wp2
            go_roundw
            case rel => exact ⟨p + z, g, pre ++ [(d, p, z, true)], by go_num, hle, by omega, HE.out, HNB.out, HJ3.out, HB3.out, hWs3, hc3⟩
            case measure => simp [intOf]; omega
          · gi_wp2
            refine bodyPost_ret (results_none rfl _ _ _) rfl ?_
            exact ⟨⟨_, rfl⟩, .inr ⟨_, ⟨_, HE.out.symm⟩, hJx3⟩⟩
    · have d1 : decide ((p : Int) < (s.size : Int)) = false := decide_eq_false (by omega)
      have HE : Hid (A = pre) := by show _ = _; rw [HAA.out, yl_end hlt, List.append_nil]
      gi_wp2
      go_end0
      exact ⟨⟨_, rfl⟩, .inl ⟨_, HE.out.symm, HJS.out⟩⟩
end Go.Proofs.YteojiblglbmmdaaGreatDoor

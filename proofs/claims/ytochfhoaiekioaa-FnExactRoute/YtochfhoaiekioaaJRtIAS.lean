/-
  The walk of slices.AppendSeq over slices.Values, at edges.
-/
import Derived.Test.YtochfhoaiekioaaJRtIVA
import Derived.Test.YtochfhoaiekioaaJRtIVA
import Derived.Test.YtochfhoaiekioaaJRtEDi
import Derived.Test.YtochfhoaiekioaaJRtRFN
import Derived.RangeFuncWrites
import Derived.Maps.OwnIn
import Derived.BigRegionIn
namespace Go.Proofs.Ytochfhoaiekioaa
open Go.RowKit Go.Shelf

attribute [local go_sem] Oper.semAt_some

theorem own_slc {w : World} {B e sz n : Nat} {v : Value} {xs : List Value} (h : w.ownsRow B e sz v n xs) : ∃ a c, v = .slice a n c := by
  rcases h.2 with ⟨h1, h2⟩ | ⟨g, c, cur, h1, _⟩
  · exact ⟨none, 0, by rw [h1, h2]⟩
  · exact ⟨_, c, h1⟩
/-- append of one edge, laid in a new block, onto a row of the call's own, in a fence. -/
theorem wpIn_app1E {F : Fence} {nF : Nat} {ops : Array Oper} {rest : List Oper} {o : Oper} {a : Act} {Q : Exit → Act → World → Prop} {W : World} (hgd : o.guard = none) (s x : Operand)
    (ho : o.op = .call { callee := .builtin .append, args := #[s, x], argTypes := #[47, 47] }) (B : Nat) (v : Value) (xs : List Ed) (hs : a.eval s = v) (hown : EiOw W B v xs)
    (y : Ed) (g0 : Nat) (hx : a.eval x = .slice (some ⟨g0, 0, none⟩) 1 1) (hg0 : W.heap.size = g0) (hlen : xs.length + 1 ≤ 10000000) (hbase : B ≤ W.heap.size)
    (h : ∀ v' w' l, Hid (l = xs ++ [y]) → Hid (EiOw w' B v' l) → Hid ((W.alloc (.cells #[.int .i64 y.f, .int .i64 y.t, .int .i64 y.d, .int .i64 y.c] 50)).grownBy w' v.ownBlock) → wpListIn F nF Try.prog ops Q rest (a.put o.dst v') w') : wpListIn F nF Try.prog ops Q (o :: rest) a (W.alloc (.cells #[.int .i64 y.f, .int .i64 y.t, .int .i64 y.d, .int .i64 y.c] 50)) := by
  subst hg0
  have hk := World.ownsRow.alloc hown (.cells #[.int .i64 y.f, .int .i64 y.t, .int .i64 y.d, .int .i64 y.c] 50)
  obtain ⟨i0, hi, hz0, hz1, hz2⟩ := info_partsEiOw Try.infoEiOw
  refine wpListIn_append_own_at _ hgd s x 47 ho B 50 i0 _ 4 32 Try.underlying47 hi hz0 hz1 hz2 rfl (by decide) v xs.length (edcs xs) hs hk ⟨W.heap.size, 0, none⟩ 1 1 (edcs [y]) hx (edcs_length [y]) (fun j u hj => ?_) (edcs_one _) (by unfold maxLen; omega) (by omega) (by rw [World.size_alloc]; omega) (fun v' w' h1 h2 _ _ => ?_)
  · have hjl : j < 4 := by
      rcases Nat.lt_or_ge j 4 with h | h
      · exact h
      · rw [List.getElem?_eq_none (by rw [edcs_length]; exact h)] at hj; cases hj
    have e : (⟨W.heap.size, 0, none⟩ : Addr).add j = ⟨W.heap.size, j, none⟩ := by unfold Addr.add; split <;> simp_all
    have h0 := edcs_at [y] 0 y rfl j hjl
    rw [Nat.zero_mul, Nat.zero_add] at h0
    rw [e, (Blk.new _ _ _).cell j, ← hj, h0]
    match j, hjl with
    | 0, _ => rfl
    | 1, _ => rfl
    | 2, _ => rfl
    | 3, _ => rfl
  · refine h v' w' (xs ++ [y]) rfl ?_ h2
    show World.ownsRow _ _ _ _ _ _ _
    rw [List.length_append, edcs_append]
    exact h1
/-- What a round finds. -/
def AsI (w : World) (Bd : Nat) (S : List Ed) (k : Nat) (W : World) : Prop := (∃ v, Boxed W Bd 47 v ∧ EiOw W (Bd + 1) v (S.take k)) ∧ Below Bd w W ∧ Bd + 1 ≤ W.heap.size
theorem AsI.put {w : World} {Bd : Nat} {S : List Ed} {k : Nat} {W : World} {l : Nat} {o o' : Obj} (hl : Bd + 1 ≤ l) (h : W.heap[l]? = some o) (ho : o.isCells = false) (hI : AsI w Bd S k W) : AsI w Bd S k (W.putObj l o') := by
  obtain ⟨⟨v, h1, h2⟩, h3, h4⟩ := hI
  refine ⟨⟨v, (World.putObj_heap_other (by omega)).trans h1, ownsRow_putObj h2 o' h ho⟩, h3.grown (grownBy_putObj' W l o') (by omega) (fun k hk => ?_), Nat.le_trans h4 (grownBy_putObj' W l o').size⟩
  injection hk with hk
  omega
theorem AsI.alloc {w : World} {Bd : Nat} {S : List Ed} {k : Nat} {W : World} (o : Obj) (hI : AsI w Bd S k W) : AsI w Bd S k (W.alloc o) := by
  obtain ⟨⟨v, h1, h2⟩, h3, h4⟩ := hI
  exact ⟨⟨v, h1.alloc o, World.ownsRow.alloc h2 o⟩, h3.alloc (by omega) o, by rw [World.size_alloc]; omega⟩

set_option maxRecDepth 1000000 in
set_option maxHeartbeats 4000000 in
theorem appendSeq_any (B1 D c : Nat) (S : List Ed) (a : Option Addr) (hm : S.length ≤ 1048576) (ha : 0 < S.length → a = some ⟨D, 0, none⟩) (w : World) (hD : D < w.heap.size)
    (hB1 : w.cell? ⟨B1, 0, none⟩ = some (.slice a S.length c)) (hE : ∀ j, j < S.length → EdC w D (j * 4) (S.getD j .nul)) :
    Calls Try.prog 50 #[.slice none 0 0, .func (.func 45) #[] #[.pointer (some ⟨B1, 0, none⟩)]] w fun e w' => ∃ v, e = .returned v ∧ EiOw w' w.heap.size v S ∧ Below w.heap.size w w' := by
  obtain ⟨Bd, hBd⟩ : ∃ B, w.heap.size = B := ⟨_, rfl⟩
  obtain ⟨w0, hw0⟩ : ∃ W, w.alloc (.cells #[.slice none 0 0] 47) = W := ⟨_, rfl⟩
  have hb0 : Below w.heap.size w w0 := by rw [← hw0]; exact (Below.refl _ _).alloc (Nat.le_refl _) _
  have HX0 : Hid (Boxed w0 Bd 47 (.slice none 0 0)) := by rw [← hw0, ← hBd]; exact Boxed.new _ _ _
  have hs0 : Bd + 1 = w0.heap.size := by rw [← hw0, World.size_alloc, hBd]
  have HWW := hide hw0
  have HBD := hide hBd
  have HE := hide hE
  have HB0 := hide hb0
  have HC1 : Hid (w0.cell? ⟨B1, 0, none⟩ = some (.slice a S.length c)) := by
    show _ = _
    rw [hb0.cell (p := ⟨B1, 0, none⟩) (World.block_lt_of_cell? _ _ hB1)]
    exact hB1
  have HD := hide hD
  have HB1 : Hid (B1 < Bd) := by show _ < _; rw [← hBd]; exact World.block_lt_of_cell? _ _ hB1
  clear hw0 hBd hE hb0 hB1 hD
  refine (callsIn_wide (n := 3)).1 ?_
  refine callsIn_of_wp_marks Try.func50 rfl trivial ?_ rfl
  simp only [Try.ntmps50, List.size_toArray, List.length_cons, List.length_nil, Nat.reduceAdd, Nat.reduceSub, Array.replicate_succ, Array.replicate_zero, List.push_toArray, List.append_toArray, List.nil_append, List.cons_append]
  gi_wp2_with fail
  rw [HWW.out, HBD.out]
  have HI0 : Hid (AsI w Bd S 0 w0) := ⟨⟨_, HX0.out, EiOw.nil _ _⟩, by have := HB0.out; rw [HBD.out] at this; exact this, by omega⟩
  refine wpIn_rangeFunc_cnt rfl (by omega) (gf := 45) (lb := #[.pointer (some ⟨B1, 0, none⟩)]) rfl trivial (enters_of Try.func45 (by kernel_rfl) rfl)
    (enc := fun k => edagg (S.getD k .nul)) rfl S.length (AsI w Bd S) (fun hl h ho hI => AsI.put (by omega) h ho hI) (fun k W o hI => hI.alloc o) HI0.out ?seq
    (fun k b => { tmps := #[.slice none 0 0, .func (.func 45) #[] #[.pointer (some ⟨B1, 0, none⟩)], .pointer (some ⟨Bd, 0, none⟩), undef, .slice none 0 0, .pointer (some ⟨b, 0, none⟩), .func (.func 45) #[] #[.pointer (some ⟨B1, 0, none⟩)], edagg (S.getD k .nul), undef, undef, undef, undef, undef], defers := [] })
    (fun k => .cells #[.int .i64 (S.getD k .nul).f, .int .i64 (S.getD k .nul).t, .int .i64 (S.getD k .nul).d, .int .i64 (S.getD k .nul).c] 50) ?assign ?body ?done
  case seq =>
    intro l Rd W hz hkeep hY hbW hI hRd
    refine values1_in _ (by omega) l B1 D c S a hm ha (fun k W => AsI w Bd S k W ∧ Rd W) W (fun k W o h => ⟨h.1.alloc o, hkeep h.2 ((KeepsOthers.alloc _ _).from _)⟩) (fun k W h j hj => ?_) (fun k W1 hk h => hY k W1 hk h.1 h.2) ?_ ⟨hI, hRd⟩
    · have h1 := HE.out j hj
      have h2 := h.1.2.1
      have h3 : D < Bd := by have := HD.out; rw [HBD.out] at this; exact this
      exact ⟨(h2.cell (p := ⟨D, j * 4, none⟩) h3).trans h1.f, (h2.cell (p := ⟨D, j * 4 + 1, none⟩) h3).trans h1.t, (h2.cell (p := ⟨D, j * 4 + 2, none⟩) h3).trans h1.d, (h2.cell (p := ⟨D, j * 4 + 3, none⟩) h3).trans h1.c⟩
    · rw [hbW.cell (p := ⟨B1, 0, none⟩) (by have := HB1.out; show B1 < _; omega)]
      exact HC1.out
  case assign =>
    intro l k W K hK
    dsimp only [edagg] at hK ⊢
    gi_wp2
    exact hK
  case body =>
    rintro l k W b hk ⟨⟨v, hX, hO⟩, hB, hSz⟩ hb hbl
    have HXW := hide hX
    have HOW := hide hO
    have HBW := hide hB
    have xc := hX.cell
    have xf := hX.frozen
    obtain ⟨x, hx⟩ : ∃ x, S.getD k .nul = x := ⟨_, rfl⟩
    rw [hx] at hb ⊢
    have HX := hide hx
    have HBK : Hid (Blk W b 50 #[.int .i64 x.f, .int .i64 x.t, .int .i64 x.d, .int .i64 x.c]) := hb
    have z0 := HBK.out.cell 0
    have z1 := HBK.out.cell 1
    have z2 := HBK.out.cell 2
    have z3 := HBK.out.cell 3
    simp only [List.getElem?_toArray, List.getElem?_cons_zero, List.getElem?_cons_succ] at z0 z1 z2 z3
    obtain ⟨TK, hTK⟩ : ∃ T, S.take k = T := ⟨_, rfl⟩
    have HTK := hide hTK
    have hTl : TK.length = k := by rw [← hTK, List.length_take]; omega
    have hTn : TK.length ≤ 1048576 := by omega
    rw [hTK] at hO HOW
    obtain ⟨av, cv', rfl⟩ := own_slc hO
    have HTS : Hid (S.take (k + 1) = TK ++ [x]) := by
      show _ = _
      rw [← hTK, ← HX.out, List.take_add_one, List.getD_eq_getElem?_getD, List.getElem?_eq_getElem hk]
      rfl
    dsimp only [edagg]
    clear hX hO hB hb hx hTK hTl
    gi_wp2_with (gi_at_builtin; refine wpIn_app1E (W := W) rfl (.tmp 8) (.tmp 10) rfl (Bd + 1) (.slice av TK.length cv') TK rfl HOW.out x W.heap.size rfl rfl (by omega) hSz ?_; intro v7 w7 l7 hl7 hO7 hg7; obtain ⟨a7, c7, rfl⟩ := own_slc hO7.out; have HX7 := hide (app_typed (Blk.alloc HXW.out _) (by decide) (World.ownsRow.alloc HOW.out _) hg7.out); have e7 := HX7.out.cell 0; have f7 := HX7.out.frozen 0; simp only [List.getElem?_toArray, List.getElem?_cons_zero] at e7; clear xc xf z0 z1 z2 z3)
    have hb7 : Below (Bd + 1) W w7 := ((Below.refl _ W).alloc hSz _).grown hg7.out (by rw [World.size_alloc]; omega) (fun k hk => (World.ownsRow.lt HOW.out k hk).1)
    refine ⟨(((KeepsOthers.alloc _ _).trans (KeepsOthers.of_grownBy hg7.out (fun j o hj ho => ?_))).trans (KeepsOthers.setCell _ _ _)).from _, ⟨_, HX7.out.set 0 _, ?_⟩, ?_, ?_⟩
    · rcases (World.ownsRow.alloc HOW.out (.cells #[.int .i64 x.f, .int .i64 x.t, .int .i64 x.d, .int .i64 x.c] 50)).2 with ⟨h1, _⟩ | ⟨k', cap, cur, h1, _, h2, _⟩
      · rw [h1] at hj
        simp [Value.ownBlock] at hj
      · rw [h1] at hj
        simp only [Value.ownBlock, Option.some.injEq] at hj
        subst hj
        rw [h2] at ho
        injection ho with ho
        subst ho
        rfl
    · rw [HTS.out, ← hl7.out]
      exact own_typed hO7.out fun k cur q => set_typed HX7.out q (by decide)
    · exact (HBW.out.trans (hb7.mono (by omega))).setCell (Nat.le_refl _) _
    · rw [World.size_setCell]
      have := hb7.size
      omega
  case done =>
    rintro E W hE ⟨⟨v, hX, hO⟩, hB, hSz⟩ hK
    rw [List.take_length] at hO
    obtain ⟨av, cv', rfl⟩ := own_slc hO
    have xc := hX.cell
    have HOW := hide hO
    have HBW := hide hB
    have HKD := hide hK
    clear hX hO hB hK
    gi_wp2
    refine ⟨by simp, .inl ⟨_, _, rfl, run_takeDeferred HKD.out, ?_⟩⟩
    refine ⟨_, results_tmp rfl _ _ _, ?_⟩
    refine ⟨_, rfl, ?_, ?_⟩
    · rw [HBD.out]
      exact own_base (ownsRow_putObj HOW.out (.deferred none) HKD.out rfl) (by omega)
    · rw [HBD.out]
      refine HBW.out.grown (grownBy_putObj' W E (.deferred none)) (by omega) (fun k hk => ?_)
      injection hk with hk
      omega
end Go.Proofs.Ytochfhoaiekioaa

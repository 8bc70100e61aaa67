/-
  The walk of impl.hasTwice.
  Copies of nodes whose rows have room for what they hold.
  The walk of toByteSS.
-/
import Derived.Test.YtdlahabeegmjiaaDoorJCkIKF
import Derived.Test.YtdlahabeegmjiaaDoorJCkND4
namespace Go.Proofs.YtdlahabeegmjiaaDoor
open Go.RowKit

theorem isb_all {w1 : World} {tv : Value} {L : List Nd} {B MM C : Nat} (hR : OlR w1 tv L B MM) : ∀ f, f ≤ 60 → IsC w1 tv L B MM C f ∧ IbC w1 tv L B MM C f
  | 0, _ => ⟨fun F i e S M s bv n V K _ hg => by obtain ⟨g, h⟩ := hg.pos; omega, fun F i e S M s bv n V K un ut ps ts _ hg => by obtain ⟨g, h⟩ := hg.pos; omega⟩
  | f + 1, hf => by
    have ih := isb_all (C := C) hR f (by omega)
    exact ⟨i_stat hR hf ih.1 ih.2, i_block hR hf ih.1⟩
/-- How often a name is among some; how many there are, each once. -/
def cntB (xs : List ByteArray) (nm : ByteArray) : Nat := match xs with
  | [] => 0
  | x :: r => (if x = nm then 1 else 0) + cntB r nm
def inB (x : ByteArray) (p : List ByteArray) : Bool := p.any fun y => decide (y = x)
theorem inB_iff (x : ByteArray) (p : List ByteArray) : inB x p = true ↔ x ∈ p := by
  unfold inB
  rw [List.any_eq_true]
  exact ⟨fun ⟨y, h1, h2⟩ => by rw [← of_decide_eq_true h2]; exact h1, fun h => ⟨x, h, decide_eq_true rfl⟩⟩
def dnB : List ByteArray → List ByteArray → Nat
  | _, [] => 0
  | p, x :: r => (if inB x p then 0 else 1) + dnB (p ++ [x]) r
theorem cntB_snoc (nm a : ByteArray) : ∀ xs, cntB (xs ++ [a]) nm = cntB xs nm + (if a = nm then 1 else 0)
  | [] => by simp [cntB]
  | x :: r => by rw [List.cons_append, cntB, cntB, cntB_snoc nm a r, Nat.add_assoc]
theorem cntB_le (nm : ByteArray) : ∀ xs, cntB xs nm ≤ xs.length
  | [] => Nat.le_refl _
  | x :: r => by have := cntB_le nm r; rw [cntB, List.length_cons]; split <;> omega
theorem dnB_snoc (a : ByteArray) : ∀ xs p, dnB p (xs ++ [a]) = dnB p xs + (if inB a (p ++ xs) then 0 else 1)
  | [], p => by simp [dnB]
  | x :: r, p => by
    rw [List.cons_append, dnB, dnB, dnB_snoc a r (p ++ [x]), Nat.add_assoc, List.append_assoc]
    rfl
theorem dnB_nodup : ∀ xs p, dnB p xs ≤ xs.length ∧ (dnB p xs = xs.length ↔ xs.Nodup ∧ ∀ x ∈ xs, x ∉ p)
  | [], p => ⟨Nat.le_refl _, ⟨fun _ => ⟨List.nodup_nil, fun x h => by cases h⟩, fun _ => rfl⟩⟩
  | x :: r, p => by
    obtain ⟨h1, h2⟩ := dnB_nodup r (p ++ [x])
    rw [dnB, List.length_cons]
    by_cases q : x ∈ p
    · rw [if_pos ((inB_iff x p).2 q)]
      refine ⟨by omega, fun h => (by omega), fun h => absurd q (h.2 x (List.mem_cons_self ..))⟩
    · rw [if_neg (fun h => q ((inB_iff x p).1 h))]
      refine ⟨by omega, fun h => ?_, fun h => ?_⟩
      · have h3 := h2.1 (by omega)
        refine ⟨List.nodup_cons.2 ⟨fun hx => h3.2 x hx (List.mem_append_right _ (by simp)), h3.1⟩, fun y hy => ?_⟩
        rcases List.mem_cons.1 hy with rfl | hy
        · exact q
        · exact fun hp => h3.2 y hy (List.mem_append_left _ hp)
      · have h4 := List.nodup_cons.1 h.1
        have h3 := h2.2 ⟨h4.2, fun y hy hp => by
          rcases List.mem_append.1 hp with hp | hp
          · exact h.2 y (List.mem_cons_of_mem _ hy) hp
          · rw [List.mem_singleton.1 hp] at hy
            exact h4.1 hy⟩
        omega
/-- A map that counts names. -/
def MpT (W : World) (b : Nat) (xs : List ByteArray) : Prop :=
  ∃ D : DataW Unit, W.ownsMap Tryd.prog 9 (plainElem Tryd.prog 3) b xs.length D ∧ (∀ nm : ByteArray, nm.size ≤ 1000 → D.atKey (.string nm.data.toList) (.lit (.int .i64 0)) = .lit (.int .i64 (cntB xs nm : Nat))) ∧ Maps.size D = dnB [] xs ∧ ∀ nm : ByteArray, nm.size ≤ 1000 → Maps.has D (.string nm.data.toList) = inB nm xs
theorem MpT.lt {W : World} {b : Nat} {xs : List ByteArray} (h : MpT W b xs) : b < W.heap.size := by obtain ⟨_, h1, _⟩ := h; exact h1.lt
theorem MpT.keep {W W' : World} {b : Nat} {xs : List ByteArray} (h : MpT W b xs) (hk : W'.heap[b]? = W.heap[b]?) : MpT W' b xs := by
  obtain ⟨D, ⟨es, clock, hb, F, hs, e⟩, h2⟩ := h
  exact ⟨D, ⟨es, clock, hk.trans hb, F, hs, e⟩, h2⟩
theorem MpT.below {W W' : World} {b : Nat} {xs : List ByteArray} (h : MpT W b xs) (hb : Below W.heap.size W W') : MpT W' b xs := h.keep (hb.block b h.lt)
theorem MpT.made (w : World) : MpT (w.alloc (.map #[] 0)) w.heap.size [] :=
  ⟨.map [], World.ownsMap_made w Tryd.prog 9 (plainElem Tryd.prog 3), fun _ _ => rfl, rfl, fun _ _ => rfl⟩
theorem MpT.look {W : World} {b : Nat} {xs : List ByteArray} (h : MpT W b xs) {nm : ByteArray} (hn : nm.size ≤ 1000) : (Instr.lookup 46 (.map (some b)) (.string nm) false).run Tryd.prog W = .ok (.int .i64 (cntB xs nm : Nat)) W := by
  obtain ⟨D, h1, h2, _⟩ := h
  obtain ⟨v, hrun, hat, _⟩ := h1.lookup_int (Maps.string_keyed Tryd.underlying9) Tryd.underlying46 Tryd.underlying3 (Tryd.zeroValue3 _) (WideMaps.keyOf_string_mk Tryd.underlying9 (s := nm) (by unfold maxLen; omega))
  rw [h2 nm hn] at hat
  simp at hat
  rw [hrun, hat]
theorem MpT.len {W : World} {b : Nat} {xs : List ByteArray} (h : MpT W b xs) (ty : TypeId) : (Builtin.len_ #[46] ty #[.map (some b)]).run Tryd.prog W = .ok (.int .i64 (dnB [] xs : Nat)) W := by
  obtain ⟨D, h1, _, h3, _⟩ := h
  have := h1.len Tryd.underlying46 ty
  rw [h3] at this
  exact this
theorem MpT.put {W : World} {b : Nat} {xs : List ByteArray} (h : MpT W b xs) {nm : ByteArray} (hn : nm.size ≤ 1000) (hl : xs.length ≤ 1000) :
    ∃ W', (Instr.mapUpdate 46 (.map (some b)) (.string nm) (.int .i64 ((cntB xs nm : Nat) + 1))).run Tryd.prog W = .ok () W' ∧ MpT W' b (xs ++ [nm]) ∧ Gw (· = b) W W' := by
  obtain ⟨D, h1, h2, h3, h4⟩ := h
  have hle := cntB_le nm xs
  have hwf : (Lit.int .i64 ((cntB xs nm : Nat) + 1)).wf = true := by
    simp [Lit.wf, IntKind.min, IntKind.max, IntKind.signed, IntKind.bits]
    omega
  obtain ⟨W', hrun, ho, ht⟩ := h1.store (Maps.string_keyed Tryd.underlying9) Tryd.underlying46 (by unfold maxLen; omega) (WideMaps.keyOf_string_mk Tryd.underlying9 (s := nm) (by unfold maxLen; omega)) (plainElem_int Tryd.underlying3 hwf)
  have hgw : Gw (· = b) W W' := Gw.of_grown ht.grown (fun k hk _ => (Option.some.inj hk).symm)
  refine ⟨W', hrun, ⟨_, by rw [List.length_append]; exact ho, fun x hx => ?_, ?_, fun x hx => ?_⟩, hgw⟩
  · rw [cntB_snoc]
    by_cases e : x = nm
    · subst e
      rw [Maps.atKey_put_same h1.isMap (by simp [WideAt.IsKeyLit]), if_pos rfl]
      simp
    · rw [Maps.atKey_put_other (fun he => e (bytes_lit he)), h2 x hx, if_neg (fun h => e h.symm)]
      simp
  · rw [Maps.size_put (h1.tidy (Maps.string_keyed Tryd.underlying9)), h4 nm hn, dnB_snoc, h3, List.nil_append]
    by_cases e : inB nm xs = true
    · rw [if_pos e, if_pos e, Nat.add_zero]
    · rw [if_neg e, if_neg e]
  · by_cases e : x = nm
    · subst e
      rw [Maps.has_put_same h1.isMap (by simp [WideAt.IsKeyLit])]
      exact ((inB_iff _ _).2 (List.mem_append_right _ (by simp))).symm
    · rw [Maps.has_put_other (fun he => e (bytes_lit he)), h4 x hx]
      unfold inB
      rw [List.any_append]
      have e2 : ([nm].any fun y => decide (y = x)) = false := by
        show (decide (nm = x) || false) = false
        rw [decide_eq_false (fun h => e h.symm)]; rfl
      rw [e2, Bool.or_false]

set_option maxHeartbeats 4000000 in
set_option maxRecDepth 1000000 in
theorem hasTwice_any {w : World} {u : Value} {ps : List ByteArray} (h : SS w u ps) (hl : ps.length ≤ 1000) (hz : ∀ p ∈ ps, p.size ≤ 1000) : Calls Tryd.prog 50 #[u] w fun r w' => r = .returned (.bool (decide (¬ ps.Nodup))) ∧ Below w.heap.size w w' := by
  obtain ⟨a, b, o, c, rfl, ha, hc⟩ := h
  have HC := hide hc
  have HZ := hide hz
  have hmm := @run_makeMap Tryd.prog
  obtain ⟨D0, hD0⟩ : ∃ D0, decide (¬ ps.Nodup) = D0 := ⟨_, rfl⟩
  have HD0 := hide hD0
  rw [hD0]
  clear hc hz hD0
  go_enter Tryd.func50, Tryd.ntmps50
  go_wp2_with fail
  go_loopw [5, 9] (fun _ ix wr => ∃ k : Nat, k ≤ ps.length ∧ ix = .int .i64 k ∧ Hid (MpT wr w.heap.size (ps.take k) ∧ Below w.heap.size w wr)) (fun _ ix _ => ps.length - (intOf ix).toNat)
  case atStart => exact ⟨0, Nat.zero_le _, rfl, by rw [List.take_zero]; exact MpT.made w, (Below.refl _ _).alloc (Nat.le_refl _) _⟩
  case round =>
    obtain ⟨k, hk, rfl, HI⟩ := hrel
    rename World => V
    by_cases hlt : k < ps.length
    · have hlti : (k : Int) < (ps.length : Int) := by omega
      obtain rfl := ha (by omega)
      obtain ⟨u, hu, hbs⟩ := HC.out k hlt
      have hur := cell_kept hu HI.out.2
      have hbsr := hbs.below HI.out.2
      have hmem : ps.getD k .empty ∈ ps := by rw [List.getD_eq_getElem?_getD, List.getElem?_eq_getElem hlt]; exact List.getElem_mem hlt
      have hsz := HZ.out _ hmem
      have etk : ps.take (k + 1) = ps.take k ++ [ps.getD k .empty] := by rw [List.take_add_one, List.getElem?_eq_getElem hlt, List.getD_eq_getElem?_getD, List.getElem?_eq_getElem hlt]; rfl
      obtain ⟨nm, hnm⟩ : ∃ y, ps.getD k .empty = y := ⟨_, rfl⟩
      rw [hnm] at hbsr hsz etk hbs
      have hcv : (convert 31 9 u).run Tryd.prog V = .ok (.string nm) V := toStr_bs hbsr
      have hlk := HI.out.1.look hsz
      have hcl := cntB_le nm (ps.take k)
      obtain ⟨W8, hrun, hM8, hG8⟩ := HI.out.1.put hsz (by rw [List.length_take]; omega)
      rw [← etk] at hM8
      have HR : Hid (MpT W8 w.heap.size (ps.take (k + 1)) ∧ Below w.heap.size w W8) := ⟨hM8, hG8.below HI.out.2 HI.out.2.size (fun k hk w => by omega)⟩
      obtain ⟨ct, hct⟩ : ∃ c, cntB (ps.take k) nm = c := ⟨_, rfl⟩
      rw [hct] at hlk hrun hcl
      rw [List.length_take] at hcl
      have hct2 : ct ≤ 1000 := by omega
      obtain ⟨ua, ub, uo, uc, rfl, _, _⟩ := hbs
      clear hu hbsr hmem etk hnm hM8 hG8 hct HI hcl
      go_wp2
      go_roundw
      case rel => exact ⟨k + 1, by omega, by go_num, HR⟩
      case measure => simp [intOf]; omega
    · obtain rfl : k = ps.length := by omega
      have hge : ¬ (ps.length : Int) < (ps.length : Int) := by omega
      have h1 := HI.out.1
      rw [List.take_of_length_le (Nat.le_refl _)] at h1
      have hln := fun ty => h1.len ty
      have hd := dnB_nodup ps []
      have HQ : Hid (decide ((dnB [] ps : Int) < (ps.length : Int)) = D0) := by
        show _ = _
        rw [← HD0.out]
        by_cases q : ps.Nodup
        · have := hd.2.2 ⟨q, fun x _ h => by cases h⟩
          rw [decide_eq_false (show ¬ ((dnB [] ps : Int) < (ps.length : Int)) by omega), decide_eq_false (show ¬ ¬ ps.Nodup from fun h => h q)]
        · have : dnB [] ps ≠ ps.length := fun h => q (hd.2.1 h).1
          rw [decide_eq_true (show ¬ ps.Nodup from q), decide_eq_true (show (dnB [] ps : Int) < (ps.length : Int) by have := hd.1; omega)]
      obtain ⟨m, hm⟩ : ∃ m, dnB [] ps = m := ⟨_, rfl⟩
      rw [hm] at HQ
      simp only [hm] at hln
      clear h1 hd hm
      go_wp2
      go_ret
      exact ⟨by rw [← HQ.out]; simp, HI.out.2⟩
end Go.Proofs.YtdlahabeegmjiaaDoor

namespace Go.Proofs.YtdlahabeegmjiaaDoor
open Go.RowKit

def SOc (w : World) (G : Nat) (v : Value) (L : List ByteArray) : Prop := ∃ b c, G < b ∧ b < w.heap.size ∧ v = .slice (some ⟨b, 0, none⟩) L.length c ∧ (Fz w b ∧ L.length ≤ c) ∧ ∀ j, j < L.length → ∃ u, w.cell? ⟨b, 0 + j, none⟩ = some u ∧ BO w b u (L.getD j .empty)
theorem SOc.ss {w : World} {G : Nat} {v : Value} {L : List ByteArray} (h : SOc w G v L) : SS w v L := by
  obtain ⟨b, c, _, _, h1, _, h2⟩ := h
  refine ⟨_, b, 0, _, h1, fun _ => rfl, fun j hj => ?_⟩
  obtain ⟨u, h3, h4⟩ := h2 j hj
  exact ⟨u, h3, h4.bs⟩
theorem SOc.below {w w' : World} {G : Nat} {v : Value} {L : List ByteArray} (h : SOc w G v L) (hb : Below w.heap.size w w') : SOc w' G v L := by
  obtain ⟨b, c, h0, h4, h1, hf, h2⟩ := h
  refine ⟨b, c, h0, by have := hb.size; omega, h1, ⟨hf.1.below h4 hb, hf.2⟩, fun j hj => ?_⟩
  obtain ⟨u, h5, h6⟩ := h2 j hj
  exact ⟨u, cell_kept h5 hb, h6.below hb⟩
theorem SOc.set {w : World} {G k : Nat} {v x : Value} {L : List ByteArray} (h : SOc w G v L) : SOc (w.setCell ⟨G, k, none⟩ x) G v L := by
  obtain ⟨b, c, h0, h4, h1, hf, h2⟩ := h
  refine ⟨b, c, h0, by simpa using h4, h1, ⟨hf.1.set, hf.2⟩, fun j hj => ?_⟩
  obtain ⟨u, h5, h6⟩ := h2 j hj
  exact ⟨u, by rw [setCell_cell (by omega)]; exact h5, h6.setAt (by omega)⟩
theorem SOc.setAt {w : World} {G G' k : Nat} {v x : Value} {L : List ByteArray} (h : SOc w G v L) (hG : G' ≤ G) : SOc (w.setCell ⟨G', k, none⟩ x) G v L := by
  obtain ⟨b, c, h0, h4, h1, hf, h2⟩ := h
  refine ⟨b, c, h0, by simpa using h4, h1, ⟨hf.1.set, hf.2⟩, fun j hj => ?_⟩
  obtain ⟨u, h5, h6⟩ := h2 j hj
  exact ⟨u, by rw [setCell_cell (by omega)]; exact h5, h6.setAt (by omega)⟩
structure NOc (w : World) (G : Nat) (d : Nd) (vt vn vy : Value) : Prop where
  text : BO w G vt d.text
  names : SOc w G vn d.names
  types : ICp w G vy d.types
theorem NOc.nv {w : World} {G : Nat} {d : Nd} {vt vn vy : Value} (h : NOc w G d vt vn vy) : NV w d vt vn vy := ⟨h.text.bs, h.names.ss, h.types.is⟩
theorem NOc.below {w w' : World} {G : Nat} {d : Nd} {vt vn vy : Value} (h : NOc w G d vt vn vy) (hb : Below w.heap.size w w') : NOc w' G d vt vn vy := ⟨h.text.below hb, h.names.below hb, h.types.below hb⟩
theorem NOc.set {w : World} {G k : Nat} {d : Nd} {vt vn vy x : Value} (h : NOc w G d vt vn vy) : NOc (w.setCell ⟨G, k, none⟩ x) G d vt vn vy := ⟨h.text.set, h.names.set, h.types.set⟩
theorem NOc.setAt {w : World} {G G' k : Nat} {d : Nd} {vt vn vy x : Value} (h : NOc w G d vt vn vy) (hG : G' ≤ G) : NOc (w.setCell ⟨G', k, none⟩ x) G d vt vn vy := ⟨h.text.setAt hG, h.names.setAt hG, h.types.setAt hG⟩
theorem NOc.lower {w : World} {G G' : Nat} {d : Nd} {vt vn vy : Value} (h : NOc w G d vt vn vy) (hG : G' ≤ G) : NOc w G' d vt vn vy := by
  obtain ⟨h1, ⟨b, c, h2, h3, h4, h4z, h5⟩, ⟨b', c', h6, h7⟩⟩ := h
  exact ⟨h1.lower hG, ⟨b, c, by omega, h3, h4, h4z, h5⟩, ⟨b', c', by omega, h7⟩⟩

theorem NOc.slices {w : World} {G : Nat} {d : Nd} {vt vn vy : Value} (h : NOc w G d vt vn vy) : ∃ g1 n1 c1 g2 n2 c2 g3 n3 c3, vt = .slice (some ⟨g1, 0, none⟩) n1 c1 ∧ vn = .slice (some ⟨g2, 0, none⟩) n2 c2 ∧ vy = .slice (some ⟨g3, 0, none⟩) n3 c3 := by
  obtain ⟨⟨b, _, _, h1, _⟩, ⟨b2, c2, _, _, h2, _⟩, ⟨b3, c3, _, _, h3, _⟩⟩ := h
  exact ⟨_, _, _, _, _, _, _, _, _, h1, h2, h3⟩
end Go.Proofs.YtdlahabeegmjiaaDoor

namespace Go.Proofs.YtdlahabeegmjiaaDoor
open Go.RowKit

set_option maxHeartbeats 1000000 in
theorem toSSc_any (v : Value) (L : List ByteArray) (w : World) (hs : L.length ≤ 1048576) (hz : ∀ j, j < L.length → (L.getD j .empty).size ≤ 1048576) (h : SS w v L) :
    Calls Tryd.prog 35 #[v] w fun e w' => ∃ v', e = .returned v' ∧ (∀ G, G < w.heap.size → SOc w' G v' L) ∧ Below w.heap.size w w' := by
  obtain ⟨a0, b, off, cap, rfl, ha, hc⟩ := h
  have hmk := run_make_row' (P := Tryd.prog) 32 31 (.slice none 0 0) 24 Tryd.underlying32 (by kernel_rfl) rfl .i64 .i64 L.length (by omega) (by omega)
  have HC := hide hc
  have HZ := hide hz
  clear hc hz
  go_enter Tryd.func35, Tryd.ntmps35
  go_wp2
  clear hmk
  go_loopw [4] (fun i wr => ∃ (k : Nat) (u : Nat → Value), k ≤ L.length ∧ i = .int .i64 k ∧ wr.rowIs w.heap.size 31 L.length (fun j => if j < k then u j else .slice none 0 0) ∧ (∀ j, j < k → BO wr w.heap.size (u j) (L.getD j .empty)) ∧ Below w.heap.size w wr ∧ w.heap.size < wr.heap.size) (fun i _ => L.length - (intOf i).toNat)
  case atStart => exact ⟨0, fun _ => .slice none 0 0, Nat.zero_le _, rfl, (World.rowIs_made w _ L.length 31).congr (fun j _ => by simp), fun j hj => absurd hj (Nat.not_lt_zero _), (Below.refl _ _).alloc (Nat.le_refl _) _, by simp⟩
  case round =>
    obtain ⟨k, u, hk, rfl, hrow, hu, hbl, hsz⟩ := hrel
    have HROW := hide hrow
    have HU := hide hu
    have HBL := hide hbl
    by_cases hlt : k < L.length
    · obtain rfl := ha (by omega)
      obtain ⟨x, hx, hxs⟩ := HC.out k hlt
      have g0 : wr.cell? ⟨b, off + k, none⟩ = some x := cell_kept hx hbl
      obtain ⟨s, hs'⟩ : ∃ s, L.getD k .empty = s := ⟨_, rfl⟩
      have hzs := HZ.out k hlt
      rw [hs'] at hxs hzs
      have HSK := hide hs'
      obtain ⟨ax, bx, ox, cx, rfl, hax, hcx⟩ := hxs.below hbl
      have HT := hide (toB_any ax bx ox cx s wr hzs hax hcx)
      have d1 : decide ((k : Int) < (L.length : Int)) = true := decide_eq_true (by omega)
      clear hrow hu hbl hax hcx hx hxs hs'
      go_wp2_with fail
      refine HT.out.mono ?_
      rintro e w2 ⟨rfl, hr2, hb2, hz2⟩
      have HR2 := hide (row_kept HROW.out hb2)
      have g1 : w2.cell? ⟨w.heap.size, k, none⟩ = some (.slice none 0 0) := by rw [HR2.out.cell hlt]; simp
      have g2 : w2.frozen? ⟨w.heap.size, k, none⟩ = false := HR2.out.frozen k
      have HB2 := hide hb2
      have HBW : Hid (Below w.heap.size w w2) := HBL.out.trans (hb2.mono HBL.out.size)
      have HN : Hid (BO w2 w.heap.size (.slice (some ⟨wr.heap.size, 0, none⟩) s.size s.size) s) :=
        ⟨wr.heap.size, hsz, by omega, rfl, hr2.frozen, fun j hj => by rw [Nat.zero_add]; exact hr2.cell hj⟩
      have hsz2 : w.heap.size < w2.heap.size := by omega
      clear hr2 hb2 hz2 HT
      go_wp2
      go_roundw
      case rel => exact ⟨k + 1, fun j => if j = k then .slice (some ⟨wr.heap.size, 0, none⟩) s.size s.size else u j, by omega, by go_num, (HR2.out.set k _).congr (fun j _ => by
          by_cases e : j = k
          · subst e; simp
          · rw [if_neg e]; by_cases hj : j < k
            · rw [if_pos hj, if_pos (by omega)]; show u j = if j = k then _ else u j; rw [if_neg e]
            · rw [if_neg hj, if_neg (by omega)]), fun j hj => by
          by_cases e : j = k
          · subst e; simp only [if_pos]; rw [HSK.out]; exact HN.out.set
          · simp only [if_neg e]; exact ((HU.out j (by omega)).below HB2.out).set, HBW.out.setCell (Nat.le_refl _) _, by simp; omega⟩
      case measure => simp [intOf]; omega
    · have d1 : decide ((k : Int) < (L.length : Int)) = false := decide_eq_false (by omega)
      clear hrow hu hbl
      go_wp2
      go_ret
      exact ⟨_, rfl, fun G hG => ⟨w.heap.size, _, hG, hsz, rfl, ⟨HROW.out.frozen, Nat.le_refl _⟩, fun j hj => ⟨u j, by rw [Nat.zero_add, HROW.out.cell hj, if_pos (by omega)], HU.out j (by omega)⟩⟩, HBL.out⟩
end Go.Proofs.YtdlahabeegmjiaaDoor

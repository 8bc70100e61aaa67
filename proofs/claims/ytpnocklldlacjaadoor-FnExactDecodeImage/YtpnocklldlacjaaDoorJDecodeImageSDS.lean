/-
  What spec.DecodeImage holds under way.
-/
import Derived.Test.YtpnocklldlacjaaDoorJDecodeImageSEI
import Derived.Test.YtpnocklldlacjaaDoorJDecodeImageIIOW
import Derived.Test.YtpnocklldlacjaaDoorJDecodeImageRDI
import Derived.Test.YtpnocklldlacjaaDoorJDecodeImageIMD
import Derived.Test.YtpnocklldlacjaaDoorJDecodeImageRDI
import Derived.BigRegion
namespace Go.Proofs.YtpnocklldlacjaaDoor
open Go.RowKit

theorem tbv_nil (w : World) : TbV w ⟨0, 0, [], [], []⟩ (.slice none 0 0) (.slice none 0 0) (.slice none 0 0) := (TS.nil w 0).tbv 0 0
theorem rRs_bad {f : Nat → Nat} {N C : Nat} {s4 st : Nat × Bool} {P D : List (List Int)} (hb : st.2 = true) {k : Nat} (h : rRs f N C s4 k = some (P, D, st)) : ∀ m, rRs f N C s4 (k + m) = some (P, D, st)
  | 0 => h
  | m + 1 => by
    show (match rRs f N C s4 (k + m) with | none => none | some (P, D, s) => if s.2 = true then some (P, D, s) else _) = _
    rw [rRs_bad hb h m]
    simp only [hb, if_true]
theorem rRs_none {f : Nat → Nat} {N C : Nat} {s4 : Nat × Bool} {k : Nat} (h : rRs f N C s4 k = none) : ∀ m, rRs f N C s4 (k + m) = none
  | 0 => h
  | m + 1 => by
    show (match rRs f N C s4 (k + m) with | none => none | some (P, D, s) => if s.2 = true then some (P, D, s) else _) = _
    rw [rRs_none h m]
theorem rTs_nm {s : ByteArray} {st : Nat × Bool} : ∀ k, ∀ t ∈ (rTs (fb s) s.size st k).1, t.name.size ≤ 256
  | 0, t, h => nomatch h
  | k + 1, t, h => by
    rcases List.mem_append.1 (show t ∈ (rTs (fb s) s.size st k).1 ++ [_] from h) with h | h
    · exact rTs_nm k t h
    · rw [List.mem_singleton.1 h]
      have h1 : (rn (fb s) s.size (rn (fb s) s.size (rn (fb s) s.size (rTs (fb s) s.size st k).2 1).2 2).2 1).1 < 256 ^ 1 := rn_lt
      have h2 := rb_len (s := s) (st := (rn (fb s) s.size (rn (fb s) s.size (rn (fb s) s.size (rTs (fb s) s.size st k).2 1).2 2).2 1).2) (n := (rn (fb s) s.size (rn (fb s) s.size (rn (fb s) s.size (rTs (fb s) s.size st k).2 1).2 2).2 1).1)
      show (rb (fb s) s.size _ _).1.size ≤ 256
      omega
theorem upF_len (b : ByteArray) (n : Nat) : (upF b (n : Int)).length ≤ n := by
  unfold upF
  split
  · rw [upL_len, Int.toNat_natCast]; exact Nat.le_refl _
  · exact Nat.zero_le _
theorem rRs_len {f : Nat → Nat} {N C : Nat} {s4 : Nat × Bool} : ∀ k {P D : List (List Int)} {st : Nat × Bool}, rRs f N C s4 k = some (P, D, st) → (∀ l ∈ P, l.length ≤ C) ∧ (∀ l ∈ D, l.length ≤ C)
  | 0, P, D, st, h => by
    injection h with h
    injection h with h1 h2
    injection h2 with h2 _
    subst h1 h2
    exact ⟨fun l hl => (nomatch hl), fun l hl => (nomatch hl)⟩
  | k + 1, P, D, st, h => by
    have h' : (match rRs f N C s4 k with | none => none | some (P, D, s) => if s.2 = true then some (P, D, s) else if upC (rb f N s ((3 * C + 7) / 8)).1 (C : Nat) = 0 then some (P ++ [upF (rb f N s ((3 * C + 7) / 8)).1 (C : Nat)], D ++ [(rDs f N (rb f N s ((3 * C + 7) / 8)).2 C).1], (rDs f N (rb f N s ((3 * C + 7) / 8)).2 C).2) else none) = some (P, D, st) := h
    cases hk : rRs f N C s4 k with
    | none => rw [hk] at h'; cases h'
    | some q =>
      obtain ⟨P0, D0, s0⟩ := q
      have ih := rRs_len k hk
      rw [hk] at h'
      simp only at h'
      split at h'
      · injection h' with h'
        injection h' with h1 h2
        injection h2 with h2 _
        subst h1 h2
        exact ih
      · split at h'
        · injection h' with h'
          injection h' with h1 h2
          injection h2 with h2 _
          subst h1 h2
          refine ⟨fun l hl => ?_, fun l hl => ?_⟩
          · rcases List.mem_append.1 hl with hl | hl
            · exact ih.1 l hl
            · rw [List.mem_singleton.1 hl]; exact upF_len _ _
          · rcases List.mem_append.1 hl with hl | hl
            · exact ih.2 l hl
            · rw [List.mem_singleton.1 hl, rDs_len]; exact Nat.le_refl _
        · cases h'
theorem tbB_of {x y : Int} {T : List Tg} {D P : List (List Int)} {C : Nat} (hC : C ≤ 1048576) (h1 : T.length ≤ 1048576) (h2 : ∀ t ∈ T, t.name.size ≤ 256) (h3 : D.length ≤ 1048576) (h4 : ∀ l ∈ D, l.length ≤ C) (h5 : P.length ≤ 1048576) (h6 : ∀ l ∈ P, l.length ≤ C) : TbB ⟨x, y, T, D, P⟩ := by
  have key : ∀ (L : List (List Int)), (∀ l ∈ L, l.length ≤ C) → ∀ j, j < L.length → (L.getD j []).length ≤ 1048576 := fun L hL j hj => by
    have := hL (L.getD j []) (by rw [List.getD_eq_getElem?_getD, List.getElem?_eq_getElem hj]; exact List.getElem_mem hj)
    omega
  refine ⟨⟨h1, fun j hj => ⟨?_⟩⟩, ⟨h3, key D h4⟩, ⟨h5, key P h6⟩⟩
  have := h2 (T.getD j .zero) (by rw [List.getD_eq_getElem?_getD, List.getElem?_eq_getElem hj]; exact List.getElem_mem hj)
  exact Nat.le_trans this (by decide)
structure DS (w0 : World) (G M b o c : Nat) (s : ByteArray) (n1 n2 : Nat) (w : World) (st : Nat × Bool) (vT vH vD : Value) (LT : List (Tg × Value)) (LH LD : List (List Int × Value)) : Prop where
  rd : RdS w (G + 1) b o c s st
  tx : Tx w b o c s
  gz : Blk w G 30 #[.int .i64 0, .int .i64 0, .slice none 0 0, .slice none 0 0, .slice none 0 0]
  tb : Blk w M 30 #[.int .i64 n1, .int .i64 n2, vT, vD, vH]
  ts : TS w (M + 1) vT vH vD LT LH LD
  bl : Below w0.heap.size w0 w
  hG : w0.heap.size = G
  hb : b < G
  hM : G + 1 < M

theorem DS.below {w0 : World} {G M b o c : Nat} {s : ByteArray} {n1 n2 : Nat} {w w' : World} {st : Nat × Bool} {vT vH vD : Value} {LT : List (Tg × Value)} {LH LD : List (List Int × Value)} (h : DS w0 G M b o c s n1 n2 w st vT vH vD LT LH LD) (k : Below w.heap.size w w') : DS w0 G M b o c s n1 n2 w' st vT vH vD LT LH LD :=
  ⟨h.rd.below k, h.tx.below k, h.gz.below k, h.tb.below k, h.ts.below k, h.bl.trans (k.mono h.bl.size), h.hG, h.hb, h.hM⟩
theorem DS.num {w0 : World} {G M b o c : Nat} {s : ByteArray} {n1 n2 : Nat} {w w' : World} {st st' : Nat × Bool} {vT vH vD : Value} {LT : List (Tg × Value)} {LH LD : List (List Int × Value)} (h : DS w0 G M b o c s n1 n2 w st vT vH vD LT LH LD) (hr : RdS w' (G + 1) b o c s st') (hw : Wrs [G + 1] w w') : DS w0 G M b o c s n1 n2 w' st' vT vH vD LT LH LD := by
  have h1 := h.hb; have h2 := h.hM; have h3 := h.hG
  refine ⟨hr, h.tx.wrs hw (by simp; omega), (hw.blk _ h.gz.lt (by simp)).trans h.gz, (hw.blk _ h.tb.lt (by simp; omega)).trans h.tb, h.ts.keep fun g t cs ht q => ?_, h.bl.trans (hw.below (by simp; omega) h.bl.size), h.hG, h.hb, h.hM⟩
  refine (hw.blk _ q.lt ?_).trans q
  intro hm
  rw [List.mem_singleton] at hm
  subst hm
  have hx := h.rd.1
  unfold Rd at hx
  unfold Blk at hx q
  rw [hx] at q
  injection q with q
  injection q with _ q
  subst q
  revert ht
  decide
theorem DS.grown {w0 : World} {G M b o c : Nat} {s : ByteArray} {n1 n2 : Nat} {w w' : World} {st : Nat × Bool} {vT vH vD vT' vH' vD' : Value} {LT lT : List (Tg × Value)} {LH LD lH lD : List (List Int × Value)} {bt : TypeId} {sz n : Nat} {v : Value} {xs : List Value} (h : DS w0 G M b o c s n1 n2 w st vT vH vD LT LH LD) (hown : w.ownsRow (M + 1) bt sz v n xs) (ht1 : bt ≠ 30) (ht2 : bt ≠ 69) (hg : w.grownBy w' v.ownBlock)
    (hts : TS w' (M + 1) vT' vH' vD' lT lH lD) (k : Nat) (u : Value) (hcs : (#[.int .i64 n1, .int .i64 n2, vT, vD, vH] : Array Value).setIfInBounds k u = #[.int .i64 n1, .int .i64 n2, vT', vD', vH']) : DS w0 G M b o c s n1 n2 (w'.setCell ⟨M, k, none⟩ u) st vT' vH' vD' lT lH lD := by
  have h1 := h.hb; have h2 := h.hM; have h3 := h.hG; have h4 := h.tb.lt
  have hbl : Below (M + 1) w w' := (Below.refl _ w).grown hg (by omega) (fun k hk => (hown.lt k hk).1)
  have hM' : Blk w' M _ _ := app_typed h.tb (fun e => ht1 e.symm) hown hg
  have hb2 : Below M w (w'.setCell ⟨M, k, none⟩ u) := (hbl.mono (B' := M) (by omega)).setCell (Nat.le_refl _) u
  refine ⟨⟨set_typed hM' (app_typed h.rd.1 (fun e => ht2 e.symm) hown hg) (by decide), h.rd.2⟩, ⟨h.tx.pos, h.tx.len, h.tx.cap, fun j hj => (hb2.cell (p := ⟨b, o + j, none⟩) (by show b < M; omega)).trans (h.tx.cell j hj)⟩, (hb2.block G (by omega)).trans h.gz, ?_, hts.keep fun g t cs ht q => set_typed hM' q (by rcases ht with e | e | e | e <;> rw [e] <;> decide), h.bl.trans (hb2.mono (by omega)), h.hG, h.hb, h.hM⟩
  rw [← hcs]
  exact hM'.set k u
theorem wrs_grown {bl : List Nat} {w0 w w' : World} {e sz n : Nat} {v : Value} {xs : List Value} (h : Wrs bl w0 w) (hown : w.ownsRow w0.heap.size e sz v n xs) (hg : w.grownBy w' v.ownBlock) : Wrs bl w0 w' := by
  have h1 : Below w0.heap.size w w' := (Below.refl _ w).grown hg h.size (fun k hk => (hown.lt k hk).1)
  exact ⟨h1.os.trans h.os, h1.tape.trans h.tape, h1.output.trans h.output, Nat.le_trans h.size h1.size, fun g hg hb => (h1.block g hg).trans (h.blk g hg hb)⟩
theorem news1 (w : World) (t : TypeId) (x : List Int) (v : Value) : ∀ j p, ([(x, v)] : List (List Int × Value))[j]? = some p → (w.alloc (.cells #[v] t)).cell? ⟨w.heap.size, 0 + j, none⟩ = some p.2
  | 0, p, h => by
    injection h with h
    subst h
    exact (Blk.new _ _ _).cell 0
  | j + 1, p, h => by cases h
theorem one1 {x : List Int} {v : Value} (h : v.oneCell' = true) : ∀ p ∈ ([(x, v)] : List (List Int × Value)), p.2.oneCell' = true := fun p hp => by
  rw [List.mem_singleton.1 hp]
  exact h
/-- append of bytes onto none. -/
theorem wp_app_name {ops : Array Oper} {rest : List Oper} {o : Oper} {a : Act} {Q : Exit → Act → World → Prop} {w : World} (hgd : o.guard = none) (s x : Operand)
    (ho : o.op = .call { callee := .builtin .append, args := #[s, x], argTypes := #[37, 37] }) (hs : a.eval s = .slice none 0 0) (t : ByteArray) (v : Value) (hx : a.eval x = v) (hb : BS w v t) (hlen : t.size ≤ 100000000)
    (h : ∀ v' w', NmK w' v' t → Below w.heap.size w w' → wpList Tryd.prog ops Q rest (a.put o.dst v') w') : wpList Tryd.prog ops Q (o :: rest) a w := by
  obtain ⟨a', b, o', c, hv, ha, hc⟩ := hb
  by_cases q : 0 < t.size
  · obtain rfl := ha q
    refine wp_app_at hgd s x ho w.heap.size (.slice none 0 0) [] hs (World.ownsRow_nil _ _ _ _) b o' c (nb t) (by rw [hx, hv, nb_len]) (fun j hj => ?_) (by rw [nb_len]; simp; omega) (Nat.le_refl _) (fun v' w' l hl h1 h2 => ?_)
    · rw [nb_len] at hj
      rw [nb_at t hj]
      exact hc j hj
    · refine h v' w' ?_ ((Below.refl _ w).grown h2 (Nat.le_refl _) (fun k hk => by cases hk))
      have e : l = nb t := by rw [hl.out, List.nil_append]
      rw [e] at h1
      have := own_nmk h1 (nb_lo t)
      rw [byt_nb] at this
      exact this
  · have q0 : t.size = 0 := by omega
    obtain ⟨i0, hi, hz0, hz1, hz2⟩ := info_parts Tryd.info5
    have hr : (Builtin.append_ #[37, 37] o.type #[.slice none 0 0, .slice a' 0 c]).run Tryd.prog w = .ok (.slice none 0 0) w := by
      simp [Builtin.append_, run_underlying Tryd.underlying37, sizeOf, typeInfo, hi, Builtin.lenOf, Builtin.firstCells, loadCells, loadCellsFrom]
      cases a' <;> rfl
    refine wpList_plain hgd fun K hK => ?_
    unfold Oper.wp execOp
    rw [q0] at hv
    simp only [ho, resolve, invoke, builtin, Sem.run_bind, Sem.run_pure, Result.andThen_ok, List.map_toArray, List.map_cons, List.map_nil, hs, hx, hv, hr]
    exact hK _ _ (h _ _ ⟨none, 0, by rw [q0], fun hq => absurd hq q⟩ (Below.refl _ _))
end Go.Proofs.YtpnocklldlacjaaDoor

/-
  The walk of laws.FnTokens.
-/
import Derived.Test.YthoinjddamlapaaGreatDoorJToGDL
import Derived.Test.YthoinjddamlapaaGreatDoorJToRI
import Derived.Test.YthoinjddamlapaaGreatDoorJToLXQ
import Derived.Test.YthoinjddamlapaaGreatDoorJToLXQ
import Derived.Test.YthoinjddamlapaaGreatDoorJToLXQ
import Derived.BigQuiet
namespace Go.Proofs.YthoinjddamlapaaGreatDoor
open Go.RowKit

theorem tk_at {s : ByteArray} {a : Nat} {T : List (Nat × Nat × Nat)} {j : Nat} (h : TkL s a (T.drop j)) (hj : j < T.length) :
    ∃ p, Gp s a p ∧ p < s.size ∧ bl s p = 0 ∧ (tok s p).2 ≠ 0 ∧ TkL s (p + (tok s p).2) (T.drop (j + 1)) ∧ T.getD j (0, 0, 0) = ((tok s p).1, p, (tok s p).2) := by
  rw [List.drop_eq_getElem_cons hj] at h
  have e : T.getD j (0, 0, 0) = T[j] := by simp [List.getD, hj]
  rw [e]
  generalize T[j] = x at h ⊢
  generalize T.drop (j + 1) = U at h ⊢
  cases h with
  | cons h1 h2 h3 h4 h5 => exact ⟨_, h1, h2, h3, h4, h5, rfl⟩
theorem tk_end {s : ByteArray} {a : Nat} {T : List (Nat × Nat × Nat)} (h : TkL s a (T.drop T.length)) : Gp s a s.size := by
  rw [List.drop_length] at h
  cases h with
  | nil h => exact h
theorem own_empty {V : World} {B : Nat} (h : B ≤ V.heap.size) : (V.alloc (.cells #[] 5)).ownsRow B 5 1 (.slice (some ⟨V.heap.size, 0, none⟩) 0 0) ([] : List Nat).length (cv []) :=
  ⟨rfl, .inr ⟨V.heap.size, 0, #[], rfl, h, heap_alloc_new V _, Nat.le_refl _, Nat.zero_le _, rfl, rfl⟩⟩
/-- A piece of a row. -/
def pc (L : List Nat) (a p : Nat) : List Nat := (L.drop a).take (p - a)
theorem pc_len {L : List Nat} {a p : Nat} (ha : a ≤ p) (hp : p ≤ L.length) : (pc L a p).length = p - a := by unfold pc; rw [List.length_take, List.length_drop]; omega
theorem pc_at {L : List Nat} {a p j : Nat} (hj : j < p - a) : (pc L a p).getD j 0 = L.getD (a + j) 0 := by
  unfold pc
  simp only [List.getD, List.getElem?_take, List.getElem?_drop]
  rw [if_pos hj]
theorem pc_lo {L : List Nat} (h : Lo L) (a p : Nat) : Lo (pc L a p) := fun x hx => h x (List.mem_of_mem_drop (List.mem_of_mem_take hx))
theorem byt_ext {L : List Nat} (hl : Lo L) {a p : Nat} (ha : a ≤ p) (hp : p ≤ L.length) : byt (pc L a p) = (byt L).extract a p := by
  have hz := pc_len ha hp
  have hz2 := size_ext2 (byt L) a p (by rw [byt_size]; exact hp)
  refine ext_bytes (by rw [byt_size, hz, hz2]) (fun j hj => ?_)
  rw [byt_size, hz] at hj
  rw [get!_ext2 (byt L) a p j (by rw [byt_size]; exact hp) (by omega)]
  have e1 := byt_bts (pc_lo hl a p) (j := j) (by omega)
  have e2 := byt_bts hl (j := a + j) (by omega)
  rw [pc_at hj, ← e2] at e1
  unfold bts at e1
  injection e1 with _ e1
  exact UInt8.toNat_inj.1 (by omega)
theorem LexGives.view {w w' : World} {e : Ending} {r : List (Nat × Nat × Nat) × Nat × Nat} {Q : List (Nat × Nat × Nat)} {A D : Nat} (hr : r = (Q, A, D)) (h : LexGives w w' e r) :
    ∃ a g c, e = .returned (.tuple #[.slice a Q.length c, .int .i64 (A : Nat), .int .i64 (D : Nat)]) ∧ (0 < Q.length → a = some ⟨g, 0, none⟩) ∧ (0 < Q.length → g < w'.heap.size) ∧ TCells w' g Q ∧ Below w.heap.size w w' := by
  subst hr
  obtain ⟨v', rfl, h, hb⟩ := h
  simp only at h
  rcases h.2 with ⟨hv, h0⟩ | ⟨g, c, cur, hv, hb', hg, _⟩
  · exact ⟨none, w.heap.size, 0, by rw [hv, h0], fun h => by omega, fun h => by omega, fun i hi => by omega, hb⟩
  · rw [hv] at h
    have hcell := fun j hj => h.cellAt j hj
    refine ⟨some ⟨g, 0, none⟩, g, c, by rw [hv], fun _ => rfl, fun _ => (Array.getElem?_eq_some_iff.1 hg).1, fun i hi => ?_, hb⟩
    obtain ⟨x, y, z⟩ := tcv_at Q i hi
    exact ⟨by rw [hcell _ (by omega)]; exact x, by rw [hcell _ (by omega)]; exact y, by rw [hcell _ (by omega)]; exact z⟩
theorem lexGives_one {w w' : World} {e : Ending} {r : List (Nat × Nat × Nat) × Nat × Nat} {k n : Nat} (hr : r = ([(k, 0, n)], 0, 0)) (h : LexGives w w' e r) :
    ∃ g c, e = .returned (.tuple #[.slice (some ⟨g, 0, none⟩) 1 c, .int .i64 0, .int .i64 0]) ∧ w'.cell? ⟨g, 0, none⟩ = some (.int .i64 (k : Nat)) ∧ w'.cell? ⟨g, 2, none⟩ = some (.int .i64 (n : Nat)) ∧ Below w.heap.size w w' := by
  subst hr
  obtain ⟨v', rfl, ho, hb⟩ := h
  have ho' : w'.ownsRow w.heap.size 28 3 v' 1 (tcv [(k, 0, n)]) := ho
  rcases ho'.2 with ⟨_, h0⟩ | ⟨g, c, cur, rfl, _⟩
  · omega
  · have hc := fun j hj => ho'.cellAt j hj
    exact ⟨g, c, rfl, hc 0 (by omega), hc 2 (by omega), hb⟩
/-- The row that an append onto an empty one leaves. -/
theorem app_nr {V w4 w5 : World} {v5 : Value} {P l5 : List Nat} (hb : Below w4.heap.size w4 V) (hl : l5 = [] ++ P) (ho : w5.ownsRow w4.heap.size 5 1 v5 l5.length (cv l5)) (hg : (V.alloc (.cells #[] 5)).grownBy w5 (Value.slice (some ⟨V.heap.size, 0, none⟩) 0 0).ownBlock) : NR w5 w4.heap.size v5 P ∧ Below w4.heap.size w4 w5 := by
  rw [List.nil_append] at hl
  subst hl
  exact ⟨own_nr ho (Nat.le_refl _), (hb.alloc hb.size _).grown hg (by have := hb.size; simp; omega) (fun k hk => ((own_empty hb.size).lt k hk).1)⟩
set_option maxHeartbeats 400000 in
set_option maxRecDepth 1000000 in
theorem lawTok_big (a0 : Option Addr) (len cap : Nat) (w : World) (h : 1048576 < (len : Int)) :
    Calls Tryz.prog 3 #[.slice a0 len cap] w fun e w' => e = .returned (.bool true) ∧ Below w.heap.size w w' := by
  go_enter Tryz.func3, Tryz.ntmps3
  go_wp2
  go_ret
  exact ⟨rfl, Below.refl _ _⟩

set_option maxHeartbeats 8000000 in
set_option maxRecDepth 1000000 in
theorem lawTok_small (a0 : Option Addr) (b off cap : Nat) (cs : ByteArray) (w : World) (hs : cs.size ≤ 1048576) (hcap : cs.size ≤ cap) (m : Int) (te1 te2 : TypeId) (pe1 pe2 : Value) (hlib : LibOk w m te1 te2 pe1 pe2)
    (ha : 0 < cs.size → a0 = some ⟨b, off, none⟩) (hc : ∀ j, j < cs.size → w.cell? ⟨b, off + j, none⟩ = some (bts cs j)) :
    Calls Tryz.prog 3 #[.slice a0 cs.size cap] w fun e w' => e = .returned (.bool true) ∧ Below w.heap.size w w' := by
  have HDRAW : Hid (∀ w', Below w.heap.size w w' → Calls Tryz.prog 4 #[.slice a0 cs.size cap] w' (LxQ (gLx cs (min cs.size 600)) w')) := fun w' hb =>
    drawLex_any w' a0 b off cap cs hs hcap ha (fun j hj => by rw [hb.cell (p := ⟨b, off + j, none⟩) (World.block_lt_of_cell? _ _ (hc j hj))]; exact hc j hj)
  have HLIB : Hid (∀ w', Below w.heap.size w w' → LibOk w' m te1 te2 pe1 pe2) := fun w' hb => hlib.below hb
  obtain ⟨L, hL⟩ : ∃ L, gLx cs (min cs.size 600) = L := ⟨_, rfl⟩
  rw [hL] at HDRAW
  have hlt0 : ((cs.size : Int) > 1048576) = False := by simp; omega
  obtain ⟨Q, A, D, hQ⟩ : ∃ Q A D, lexed (byt L) = (Q, A, D) := ⟨_, _, _, rfl⟩
  have HQ := hide hQ
  have hql := lexed_len (byt L)
  rw [hQ] at hql
  simp only at hql
  have hAA : ((A : Int) != (A : Int)) = false := by simp
  have hDD : ((D : Int) != (D : Int)) = false := by simp
  have hQQ : ((Q.length : Int) != (Q.length : Int)) = false := by simp
  clear hlib ha hc hL hQ
  go_enter Tryz.func3, Tryz.ntmps3
  go_wp2_with fail
  refine (HDRAW.out w (Below.refl _ _)).mono ?_
  rintro e w1 ⟨v1, rfl, hn1, hlo, hle, hb1⟩
  have HN1 := hide hn1
  have HLO := hide hlo
  have HB1 := hide hb1
  clear hn1 hlo hle hb1
  go_wp2_with fail
  refine (specLex_nr HN1.out HLO.out).mono ?_
  intro e w2 hgv
  obtain ⟨a2, g2, c2, rfl, _, _, _, hb2⟩ := hgv.view HQ.out
  have HB2 : Hid (Below w.heap.size w w2) := HB1.out.trans (hb2.mono HB1.out.size)
  have HB12 := hide hb2
  clear hb2 hgv
  go_wp2_with fail
  refine (HDRAW.out w2 HB2.out).mono ?_
  rintro e w3 ⟨v3, rfl, hn3, _, _, hb3⟩
  have HN3 := hide hn3
  have HB3 : Hid (Below w.heap.size w w3) := HB2.out.trans (hb3.mono HB2.out.size)
  have HB13 : Hid (Below w1.heap.size w1 w3) := HB12.out.trans (hb3.mono HB12.out.size)
  clear hn3 hb3 HB2 HB12
  go_wp2_with fail
  refine (implLex_nr HN3.out HLO.out m te1 te2 pe1 pe2 (HLIB.out w3 HB3.out)).mono ?_
  intro e w4 hgv
  obtain ⟨a4, g4, c4, rfl, ha4, hg4, hc4, hb4⟩ := hgv.view HQ.out
  have HB4 : Hid (Below w.heap.size w w4) := HB3.out.trans (hb4.mono HB3.out.size)
  have HB14 : Hid (Below w1.heap.size w1 w4) := HB13.out.trans (hb4.mono HB13.out.size)
  have HA4 := hide ha4
  have HC4 := hide hc4
  clear ha4 hc4 hb4 hgv HB3 HB13 HN3 hg4
  by_cases hA : A = 0
  · obtain ⟨hz, hck, T, hT, hTk⟩ := lexed_tk (s := byt L) (by rw [HQ.out]; exact hA)
    have e := HQ.out.symm.trans hT
    injection e with e1 e2
    injection e2 with e2 e3
    subst e1
    have hA0 : ((A : Int) != 0) = false := by rw [hA]; rfl
    have HTK := hide hTk
    have HCK := hide hck
    have HZ := hide hz
    rw [byt_size] at hz
    clear hT hTk hck e3 hA e2
    rcases HN1.out with ⟨g1, c1, rfl, hlc, hg1, hc1⟩ | ⟨rfl, rfl⟩
    · have HC1 : Hid (∀ V, Below w4.heap.size w4 V → ∀ j, j < L.length → V.cell? ⟨g1, j, none⟩ = some (.int .u8 (L.getD j 0 : Nat))) := fun V hV j hj => cell_kept (cell_kept (hc1 j hj) HB14.out) hV
      have HCT : Hid (∀ V, Below w4.heap.size w4 V → ∀ j, j < Q.length → V.cell? ⟨g4, j * 3, none⟩ = some (.int .i64 ((Q.getD j (0, 0, 0)).1 : Nat)) ∧ V.cell? ⟨g4, j * 3 + 1, none⟩ = some (.int .i64 ((Q.getD j (0, 0, 0)).2.1 : Nat)) ∧ V.cell? ⟨g4, j * 3 + 2, none⟩ = some (.int .i64 ((Q.getD j (0, 0, 0)).2.2 : Nat))) := fun V hV j hj => by
        obtain ⟨x, y, z⟩ := HC4.out j hj
        exact ⟨cell_kept x hV, cell_kept y hV, cell_kept z hV⟩
      have HBW : Hid (∀ V, Below w4.heap.size w4 V → Below w.heap.size w V) := fun V hV => HB4.out.trans (hV.mono HB4.out.size)
      clear hc1 HN1 hg1
      go_wp2
      go_loopw [10, 11] (fun en ix wr => ∃ j a : Nat, j ≤ Q.length + 1 ∧ ix = .int .i64 j ∧ en = .int .i64 a ∧ a ≤ L.length ∧ (j ≤ Q.length → TkL (byt L) a (Q.drop j)) ∧ Below w4.heap.size w4 wr) (fun _ ix _ => Q.length + 1 - (intOf ix).toNat)
      case atStart => exact ⟨0, 0, Nat.zero_le _, rfl, rfl, Nat.zero_le _, fun _ => HTK.out, Below.refl _ _⟩
      case round =>
        obtain ⟨j, a, hj, rfl, rfl, hal, htk, hbl⟩ := hrel
        rename World => V
        have HBL := hide hbl
        by_cases h1 : j ≤ Q.length
        · have hle1 : (j : Int) ≤ (Q.length : Int) := by omega
          by_cases h2 : j < Q.length
          · obtain ⟨p, q1, q2, q3, q4, q5, q6⟩ := tk_at (htk h1) h2
            have hlt2 : (j : Int) < (Q.length : Int) := by omega
            obtain ⟨x0, x1, x2⟩ := HCT.out V hbl j h2
            rw [q6] at x0 x1 x2
            have hpe := tok_le (byt L) p q2
            rw [byt_size] at hpe q2
            have hap := q1.le
            obtain ⟨k, hk⟩ : ∃ k, (tok (byt L) p).1 = k := ⟨_, rfl⟩
            obtain ⟨ln, hln⟩ : ∃ ln, (tok (byt L) p).2 = ln := ⟨_, rfl⟩
            simp only [hk, hln] at x0 x1 x2 hpe q4
            have HQ1 := hide q1
            have HQ5 := hide q5
            have HQ3 := hide q3
            have HK := hide hk
            have HLN := hide hln
            obtain rfl := HA4.out (by omega)
            have hgap : lexed (byt (pc L a p)) = ([], 0, 0) := by
              rw [byt_ext HLO.out hap (by omega)]
              exact gap_one HZ.out HCK.out q1 (by rw [byt_size]; omega) (.inr (tok_ascii (by rw [byt_size]; omega) (by rw [hln]; exact q4)))
            have hone : lexed (byt (pc L p (p + ln))) = ([(k, 0, ln)], 0, 0) := by
              rw [byt_ext HLO.out (by omega) (by omega)]
              have h9 := tok_one HZ.out HCK.out (p := p) (by rw [byt_size]; omega) q3 (by rw [hln]; exact q4) q5.low
              rw [hk, hln] at h9
              exact h9
            have HN5 : Hid (TkL (byt L) (p + ln) (Q.drop (j + 1))) := by show TkL _ _ _; rw [← hln]; exact q5
            have hpl := pc_len hap (by omega : p ≤ L.length)
            have hrl := pc_len (L := L) (a := p) (p := p + ln) (by omega) (by omega)
            have HPC : Hid (∀ W, Below w4.heap.size w4 W → ∀ j', j' < (pc L a p).length → W.cell? ⟨g1, a + j', none⟩ = some (.int .u8 ((pc L a p).getD j' 0 : Nat))) := fun W hW j' hj' => by
              rw [hpl] at hj'; rw [pc_at hj']; exact HC1.out W hW _ (by omega)
            have HRC : Hid (∀ W, Below w4.heap.size w4 W → ∀ j', j' < (pc L p (p + ln)).length → W.cell? ⟨g1, p + j', none⟩ = some (.int .u8 ((pc L p (p + ln)).getD j' 0 : Nat))) := fun W hW j' hj' => by
              rw [hrl] at hj'; rw [pc_at hj']; exact HC1.out W hW _ (by omega)
            have HPO := hide (pc_lo HLO.out a p)
            have HRO := hide (pc_lo HLO.out p (p + ln))
            obtain ⟨P, hP⟩ : ∃ P, pc L a p = P := ⟨_, rfl⟩
            obtain ⟨R, hR⟩ : ∃ R, pc L p (p + ln) = R := ⟨_, rfl⟩
            rw [hP] at hgap hpl HPC HPO
            rw [hR] at hone hrl HRC HRO
            have hrl' : R.length = ln := by omega
            subst hrl'
            have hpl' : p - a = P.length := hpl.symm
            have hPz : P.length ≤ 5000 := by omega
            have hRz : R.length ≤ 5000 := by omega
            have HGAP := hide hgap
            have HONE := hide hone
            have hac : a < c1 := by omega
            have hpc : p < c1 := by omega
            have HX := hide (fun W hW => HCT.out W hW j h2)
            rw [q6, hk, hln] at HX
            have hkk : ((k : Int) != (k : Int)) = false := by simp
            have hnn : ((R.length : Int) != (R.length : Int)) = false := by simp
            have tw : IntKind.i64.wrap ((p : Int) + (R.length : Int)) = ((p + R.length : Nat) : Int) := by rw [IntKind.wrap_i64]; omega
            clear htk hbl q1 q3 q5 q6 hk hln hgap hone hpl hrl hP hR HQ1 HQ5 HQ3 HK HLN
            go_wp2_with (at_builtin; refine wp_app_at rfl _ _ rfl w4.heap.size _ [] rfl (own_empty HBL.out.size) g1 a (c1 - a) P rfl (HPC.out _ (HBL.out.alloc HBL.out.size _)) (by show 0 + P.length ≤ 100000000; omega) (by have := HBL.out.size; simp; omega) ?_; intro v5 w5 l5 hl5 ho5 hg5; have HA5 := hide (app_nr HBL.out hl5.out ho5 hg5); clear hl5 ho5 hg5; skip)
            refine (implLex_nr HA5.out.1 HPO.out m te1 te2 pe1 pe2 (HLIB.out w5 (HBW.out _ HA5.out.2))).mono ?_
            intro e w6 hgv
            obtain ⟨a6, g6, c6, rfl, _, _, _, hb6⟩ := hgv.view HGAP.out
            have HB6 : Hid (Below w4.heap.size w4 w6) := HA5.out.2.trans (hb6.mono HA5.out.2.size)
            have HB6a : Hid (Below w4.heap.size w4 (w6.alloc (.cells #[] 5))) := HB6.out.alloc HB6.out.size _
            obtain ⟨y0, y1, y2⟩ := HX.out w6 HB6.out
            obtain ⟨z0, z1, z2⟩ := HX.out _ HB6a.out
            have e0 : ([] : List (Nat × Nat × Nat)).length = 0 := rfl
            rw [e0]
            clear hb6 hgv HA5 HGAP HPC HPO x0 x1 x2 e0 HB6a
            go_wp2_with (at_builtin; refine wp_app_at rfl _ _ rfl w4.heap.size _ [] rfl (own_empty HB6.out.size) g1 p (c1 - p) R (by show Value.slice _ _ _ = _; simp) (HRC.out _ (HB6.out.alloc HB6.out.size _)) (by show 0 + R.length ≤ 100000000; omega) (by have := HB6.out.size; simp; omega) ?_; intro v7 w7 l7 hl7 ho7 hg7; have HA7 := hide (app_nr HB6.out hl7.out ho7 hg7); clear hl7 ho7 hg7; skip)
            refine (implLex_nr HA7.out.1 HRO.out m te1 te2 pe1 pe2 (HLIB.out w7 (HBW.out _ HA7.out.2))).mono ?_
            intro e w8 hgv
            obtain ⟨g8, c8, rfl, k8, n8, hb8⟩ := lexGives_one HONE.out hgv
            have HB8 : Hid (Below w4.heap.size w4 w8) := HA7.out.2.trans (hb8.mono HA7.out.2.size)
            have HBD : Hid (∀ q, Below w4.heap.size w4 (w8.drewN q)) := fun q => below_drewN HB8.out q
            obtain ⟨u0, u1, u2⟩ := HX.out w8 HB8.out
            clear hb8 hgv HA7 HONE HRC HRO y0 y1 y2 z0 z1 z2 HB6
            go_wp2_with fail
            go_quiet (fail)
            go_wp2
            go_roundw
            case rel => exact ⟨j + 1, p + R.length, by omega, by go_num, by first | rfl | go_num, by omega, fun _ => HN5.out, by first | exact HB8.out | exact HBD.out _⟩
            case measure => simp [intOf]; omega
          · have hjq : j = Q.length := by omega
            have hnl : ¬ (j : Int) < (Q.length : Int) := by omega
            have hgp := tk_end (s := byt L) (a := a) (T := Q) (by have := htk h1; rw [hjq] at this; exact this)
            rw [byt_size] at hgp
            have hgap : lexed (byt (pc L a L.length)) = ([], 0, 0) := by
              rw [byt_ext HLO.out hal (Nat.le_refl _)]
              exact gap_one HZ.out HCK.out hgp (by rw [byt_size]; omega) (.inl (by rw [byt_size]))
            have hpl := pc_len hal (Nat.le_refl L.length)
            have HPC : Hid (∀ W, Below w4.heap.size w4 W → ∀ j', j' < (pc L a L.length).length → W.cell? ⟨g1, a + j', none⟩ = some (.int .u8 ((pc L a L.length).getD j' 0 : Nat))) := fun W hW j' hj' => by
              rw [hpl] at hj'; rw [pc_at hj']; exact HC1.out W hW _ (by omega)
            have HPO := hide (pc_lo HLO.out a L.length)
            obtain ⟨P, hP⟩ : ∃ P, pc L a L.length = P := ⟨_, rfl⟩
            rw [hP] at hgap hpl HPC HPO
            have hpl' : L.length - a = P.length := hpl.symm
            have hPz : P.length ≤ 5000 := by omega
            have HGAP := hide hgap
            have HJQ := hide hjq
            by_cases hac : a < c1
            · clear htk hbl hgp hgap hpl hP hjq
              go_wp2_with (at_builtin; refine wp_app_at rfl _ _ rfl w4.heap.size _ [] rfl (own_empty HBL.out.size) g1 a (c1 - a) P rfl (HPC.out _ (HBL.out.alloc HBL.out.size _)) (by show 0 + P.length ≤ 100000000; omega) (by have := HBL.out.size; simp; omega) ?_; intro v5 w5 l5 hl5 ho5 hg5; have HA5 := hide (app_nr HBL.out hl5.out ho5 hg5); clear hl5 ho5 hg5; skip)
              refine (implLex_nr HA5.out.1 HPO.out m te1 te2 pe1 pe2 (HLIB.out w5 (HBW.out _ HA5.out.2))).mono ?_
              intro e w6 hgv
              obtain ⟨a6, g6, c6, rfl, _, _, _, hb6⟩ := hgv.view HGAP.out
              have HB6 : Hid (Below w4.heap.size w4 w6) := HA5.out.2.trans (hb6.mono HA5.out.2.size)
              have HBD : Hid (∀ q, Below w4.heap.size w4 (w6.drewN q)) := fun q => below_drewN HB6.out q
              have e0 : ([] : List (Nat × Nat × Nat)).length = 0 := rfl
              rw [e0]
              clear hb6 hgv HA5 HGAP HPC HPO e0
              go_wp2
              go_roundw
              case rel => exact ⟨j + 1, a, by omega, by go_num, rfl, hal, fun q => by have := HJQ.out; omega, by first | exact HB6.out | exact HBD.out _⟩
              case measure => simp [intOf]; omega
            · have hac' : a = c1 := by omega
              have hLc : L.length = c1 := by omega
              have hP0 : P = [] := List.eq_nil_of_length_eq_zero (by omega)
              have HA5 : Hid (NR (V.alloc (.cells #[] 5)) w4.heap.size (.slice (some ⟨V.heap.size, 0, none⟩) 0 0) P ∧ Below w4.heap.size w4 (V.alloc (.cells #[] 5))) := ⟨by rw [hP0]; exact .inl ⟨V.heap.size, 0, rfl, Nat.le_refl _, HBL.out.size, fun j' hj' => absurd hj' (Nat.not_lt_zero _)⟩, HBL.out.alloc HBL.out.size _⟩
              subst hLc
              subst hac'
              clear htk hbl hgp hgap hpl hP hjq hP0 HPC hac hpl'
              go_wp2_with fail
              refine (implLex_nr HA5.out.1 HPO.out m te1 te2 pe1 pe2 (HLIB.out _ (HBW.out _ HA5.out.2))).mono ?_
              intro e w6 hgv
              obtain ⟨a6, g6, c6, rfl, _, _, _, hb6⟩ := hgv.view HGAP.out
              have HB6 : Hid (Below w4.heap.size w4 w6) := HA5.out.2.trans (hb6.mono HA5.out.2.size)
              have HBD : Hid (∀ q, Below w4.heap.size w4 (w6.drewN q)) := fun q => below_drewN HB6.out q
              have e0 : ([] : List (Nat × Nat × Nat)).length = 0 := rfl
              rw [e0]
              clear hb6 hgv HA5 HGAP HPO e0
              go_wp2
              go_roundw
              case rel => exact ⟨j + 1, L.length, by omega, by go_num, rfl, Nat.le_refl _, fun q => by have := HJQ.out; omega, by first | exact HB6.out | exact HBD.out _⟩
              case measure => simp [intOf]; omega
        · have hjq : j = Q.length + 1 := by omega
          have hnl : ¬ (j : Int) ≤ (Q.length : Int) := by omega
          have HF := hide (HBW.out V hbl)
          clear htk hbl
          go_wp2
          go_ret
          exact ⟨rfl, HF.out⟩
    · have hQ0 : Q = [] := by
        have h9 := HQ.out
        rw [show lexed (byt []) = ([], 0, 0) by decide] at h9
        injection h9 with h9
        exact h9.symm
      subst hQ0
      have HBW : Hid (∀ V, Below w4.heap.size w4 V → Below w.heap.size w V) := fun V hV => HB4.out.trans (hV.mono HB4.out.size)
      have HE : Hid (lexed (byt []) = ([], 0, 0)) := by show _ = _; decide
      clear HTK HCK HZ HA4 HC4 hql hz
      go_wp2
      go_loopw [10, 11] (fun en ix wr => ∃ j : Nat, j ≤ 1 ∧ ix = .int .i64 j ∧ en = .int .i64 0 ∧ Below w4.heap.size w4 wr) (fun _ ix _ => 1 - (intOf ix).toNat)
      case atStart => exact ⟨0, Nat.zero_le _, rfl, rfl, Below.refl _ _⟩
      case round =>
        obtain ⟨j, hj, rfl, rfl, hbl⟩ := hrel
        rename World => V
        have hj2 : j = 0 ∨ j = 1 := by omega
        rcases hj2 with rfl | rfl
        · have HBL := hide hbl
          have HA5 : Hid (NR (V.alloc (.cells #[] 5)) w4.heap.size (.slice (some ⟨V.heap.size, 0, none⟩) 0 0) [] ∧ Below w4.heap.size w4 (V.alloc (.cells #[] 5))) := ⟨.inl ⟨V.heap.size, 0, rfl, Nat.le_refl _, HBL.out.size, fun j' hj' => absurd hj' (Nat.not_lt_zero _)⟩, HBL.out.alloc HBL.out.size _⟩
          clear hbl
          go_wp2_with fail
          refine (implLex_nr HA5.out.1 Lo.nil m te1 te2 pe1 pe2 (HLIB.out _ (HBW.out _ HA5.out.2))).mono ?_
          intro e w6 hgv
          obtain ⟨a6, g6, c6, rfl, _, _, _, hb6⟩ := hgv.view HE.out
          have HB6 : Hid (Below w4.heap.size w4 w6) := HA5.out.2.trans (hb6.mono HA5.out.2.size)
          have HBD : Hid (∀ q, Below w4.heap.size w4 (w6.drewN q)) := fun q => below_drewN HB6.out q
          have e0 : ([] : List (Nat × Nat × Nat)).length = 0 := rfl
          rw [e0]
          clear hb6 hgv HA5 e0
          go_wp2
          go_roundw
          case rel => exact ⟨1, Nat.le_refl _, rfl, rfl, by first | exact HB6.out | exact HBD.out _⟩
          case measure => simp [intOf]
        · have HF := hide (HBW.out V hbl)
          clear hbl
          go_wp2
          go_ret
          exact ⟨rfl, HF.out⟩
  · have hA1 : ((A : Int) != 0) = true := by rw [bne_iff_ne]; omega
    have hQ0 : Q = [] := by have := lexed_bad (s := byt L) (by rw [HQ.out]; exact hA); rw [HQ.out] at this; exact this
    subst hQ0
    clear hA
    go_wp2
    go_ret
    exact ⟨rfl, HB4.out⟩
end Go.Proofs.YthoinjddamlapaaGreatDoor

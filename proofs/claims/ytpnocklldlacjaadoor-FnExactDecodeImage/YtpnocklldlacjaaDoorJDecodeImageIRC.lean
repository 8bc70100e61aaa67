/-
  The walk of impl's reader: tables.
-/
import Derived.Test.YtpnocklldlacjaaDoorJDecodeImageKRS
import Derived.Test.YtpnocklldlacjaaDoorJDecodeImageIRB
import Derived.Test.YtpnocklldlacjaaDoorJDecodeImageKRS
import Derived.Test.YtpnocklldlacjaaDoorJDecodeImageKRS
import Derived.Test.YtpnocklldlacjaaDoorJDecodeImageIRB
namespace Go.Proofs.YtpnocklldlacjaaDoor
open Go.RowKit

theorem split_st {P : Nat × Bool → Prop} {st : Nat × Bool} (h : P st) : ∃ p, P (p, false) ∨ P (p, true) := by
  obtain ⟨p, b⟩ := st
  cases b
  · exact ⟨p, .inl h⟩
  · exact ⟨p, .inr h⟩
theorem nbl_snoc (L : List (Tg × Value)) (t : Tg) (u : Value) : nbl (L ++ [(t, u)]) = nbl L ++ vb u t.name.size := by
  unfold nbl
  rw [List.flatMap_append]
  exact congrArg _ (List.append_nil _)
theorem ibl_snoc (L : List (List Int × Value)) (t : List Int) (u : Value) : ibl (L ++ [(t, u)]) = ibl L ++ vb u t.length := by
  unfold ibl
  rw [List.flatMap_append]
  exact congrArg _ (List.append_nil _)
theorem Els.snoc {w w' : World} {B : Nat} {l x : List Nat} (h : Els w B l) (hx : x.Nodup) (hn : ∀ k ∈ x, w.heap.size ≤ k ∧ k < w'.heap.size) (hs : w.heap.size ≤ w'.heap.size) (hB : B ≤ w.heap.size) : Els w' B (l ++ x) := by
  have := Els.mid (l1 := l) (l2 := []) (by rw [List.append_nil]; exact h) hx hn hs hB
  rw [List.append_nil] at this
  exact this
theorem rTs_bd {s : ByteArray} {st : Nat × Bool} : ∀ k, ∀ t ∈ (rTs (fb s) s.size st k).1, t.name.size ≤ 256 ∧ 0 ≤ t.kind ∧ t.kind < 65536 ∧ 0 ≤ t.cell ∧ t.cell < 65536
  | 0, t, h => nomatch h
  | k + 1, t, h => by
    have hn := rTs_nm (k + 1) t h
    rcases List.mem_append.1 (show t ∈ (rTs (fb s) s.size st k).1 ++ [_] from h) with h | h
    · exact rTs_bd k t h
    · have e := List.mem_singleton.1 h
      have h1 : (rn (fb s) s.size (rTs (fb s) s.size st k).2 1).1 < 256 ^ 1 := rn_lt
      have h2 : (rn (fb s) s.size (rn (fb s) s.size (rTs (fb s) s.size st k).2 1).2 2).1 < 256 ^ 2 := rn_lt
      have ek : t.kind = ((rn (fb s) s.size (rTs (fb s) s.size st k).2 1).1 : Nat) := by rw [e]; rfl
      have ec : t.cell = ((rn (fb s) s.size (rn (fb s) s.size (rTs (fb s) s.size st k).2 1).2 2).1 : Nat) := by rw [e]; rfl
      refine ⟨hn, by omega, ?_, by omega, ?_⟩
      · rw [ek]
        have : (256 : Nat) ^ 1 = 256 := rfl
        omega
      · rw [ec]
        have : (256 : Nat) ^ 2 = 65536 := rfl
        omega
theorem rto_zero {w W : World} {g b o c : Nat} {a : Addr} {s : ByteArray} {st st0 : Nat × Bool} (h : Rz w g b o c a s st0) (hw : Wrs [g] w W) (hr : RiS W g b o c a s st) (hb : st.2 = true) (hn : NoIm s) : RtO w g b o c a s W ⟨0, 0, [], [], []⟩ (.slice none 0 0) (.slice none 0 0) (.slice none 0 0) st :=
  ⟨h.wrs hr hw, hw, fun _ => hn, (fun h => by rw [hb] at h; cases h), ⟨w.heap.size, [], [], [], Nat.le_refl _, TS.nil _ _, Els.nil _ _, Els.nil _ _, rfl, rfl, rfl, by decide, by decide, by decide, fun _ h => (nomatch h), fun _ h => (nomatch h), fun _ h => (nomatch h)⟩⟩
theorem wrs_five {bl : List Nat} {w w' : World} {M : Nat} (h : Wrs bl w w') (hM : w.heap.size ≤ M) (a0 a1 a2 a3 a4 : Value) : Wrs bl w (((((w'.setCell ⟨M, 0, none⟩ a0).setCell ⟨M, 1, none⟩ a1).setCell ⟨M, 2, none⟩ a2).setCell ⟨M, 3, none⟩ a3).setCell ⟨M, 4, none⟩ a4) :=
  wrs_new (wrs_new (wrs_new (wrs_new (wrs_new h hM) hM) hM) hM) hM
theorem ris_five {w : World} {g b o c M : Nat} {a : Addr} {s : ByteArray} {st : Nat × Bool} {cs0 : Array Value} (h : RiS w g b o c a s st) (hM : Blk w M 30 cs0) (a0 a1 a2 a3 a4 : Value) : RiS (((((w.setCell ⟨M, 0, none⟩ a0).setCell ⟨M, 1, none⟩ a1).setCell ⟨M, 2, none⟩ a2).setCell ⟨M, 3, none⟩ a3).setCell ⟨M, 4, none⟩ a4) g b o c a s st := by
  obtain ⟨h1, a', h2, h3⟩ := h
  exact ⟨h1, a', typed_five hM h2 (by decide) _ _ _ _ _, h3⟩

set_option maxHeartbeats 4000000 in
set_option maxRecDepth 1000000 in
theorem rtables_any {w : World} {g b o c : Nat} {a : Addr} {s : ByteArray} (h : Rz w g b o c a s (0, false)) :
    Calls Tryd.prog 45 #[.pointer (some ⟨g, 0, none⟩)] w fun e w' => ∃ d vT vD vH st, e = .returned (tbagg d vT vD vH) ∧ RtO w g b o c a s w' d vT vD vH st := by
  have hgl := h.lt
  have HRW := hide h
  have hel : 0 < w.heap.size := World.block_lt_of_cell? _ _ h.er
  have HBL : Hid (∀ j, j < s.size → b < w.heap.size) := fun j hj => World.block_lt_of_cell? _ _ (h.ty.cell j hj)
  obtain ⟨Z, hZ⟩ : ∃ Z, w.heap.size = Z := ⟨_, rfl⟩
  obtain ⟨w0, hw0⟩ : ∃ W, w.alloc (.cells #[.int .i64 0, .int .i64 0, .slice none 0 0, .slice none 0 0, .slice none 0 0] 30) = W := ⟨_, rfl⟩
  have hb0 : Below w.heap.size w w0 := by rw [← hw0]; exact (Below.refl _ _).alloc (Nat.le_refl _) _
  have HZ0 : Hid (Blk w0 Z 30 #[.int .i64 0, .int .i64 0, .slice none 0 0, .slice none 0 0, .slice none 0 0]) := by rw [← hw0, ← hZ]; exact Blk.new _ _ _
  have HR0 := hide (h.below hb0)
  have HW0 : Hid (Wrs [g] w w0) := Wrs.of_below hb0
  have hZg : Z ≠ g := by omega
  have HWW := hide hw0
  have HZZ := hide hZ
  clear h hb0 hw0 hZ
  go_enter Tryd.func45, Tryd.ntmps45
  go_wp2_with fail
  rw [HWW.out, HZZ.out]
  refine (HR0.out.take (n := 4) (by omega)).mono ?_
  rintro e w1 ⟨v1, rfl, hbs, hcp, hr1, hw1⟩
  have HZ1 := hide (wrs_blk hw1 HZ0.out hZg)
  have HW1 : Hid (Wrs [g] w w1) := HW0.out.trans hw1
  have HR1 := hide hr1
  have c1 := toStr_bs hbs
  obtain ⟨B4, hB4⟩ : ∃ B, (rb (fb s) s.size (0, false) 4).1 = B := ⟨_, rfl⟩
  obtain ⟨s1, hs1⟩ : ∃ B, (rb (fb s) s.size (0, false) 4).2 = B := ⟨_, rfl⟩
  rw [hB4] at hbs c1
  rw [hs1] at HR1
  obtain ⟨a1, c1', rfl⟩ := hbs.slice
  have HNS : Hid (B4 ≠ sgn → NoIm s) := fun hne => no_sign (by rw [hB4]; exact hne)
  have HS1 : Hid (B4 = sgn → s1 = (4, false) ∧ 4 ≤ s.size) := fun he => by
    unfold rb at hB4 hs1
    split at hB4
    · rw [he] at hB4
      exact absurd (congrArg ByteArray.size hB4) (by decide)
    · rename_i hx
      rw [if_neg hx] at hs1
      have := not_or.1 hx
      exact ⟨hs1.symm, by simp at this; omega⟩
  clear hr1 hw1 hbs hcp hB4 hs1 HR0 HZ0 HW0
  have esg : sgn.toList = [87, 72, 76, 49] := by rw [ByteArray.toList_eq]; rfl
  obtain ⟨ok1, hok1⟩ : ∃ k : Bool, (B4.toList == [87, 72, 76, 49]) = k := ⟨_, rfl⟩
  have HOK1 : Hid (ok1 = true ↔ B4 = sgn) := by
    show _ ↔ _
    rw [← hok1, beq_iff_eq, ← esg]
    constructor
    · intro h
      rw [ByteArray.toList_eq, ByteArray.toList_eq] at h
      exact ByteArray.ext (Array.toList_inj.1 h)
    · intro h
      rw [h]
  clear esg
  go_wp2_with fail
  refine (HR1.out.want _).mono ?_
  rintro e w2 ⟨rfl, hr2, hw2⟩
  first | rw [hok1] at hr2 | skip
  have HZ2 := hide (wrs_blk hw2 HZ1.out hZg)
  have HW2 : Hid (Wrs [g] w w2) := HW1.out.trans hw2
  have HR2 := hide hr2
  obtain ⟨s2, hs2⟩ : ∃ x : Nat × Bool, (s1.1, s1.2 || !ok1) = x := ⟨_, rfl⟩
  rw [hs2] at HR2
  have HS2 : Hid ((s2 = (4, false) ∧ 4 ≤ s.size) ∨ (s2.2 = true ∧ NoIm s)) := by
    cases hk : ok1 with
    | true =>
      have h1 := HS1.out (HOK1.out.1 hk)
      left
      refine ⟨?_, h1.2⟩
      rw [← hs2, h1.1, hk]
      rfl
    | false =>
      right
      refine ⟨by rw [← hs2, hk]; simp, HNS.out (fun e => ?_)⟩
      have := HOK1.out.2 e
      rw [hk] at this
      cases this
  clear hr2 hw2 hs2 HR1 HZ1 HW1 HS1 HNS HOK1 c1 hok1
  go_wp2_with fail
  refine (HR2.out.num (n := 2) (by omega)).mono ?_
  rintro e w3 ⟨rfl, hr, hw⟩
  have HZ3 := hide (wrs_blk hw HZ2.out hZg)
  have HR3 := hide hr
  have HW3 : Hid (Wrs [g] w w3) := HW2.out.trans hw
  have hka := rn_lt (s := s) (st := s2) (n := 2)
  obtain ⟨n1, hn1⟩ : ∃ n, (rn (fb s) s.size s2 2).1 = n := ⟨_, rfl⟩
  obtain ⟨sa, hsa⟩ : ∃ n, (rn (fb s) s.size s2 2).2 = n := ⟨_, rfl⟩
  rw [hn1] at hka ⊢
  rw [hsa] at HR3
  have hka' : n1 < 65536 := hka
  have HN1 := hide hn1
  have HSA := hide hsa
  clear hr hw hn1 hsa hka HR2 HZ2 HW2
  go_wp2_with fail
  refine (HR3.out.num (n := 2) (by omega)).mono ?_
  rintro e w4 ⟨rfl, hr, hw⟩
  have HZ4 := hide (wrs_blk hw HZ3.out hZg)
  have HR4 := hide hr
  have HW4 : Hid (Wrs [g] w w4) := HW3.out.trans hw
  have hka := rn_lt (s := s) (st := sa) (n := 2)
  obtain ⟨n2, hn2⟩ : ∃ n, (rn (fb s) s.size sa 2).1 = n := ⟨_, rfl⟩
  obtain ⟨sb, hsb⟩ : ∃ n, (rn (fb s) s.size sa 2).2 = n := ⟨_, rfl⟩
  rw [hn2] at hka ⊢
  rw [hsb] at HR4
  have hkb' : n2 < 65536 := hka
  have HN2 := hide hn2
  have HSB := hide hsb
  clear hr hw hn2 hsb hka HR3 HZ3 HW3
  obtain ⟨M, hM⟩ : ∃ M, w4.heap.size = M := ⟨_, rfl⟩
  obtain ⟨w5, hw5⟩ : ∃ W, w4.alloc (.cells #[.int .i64 (n1 : Nat), .int .i64 (n2 : Nat), .slice none 0 0, .slice none 0 0, .slice none 0 0] 30) = W := ⟨_, rfl⟩
  have hb5 : Below w4.heap.size w4 w5 := by rw [← hw5]; exact (Below.refl _ _).alloc (Nat.le_refl _) _
  have HM5 : Hid (Blk w5 M 30 #[.int .i64 (n1 : Nat), .int .i64 (n2 : Nat), .slice none 0 0, .slice none 0 0, .slice none 0 0]) := by rw [← hw5, ← hM]; exact Blk.new _ _ _
  have hZM : Z < M := by rw [← hM]; exact HZ4.out.lt
  have HD5 : Hid (Di w g b o c a s Z M n1 n2 w5 sb (.slice none 0 0) (.slice none 0 0) (.slice none 0 0) [] [] []) :=
    ⟨HR4.out.below hb5, HZ4.out.below hb5, HM5.out, TS.nil _ _, Els.nil _ _, Els.nil _ _, HW4.out.trans (Wrs.of_below hb5), hgl, by rw [HZZ.out]; exact Nat.le_refl _, hZM, fun j hj => by have := HBL.out j hj; have := HZZ.out; omega, by have := HZZ.out; omega⟩
  have HWW5 := hide hw5
  have HMM := hide hM
  clear hb5 hw5 hM HZ4 HR4 HW4 HM5
  go_wp2_with fail
  rw [HWW5.out, HMM.out]
  refine (HD5.out.rz.num (n := 2) (by omega)).mono ?_
  rintro e w6 ⟨rfl, hr, hw⟩
  have HD6 := hide (HD5.out.num hr hw)
  have hka := rn_lt (s := s) (st := sb) (n := 2)
  obtain ⟨n3, hn3⟩ : ∃ n, (rn (fb s) s.size sb 2).1 = n := ⟨_, rfl⟩
  obtain ⟨s3, hs3⟩ : ∃ n, (rn (fb s) s.size sb 2).2 = n := ⟨_, rfl⟩
  rw [hn3] at hka ⊢
  rw [hs3] at HD6
  have hkc' : n3 < 65536 := hka
  have HH : Hid (s2 = (4, false) → rH (fb s) s.size = (n1, n2, n3, s3)) := fun e => by
    unfold rH
    rw [← e, HN1.out, HSA.out, HN2.out, HSB.out, hn3, hs3]
  have HSTK : Hid (s2.2 = true → s3.2 = true) := fun e => by
    have q : ∀ st n, st.2 = true → (rn (fb s) s.size st n).2.2 = true := fun st n hs => by unfold rn; rw [if_pos (.inl hs)]
    rw [← hs3, ← HSB.out, ← HSA.out]
    exact q _ _ (q _ _ (q _ _ e))
  clear hr hw hn3 hs3 hka HD5 HN1 HN2 HSA HSB HWW5 HMM
  have y0 := HD6.out.tb.cell 0
  have y1 := HD6.out.tb.cell 1
  simp only [List.getElem?_toArray, List.getElem?_cons_succ, List.getElem?_cons_zero] at y0 y1
  have HSD1 := hide (fun V => isSide_rd (n1 : Int) V)
  have HSD2 := hide (fun V => isSide_rd (n2 : Int) V)
  by_cases q1 : ¬ (1 ≤ n1 ∧ n1 ≤ 40)
  · skip
    have i1 : (decide (1 ≤ (n1 : Int)) && decide ((n1 : Int) ≤ 40)) = false := by
      rw [Bool.and_eq_false_iff, decide_eq_false_iff_not, decide_eq_false_iff_not]
      omega
    have HNO : Hid (NoIm s) := by
      rcases HS2.out with ⟨e, _⟩ | ⟨_, e⟩
      · exact no_side (HH.out e) (fun h => q1 ⟨h.1, h.2.1⟩)
      · exact e
    rw [i1] at HSD1
    clear q1 i1
    go_wp2_with fail
    refine (HSD1.out _).mono ?_
    rintro e wx ⟨rfl, hwx⟩
    subst hwx
    go_wp2_with fail
    refine (HD6.out.rz.want false).mono ?_
    rintro e w7 ⟨rfl, hrx, hwx⟩
    have HBX : Hid ((s3.2 || !false) = true) := by show _ = _; simp
    have HNOX : Hid (NoIm s) := HNO.out
    have HDF := hide (HD6.out.num hrx hwx)
    obtain ⟨_, ax, rx2, _⟩ := hrx.ri
    have x1 := rx2.cell 1
    have efl : flt a (s3.2 || !false) = .iface 136 (.pointer (some a)) := by unfold flt; rw [if_pos HBX.out]
    simp only [efl, List.getElem?_toArray, List.getElem?_cons_succ, List.getElem?_cons_zero] at x1
    clear efl hrx hwx rx2 y0 y1
    have g0 := HDF.out.gz.cell 0
    have g1 := HDF.out.gz.cell 1
    have g2 := HDF.out.gz.cell 2
    have g3 := HDF.out.gz.cell 3
    have g4 := HDF.out.gz.cell 4
    have k0 := HDF.out.gz.frozen 0
    have k1 := HDF.out.gz.frozen 1
    have k2 := HDF.out.gz.frozen 2
    have k3 := HDF.out.gz.frozen 3
    have k4 := HDF.out.gz.frozen 4
    simp only [List.getElem?_toArray, List.getElem?_cons_succ, List.getElem?_cons_zero] at g0 g1 g2 g3 g4
    go_wp2
    (try simp only [Exit.inBlock, Exit.then])
    refine bodyPost_ret (results_cell_row rfl _ _ Z 30 #[.int .i64 0, .int .i64 0, .slice none 0 0, .slice none 0 0, .slice none 0 0] (0, 0) _ rfl (HDF.out.gz.five _ _ _ _ _) Tryd.underlying30 rfl (by kernel_rfl)) rfl ?_
    exact ⟨⟨0, 0, [], [], []⟩, _, _, _, (s3.1, s3.2 || !false), rfl, rto_zero HRW.out (wrs_five HDF.out.wr HDF.out.hZ _ _ _ _ _) (ris_five HDF.out.rz.ri HDF.out.gz _ _ _ _ _) HBX.out HNOX.out⟩

  by_cases q2 : ¬ (1 ≤ n2 ∧ n2 ≤ 40)
  · skip
    have i1 : (decide (1 ≤ (n1 : Int)) && decide ((n1 : Int) ≤ 40)) = true := by
      rw [Bool.and_eq_true, decide_eq_true_iff, decide_eq_true_iff]
      omega
    have i2 : (decide (1 ≤ (n2 : Int)) && decide ((n2 : Int) ≤ 40)) = false := by
      rw [Bool.and_eq_false_iff, decide_eq_false_iff_not, decide_eq_false_iff_not]
      omega
    have HNO : Hid (NoIm s) := by
      rcases HS2.out with ⟨e, _⟩ | ⟨_, e⟩
      · exact no_side (HH.out e) (fun h => q2 ⟨h.2.2.1, h.2.2.2.1⟩)
      · exact e
    rw [i1] at HSD1
    rw [i2] at HSD2
    clear q1 q2 i1 i2
    go_wp2_with fail
    refine (HSD1.out _).mono ?_
    rintro e wx ⟨rfl, hwx⟩
    subst hwx
    go_wp2_with fail
    refine (HSD2.out _).mono ?_
    rintro e wx ⟨rfl, hwx⟩
    subst hwx
    go_wp2_with fail
    refine (HD6.out.rz.want false).mono ?_
    rintro e w7 ⟨rfl, hrx, hwx⟩
    have HBX : Hid ((s3.2 || !false) = true) := by show _ = _; simp
    have HNOX : Hid (NoIm s) := HNO.out
    have HDF := hide (HD6.out.num hrx hwx)
    obtain ⟨_, ax, rx2, _⟩ := hrx.ri
    have x1 := rx2.cell 1
    have efl : flt a (s3.2 || !false) = .iface 136 (.pointer (some a)) := by unfold flt; rw [if_pos HBX.out]
    simp only [efl, List.getElem?_toArray, List.getElem?_cons_succ, List.getElem?_cons_zero] at x1
    clear efl hrx hwx rx2 y0 y1
    have g0 := HDF.out.gz.cell 0
    have g1 := HDF.out.gz.cell 1
    have g2 := HDF.out.gz.cell 2
    have g3 := HDF.out.gz.cell 3
    have g4 := HDF.out.gz.cell 4
    have k0 := HDF.out.gz.frozen 0
    have k1 := HDF.out.gz.frozen 1
    have k2 := HDF.out.gz.frozen 2
    have k3 := HDF.out.gz.frozen 3
    have k4 := HDF.out.gz.frozen 4
    simp only [List.getElem?_toArray, List.getElem?_cons_succ, List.getElem?_cons_zero] at g0 g1 g2 g3 g4
    go_wp2
    (try simp only [Exit.inBlock, Exit.then])
    refine bodyPost_ret (results_cell_row rfl _ _ Z 30 #[.int .i64 0, .int .i64 0, .slice none 0 0, .slice none 0 0, .slice none 0 0] (0, 0) _ rfl (HDF.out.gz.five _ _ _ _ _) Tryd.underlying30 rfl (by kernel_rfl)) rfl ?_
    exact ⟨⟨0, 0, [], [], []⟩, _, _, _, (s3.1, s3.2 || !false), rfl, rto_zero HRW.out (wrs_five HDF.out.wr HDF.out.hZ _ _ _ _ _) (ris_five HDF.out.rz.ri HDF.out.gz _ _ _ _ _) HBX.out HNOX.out⟩

  by_cases q3 : ¬ n3 ≤ 30
  · skip
    have i1 : (decide (1 ≤ (n1 : Int)) && decide ((n1 : Int) ≤ 40)) = true := by
      rw [Bool.and_eq_true, decide_eq_true_iff, decide_eq_true_iff]
      omega
    have i2 : (decide (1 ≤ (n2 : Int)) && decide ((n2 : Int) ≤ 40)) = true := by
      rw [Bool.and_eq_true, decide_eq_true_iff, decide_eq_true_iff]
      omega
    have i3 : decide ((n3 : Int) ≤ 30) = false := decide_eq_false (by omega)
    have HNO : Hid (NoIm s) := by
      rcases HS2.out with ⟨e, _⟩ | ⟨_, e⟩
      · exact no_side (HH.out e) (fun h => q3 h.2.2.2.2)
      · exact e
    rw [i1] at HSD1
    rw [i2] at HSD2
    clear q1 q2 i1 i2
    go_wp2_with fail
    refine (HSD1.out _).mono ?_
    rintro e wx ⟨rfl, hwx⟩
    subst hwx
    go_wp2_with fail
    refine (HSD2.out _).mono ?_
    rintro e wx ⟨rfl, hwx⟩
    subst hwx
    go_wp2_with fail
    refine (HD6.out.rz.want false).mono ?_
    rintro e w7 ⟨rfl, hrx, hwx⟩
    have HBX : Hid ((s3.2 || !false) = true) := by show _ = _; simp
    have HNOX : Hid (NoIm s) := HNO.out
    have HDF := hide (HD6.out.num hrx hwx)
    obtain ⟨_, ax, rx2, _⟩ := hrx.ri
    have x1 := rx2.cell 1
    have efl : flt a (s3.2 || !false) = .iface 136 (.pointer (some a)) := by unfold flt; rw [if_pos HBX.out]
    simp only [efl, List.getElem?_toArray, List.getElem?_cons_succ, List.getElem?_cons_zero] at x1
    clear efl hrx hwx rx2 y0 y1
    have g0 := HDF.out.gz.cell 0
    have g1 := HDF.out.gz.cell 1
    have g2 := HDF.out.gz.cell 2
    have g3 := HDF.out.gz.cell 3
    have g4 := HDF.out.gz.cell 4
    have k0 := HDF.out.gz.frozen 0
    have k1 := HDF.out.gz.frozen 1
    have k2 := HDF.out.gz.frozen 2
    have k3 := HDF.out.gz.frozen 3
    have k4 := HDF.out.gz.frozen 4
    simp only [List.getElem?_toArray, List.getElem?_cons_succ, List.getElem?_cons_zero] at g0 g1 g2 g3 g4
    go_wp2
    (try simp only [Exit.inBlock, Exit.then])
    refine bodyPost_ret (results_cell_row rfl _ _ Z 30 #[.int .i64 0, .int .i64 0, .slice none 0 0, .slice none 0 0, .slice none 0 0] (0, 0) _ rfl (HDF.out.gz.five _ _ _ _ _) Tryd.underlying30 rfl (by kernel_rfl)) rfl ?_
    exact ⟨⟨0, 0, [], [], []⟩, _, _, _, (s3.1, s3.2 || !false), rfl, rto_zero HRW.out (wrs_five HDF.out.wr HDF.out.hZ _ _ _ _ _) (ris_five HDF.out.rz.ri HDF.out.gz _ _ _ _ _) HBX.out HNOX.out⟩

  have i1 : (decide (1 ≤ (n1 : Int)) && decide ((n1 : Int) ≤ 40)) = true := by
    rw [Bool.and_eq_true, decide_eq_true_iff, decide_eq_true_iff]
    omega
  have i2 : (decide (1 ≤ (n2 : Int)) && decide ((n2 : Int) ≤ 40)) = true := by
    rw [Bool.and_eq_true, decide_eq_true_iff, decide_eq_true_iff]
    omega
  have i3 : decide ((n3 : Int) ≤ 30) = true := decide_eq_true (by omega)
  rw [i1] at HSD1
  rw [i2] at HSD2
  clear i1 i2
  go_wp2_with fail
  refine (HSD1.out _).mono ?_
  rintro e wx ⟨rfl, hwx⟩
  subst hwx
  go_wp2_with fail
  refine (HSD2.out _).mono ?_
  rintro e wx ⟨rfl, hwx⟩
  subst hwx
  go_wp2_with fail
  refine (HD6.out.rz.want true).mono ?_
  rintro e w7 ⟨rfl, hrx, hwx⟩
  cases h3 : s3.2 with
  | true =>
    have HNO : Hid (NoIm s) := by
      rcases HS2.out with ⟨e, h4⟩ | ⟨_, e⟩
      · exact no_bad h4 (HH.out e) h3
      · exact e
    have HBX : Hid ((s3.2 || !true) = true) := by show _ = _; rw [h3]; rfl
    have HNOX : Hid (NoIm s) := HNO.out
    have HDF := hide (HD6.out.num hrx hwx)
    obtain ⟨_, ax, rx2, _⟩ := hrx.ri
    have x1 := rx2.cell 1
    have efl : flt a (s3.2 || !true) = .iface 136 (.pointer (some a)) := by unfold flt; rw [if_pos HBX.out]
    simp only [efl, List.getElem?_toArray, List.getElem?_cons_succ, List.getElem?_cons_zero] at x1
    clear efl hrx hwx rx2 y0 y1
    have g0 := HDF.out.gz.cell 0
    have g1 := HDF.out.gz.cell 1
    have g2 := HDF.out.gz.cell 2
    have g3 := HDF.out.gz.cell 3
    have g4 := HDF.out.gz.cell 4
    have k0 := HDF.out.gz.frozen 0
    have k1 := HDF.out.gz.frozen 1
    have k2 := HDF.out.gz.frozen 2
    have k3 := HDF.out.gz.frozen 3
    have k4 := HDF.out.gz.frozen 4
    simp only [List.getElem?_toArray, List.getElem?_cons_succ, List.getElem?_cons_zero] at g0 g1 g2 g3 g4
    go_wp2
    (try simp only [Exit.inBlock, Exit.then])
    refine bodyPost_ret (results_cell_row rfl _ _ Z 30 #[.int .i64 0, .int .i64 0, .slice none 0 0, .slice none 0 0, .slice none 0 0] (0, 0) _ rfl (HDF.out.gz.five _ _ _ _ _) Tryd.underlying30 rfl (by kernel_rfl)) rfl ?_
    exact ⟨⟨0, 0, [], [], []⟩, _, _, _, (s3.1, s3.2 || !true), rfl, rto_zero HRW.out (wrs_five HDF.out.wr HDF.out.hZ _ _ _ _ _) (ris_five HDF.out.rz.ri HDF.out.gz _ _ _ _ _) HBX.out HNOX.out⟩

  | false =>
    have HS4 : Hid (s2 = (4, false) ∧ 4 ≤ s.size) := by
      rcases HS2.out with e | ⟨e, _⟩
      · exact e
      · have := HSTK.out e
        rw [h3] at this
        cases this
    have HRH := hide (HH.out HS4.out.1)
    have e3 : (s3.1, s3.2 || !true) = s3 := by rw [h3]; obtain ⟨p, q⟩ := s3; simp only at h3; rw [h3]; rfl
    rw [e3] at hrx
    have HD7 := hide (HD6.out.num hrx hwx)
    obtain ⟨_, ax, rx2, _⟩ := hrx.ri
    have x1 := rx2.cell 1
    have efl : flt a s3.2 = .nilIface := by unfold flt; rw [h3]; rfl
    simp only [efl, List.getElem?_toArray, List.getElem?_cons_succ, List.getElem?_cons_zero] at x1
    clear efl hrx hwx rx2 y0 y1 e3
    go_wp2
    clear x1
    go_loopw [39] (fun ix wr => ∃ (k : Nat) (LT : List (Tg × Value)) (vT : Value), k ≤ n3 ∧ ix = .int .i64 k ∧ Di w g b o c a s Z M n1 n2 wr (rTs (fb s) s.size s3 k).2 vT (.slice none 0 0) (.slice none 0 0) LT [] [] ∧ LT.map (·.1) = (rTs (fb s) s.size s3 k).1) (fun ix _ => n3 - (intOf ix).toNat)
    case atStart => exact ⟨0, [], _, Nat.zero_le _, rfl, HD7.out, rfl⟩
    case round =>
      clear HD7 HD6
      obtain ⟨k, LT, vT, hk, rfl, hds, hlt⟩ := hrel
      have HDS := hide hds
      have HLT := hide hlt
      have hlen : LT.length ≤ 30 := by
        have := congrArg List.length hlt
        rw [List.length_map, rTs_len] at this
        omega
      obtain ⟨aT, cT, rfl⟩ := hds.ts.tg.slice
      have y2 := hds.tb.cell 2
      have f2 := hds.tb.frozen 2
      simp only [List.getElem?_toArray, List.getElem?_cons_succ, List.getElem?_cons_zero] at y2
      rename World => wr
      clear hds hlt
      by_cases hin : k < n3
      · have hini : (k : Int) < (n3 : Int) := by omega
        have HDD : Hid (Di w g b o c a s Z M n1 n2 wr.drew (rTs (fb s) s.size s3 k).2 (.slice aT LT.length cT) (.slice none 0 0) (.slice none 0 0) LT [] []) := HDS.out.below (Below.refl _ _).drew
        have HTS : Hid (rTs (fb s) s.size s3 (k + 1) = ((rTs (fb s) s.size s3 k).1 ++ [(rT (fb s) s.size (rTs (fb s) s.size s3 k).2).1], (rT (fb s) s.size (rTs (fb s) s.size s3 k).2).2)) := rfl
        have HTG := hide (rtarget_any HDD.out.rz)
        obtain ⟨T, hT⟩ : ∃ T, (rT (fb s) s.size (rTs (fb s) s.size s3 k).2).1 = T := ⟨_, rfl⟩
        obtain ⟨st', hst'⟩ : ∃ T, (rT (fb s) s.size (rTs (fb s) s.size s3 k).2).2 = T := ⟨_, rfl⟩
        rw [hT, hst'] at HTG HTS
        clear hT hst'
        go_wp2_with fail
        go_region_law (first
          | (refine step_appTg rfl (.tmp 42) (.tmp 45) rfl (M + 1) (.slice aT LT.length cT) LT rfl HD9.out.ts.tg w8.heap.size T (.slice au nu cu) rfl ?news rfl ?len ?bas ?_
             case news => (intro i hi; exact ((Blk.new _ _ _).cell i).trans (by rw [List.getElem?_toArray]; rfl))
             case len => omega
             case bas => (have := HD9.out.tb.lt; omega)
             intro v10 w10 l10 hl10 ho10 hg10
             obtain ⟨a10, c10, rfl⟩ := ho10.slice
             have HO10 := hide ho10
             have HG10 := hide hg10
             have HM10 := hide (app_typed HD9.out.tb (by decide) HD9.out.ts.tg hg10)
             have q2 := HM10.out.cell 2
             have q3 := HM10.out.frozen 2
             simp only [List.getElem?_toArray, List.getElem?_cons_succ, List.getElem?_cons_zero] at q2
             clear ho10 hg10)
          | (go_simp; go_at_call 70; refine HTG.out.mono ?_; rintro e w8 ⟨u, rfl, hown, hr, hw⟩
             have HD8 := hide (HDD.out.num hr hw)
             have HO8 := hide hown
             have HS8 : Hid (wr.heap.size ≤ w8.heap.size) := hw.size
             obtain ⟨au, nu, cu, rfl⟩ : ∃ a n c, u = .slice a n c := (by rcases hown.2 with ⟨h1, _⟩ | ⟨gg, cap, cur, h1, _⟩ <;> exact ⟨_, _, _, h1⟩)
             have HD9 := hide (HD8.out.below ((Below.refl _ w8).alloc (Nat.le_refl _) (.cells #[.slice au nu cu, .int .i64 T.kind, .int .i64 T.cell] 56)))
             have z2 := HD8.out.tb.cell 2
             have z3 := HD9.out.tb.cell 2
             simp only [List.getElem?_toArray, List.getElem?_cons_succ, List.getElem?_cons_zero] at z2 z3
             clear hown hr hw))
        all_goals
          have HNK : Hid (NmK (w8.alloc (.cells #[.slice au nu cu, .int .i64 T.kind, .int .i64 T.cell] 56)) (.slice au nu cu) T.name) := by
            have h := own_nmk HO8.out (nb_lo T.name)
            rw [byt_nb] at h
            exact h.keep fun k cur q => q.alloc _
          have HTS2 := hide (HD9.out.ts.addT hl10.out HO10.out HG10.out HNK.out)
          have HEN : Hid (Els (w8.alloc (.cells #[.slice au nu cu, .int .i64 T.kind, .int .i64 T.cell] 56)) (M + 1) (nbl l10)) := by
            show Els _ _ _
            rw [hl10.out, nbl_snoc]
            refine Els.grow (w := w8) (Els.snoc (w := wr) HDS.out.en (vb_nodup _ _) (fun q hq => ?_) HS8.out (by have := HDS.out.tb.lt; omega)) (by rw [World.size_alloc]; omega)
            exact vb_own HO8.out _ q hq
          have HDN := hide (HD9.out.grown HD9.out.ts.tg (by decide) HG10.out HTS2.out HEN.out HD9.out.ei 2 (.slice a10 l10.length c10) rfl)
          have HLN : Hid (l10.map (·.1) = (rTs (fb s) s.size s3 (k + 1)).1) := by
            show _ = _
            rw [hl10.out, HTS.out, List.map_append, HLT.out]
            rfl
          have HSN : Hid (st' = (rTs (fb s) s.size s3 (k + 1)).2) := by show _ = _; rw [HTS.out]
          rw [HSN.out] at HDN
          clear y2 f2 z2 z3 q2 q3
          go_wp2
          go_roundw
          case rel => exact ⟨k + 1, l10, _, by omega, by go_num, HDN.out, HLN.out⟩
          case measure => simp [intOf]; omega
      · have hini : ¬ (k : Int) < (n3 : Int) := by omega
        obtain rfl : k = n3 := by omega
        have HTK := hide (rTs_bd (s := s) (st := s3) k)
        have HRI : Hid (rI (fb s) s.size = match rRs (fb s) s.size (n1 * n2) (rTs (fb s) s.size s3 k).2 k with
          | none => none
          | some (P, D, st) => if st.2 = true then none else some ⟨(n1 : Nat), (n2 : Nat), (rTs (fb s) s.size s3 k).1, D, P⟩) := by
          show _ = _
          unfold rI
          rw [if_neg (by have := HS4.out.2; omega), HRH.out, if_neg (by simp only; omega)]
          rfl
        obtain ⟨LTm, hLTm⟩ : ∃ l, (rTs (fb s) s.size s3 k).1 = l := ⟨_, rfl⟩
        obtain ⟨s4, hs4⟩ : ∃ l, (rTs (fb s) s.size s3 k).2 = l := ⟨_, rfl⟩
        rw [hLTm, hs4] at HRI
        rw [hLTm] at HLT HTK
        rw [hs4] at HDS
        clear hLTm hs4 y2 f2
        have hcb : n1 * n2 ≤ 1600 := Nat.le_trans (Nat.mul_le_mul (by omega : n1 ≤ 40) (by omega : n2 ≤ 40)) (by decide)
        have hc1 : 1 ≤ n1 * n2 := Nat.mul_le_mul (by omega : 1 ≤ n1) (by omega : 1 ≤ n2)
        obtain ⟨C, hC⟩ : ∃ C, n1 * n2 = C := ⟨_, rfl⟩
        have hmul : (n1 : Int) * (n2 : Int) = (C : Int) := by rw [← hC]; push_cast; rfl
        rw [hC] at hcb hc1 HRI
        have HMUL := hide hmul
        clear hC hmul
        have hwm : IntKind.i64.wrap ((n1 : Int) * (n2 : Int)) = (C : Int) := by rw [HMUL.out, IntKind.wrap_i64]; omega
        go_wp2
        go_loopw [50] (fun ix wr => ∃ (j : Nat) (LH LD : List (List Int × Value)) (vH vD : Value) (st : Nat × Bool), j ≤ k ∧ ix = .int .i64 j ∧ Di w g b o c a s Z M n1 n2 wr st (.slice aT LT.length cT) vH vD LT LH LD ∧ LH.length = j ∧ LD.length = j ∧ (∀ p ∈ LH, p.1.length ≤ 1600) ∧ (∀ p ∈ LD, p.1.length ≤ 1600) ∧ (st.2 = true → NoIm s) ∧ (st.2 = false → rRs (fb s) s.size C s4 j = some (LH.map (·.1), LD.map (·.1), st))) (fun ix _ => k - (intOf ix).toNat)
        case atStart =>
          refine ⟨0, [], [], _, _, s4, Nat.zero_le _, rfl, HDS.out, rfl, rfl, fun _ h => (nomatch h), fun _ h => (nomatch h), fun hb => di_none ?_, fun _ => rfl⟩
          show rI (fb s) s.size = none
          have h := rRs_bad (f := fb s) (N := s.size) (C := C) (s4 := s4) hb (k := 0) rfl k
          rw [Nat.zero_add] at h
          rw [HRI.out, h]
          simp only [hb, if_true]
        case round =>
          clear HDS
          obtain ⟨j, LH, LD, vH, vD, st, hj, rfl, hds, hlh, hld, hph, hpd, hno, hyes⟩ := hrel
          have HDS := hide hds
          have HLH := hide hlh
          have HLD := hide hld
          have HPH := hide hph
          have HPD := hide hpd
          have HNO := hide hno
          have HYES := hide hyes
          have hLHl : LH.length ≤ 30 := by omega
          have hLDl : LD.length ≤ 30 := by omega
          obtain ⟨aH, cH, rfl⟩ := hds.ts.hp.slice
          obtain ⟨aD, cD, rfl⟩ := hds.ts.ds.slice
          rename World => wr
          clear hds hlh hld hph hpd hno hyes
          by_cases hin : j < k
          · have hini : (j : Int) < (k : Int) := by omega
            have HDD : Hid (Di w g b o c a s Z M n1 n2 wr.drew st (.slice aT LT.length cT) (.slice aH LH.length cH) (.slice aD LD.length cD) LT LH LD) := HDS.out.below (Below.refl _ _).drew
            have HTG := hide (rhops_any hcb HDD.out.rz)
            obtain ⟨B, hB⟩ : ∃ T, (rb (fb s) s.size st ((3 * C + 7) / 8)).1 = T := ⟨_, rfl⟩
            obtain ⟨sa, hsa⟩ : ∃ T, (rb (fb s) s.size st ((3 * C + 7) / 8)).2 = T := ⟨_, rfl⟩
            rw [hB, hsa] at HTG
            obtain ⟨sf, hsf⟩ : ∃ T : Nat × Bool, T = (sa.1, sa.2 || !(upC B (C : Nat) == 0)) := ⟨_, rfl⟩
            rw [← hsf] at HTG
            obtain ⟨Hp, hHp⟩ : ∃ T, upF B (C : Nat) = T := ⟨_, rfl⟩
            rw [hHp] at HTG
            have hHpl : Hp.length ≤ 1600 := by have := upF_len B C; rw [hHp] at this; omega
            have HB := hide hB
            have HSA := hide hsa
            have HSF := hide hsf
            have HHP := hide hHp
            clear hB hsa hsf hHp
            have y4 := HDD.out.tb.cell 4
            have y0 := HDD.out.tb.cell 0
            have y1 := HDD.out.tb.cell 1
            have f4 := HDD.out.tb.frozen 4
            simp only [List.getElem?_toArray, List.getElem?_cons_succ, List.getElem?_cons_zero] at y4 y0 y1
            go_wp2_with fail
            apply key_rest
            · intro HKEY
              go_region_law (first
                | (refine step_appII rfl (.tmp 53) (.tmp 61) rfl (M + 1) (.slice aH LH.length cH) LH rfl HD9.out.ts.hp w8.heap.size Hp (.slice au nu cu) rfl ?news rfl ?len ?bas ?_
                   case news => exact (Blk.new _ _ _).cell 0
                   case len => omega
                   case bas => (have := HD9.out.tb.lt; omega)
                   intro v10 w10 l10 hl10 ho10 hg10 hat10
                   obtain ⟨a10, c10, rfl⟩ := ho10.slice
                   have HO10 := hide ho10
                   have HG10 := hide hg10
                   have HAT10 := hide hat10
                   have HM10 := hide (app_typed HD9.out.tb (by decide) HD9.out.ts.hp hg10)
                   have q2 := HM10.out.cell 4
                   have q3 := HM10.out.frozen 4
                   simp only [List.getElem?_toArray, List.getElem?_cons_succ, List.getElem?_cons_zero] at q2
                   clear ho10 hg10 hat10)
                | (go_simp; go_at_call 71; refine HTG.out.mono ?_; rintro e w8 ⟨u, rfl, hown, hr, hw⟩
                   have HD8 := hide (HDD.out.num hr hw)
                   have HO8 := hide hown
                   have HS8 : Hid (wr.heap.size ≤ w8.heap.size) := hw.size
                   obtain ⟨au, nu, cu, rfl⟩ : ∃ a n c, u = .slice a n c := (by rcases hown.2 with ⟨h1, _⟩ | ⟨gg, cap, cur, h1, _⟩ <;> exact ⟨_, _, _, h1⟩)
                   have HD9 := hide (HD8.out.below ((Below.refl _ w8).alloc (Nat.le_refl _) (.cells #[.slice au nu cu] 57)))
                   have z2 := HD8.out.tb.cell 4
                   have z3 := HD9.out.tb.cell 4
                   simp only [List.getElem?_toArray, List.getElem?_cons_succ, List.getElem?_cons_zero] at z2 z3
                   clear hown hr hw))
              all_goals
                have HIK : Hid (IRk (w8.alloc (.cells #[.slice au nu cu] 57)) (.slice au nu cu) Hp) := (own_irk HO8.out).keep fun k cur q => q.alloc _
                have HTS2 := hide (HD9.out.ts.addH hl10.out HO10.out HG10.out HAT10.out HIK.out)
                have HEI : Hid (Els (w8.alloc (.cells #[.slice au nu cu] 57)) (M + 1) (ibl l10 ++ ibl LD)) := by
                  show Els _ _ _
                  rw [hl10.out, ibl_snoc]
                  refine Els.grow (w := w8) (Els.mid (w := wr) HDS.out.ei (vb_nodup _ _) (fun q hq => ?_) HS8.out (by have := HDS.out.tb.lt; omega)) (by rw [World.size_alloc]; omega)
                  exact vb_own HO8.out _ q hq
                have HDN := hide (HD9.out.grown HD9.out.ts.hp (by decide) HG10.out HTS2.out HD9.out.en HEI.out 4 (.slice a10 l10.length c10) rfl)
                have HLN : Hid (l10.length = j + 1) := by show _ = _; rw [hl10.out, List.length_append, HLH.out]; rfl
                have HLM : Hid (l10.map (·.1) = LH.map (·.1) ++ [Hp]) := by show _ = _; rw [hl10.out, List.map_append]; rfl
                have HPH2 : Hid (∀ p ∈ l10, p.1.length ≤ 1600) := fun p hp => by
                  rw [hl10.out] at hp
                  rcases List.mem_append.1 hp with hp | hp
                  · exact HPH.out p hp
                  · rw [List.mem_singleton.1 hp]; exact hHpl
                clear z2 z3 hl10 HO10 HG10 HAT10 HM10 HD8 HO8 HS8 HD9 HTS2 HEI HIK
                revert q2 q3 HDN HLN HLM HPH2
                revert w10 l10 a10 c10
                revert w8 au nu cu
                exact HKEY.out
            · intro w8 au nu cu w10 l10 a10 c10 q2 q3 HDN HLN HLM HPH2
              obtain ⟨w11, hw11⟩ : ∃ W, w10.setCell ⟨M, 4, none⟩ (.slice a10 l10.length c10) = W := ⟨_, rfl⟩
              rw [hw11] at HDN
              have HW11 := hide hw11
              clear y4 y0 y1 f4 HTG HDD
              have HDE : Hid (Di w g b o c a s Z M n1 n2 w11.drew sf (.slice aT LT.length cT) (.slice a10 l10.length c10) (.slice aD LD.length cD) LT l10 LD) := HDN.out.below (Below.refl _ _).drew
              have HTD := hide (rdist_any hcb HDE.out.rz)
              obtain ⟨t, ht⟩ : ∃ T, (rb (fb s) s.size sf (2 * C)).1 = T := ⟨_, rfl⟩
              obtain ⟨sd, hsd⟩ : ∃ T, (rb (fb s) s.size sf (2 * C)).2 = T := ⟨_, rfl⟩
              rw [ht, hsd] at HTD
              have HTT := hide ht
              have HSDD := hide hsd
              have htl : t.size ≤ 2 * C := by rw [← ht]; exact rb_len
              clear ht hsd
              have y3 := HDE.out.tb.cell 3
              have y0 := HDE.out.tb.cell 0
              have y1 := HDE.out.tb.cell 1
              simp only [List.getElem?_toArray, List.getElem?_cons_succ, List.getElem?_cons_zero] at y3 y0 y1
              go_wp2_with fail
              clear q2 q3 hw11
              try rw [HW11.out]
              apply key_rest
              · intro HKEY
                go_region_law (first
                  | (refine step_appII rfl (.tmp 65) (.tmp 73) rfl (M + 1) (.slice aD LD.length cD) LD rfl HD9.out.ts.ds w8.heap.size ((List.range m).map (dAtB t)) (.slice au nu cu) rfl ?news rfl ?len ?bas ?_
                     case news => exact (Blk.new _ _ _).cell 0
                     case len => omega
                     case bas => (have := HD9.out.tb.lt; omega)
                     intro v12 w12 l12 hl12 ho12 hg12 hat12
                     obtain ⟨a12, c12, rfl⟩ := ho12.slice
                     have HO12 := hide ho12
                     have HG12 := hide hg12
                     have HAT12 := hide hat12
                     have HM12 := hide (app_typed HD9.out.tb (by decide) HD9.out.ts.ds hg12)
                     have q2 := HM12.out.cell 3
                     have q3 := HM12.out.frozen 3
                     simp only [List.getElem?_toArray, List.getElem?_cons_succ, List.getElem?_cons_zero] at q2
                     clear ho12 hg12 hat12)
                  | (go_simp; go_at_call 72; refine HTD.out.mono ?_; rintro e w8 ⟨u, m, rfl, hmm, hown, hr, hw⟩
                     have HD8 := hide (HDE.out.num hr hw)
                     have HMM2 := hide hmm
                     have HO8 : Hid (World.ownsRow w8 w11.heap.size 3 1 u ((List.range m).map (dAtB t)).length (ci ((List.range m).map (dAtB t)))) := (by show World.ownsRow _ _ _ _ _ _ _; rw [List.length_map, List.length_range]; exact hown)
                     have HS8 : Hid (w11.heap.size ≤ w8.heap.size) := hw.size
                     obtain ⟨au, nu, cu, rfl⟩ : ∃ a n c, u = .slice a n c := (by rcases hown.2 with ⟨h1, _⟩ | ⟨gg, cap, cur, h1, _⟩ <;> exact ⟨_, _, _, h1⟩)
                     have HD9 := hide (HD8.out.below ((Below.refl _ w8).alloc (Nat.le_refl _) (.cells #[.slice au nu cu] 57)))
                     have z2 := HD8.out.tb.cell 3
                     have z3 := HD9.out.tb.cell 3
                     simp only [List.getElem?_toArray, List.getElem?_cons_succ, List.getElem?_cons_zero] at z2 z3
                     clear hown hr hw hmm))
                all_goals
                  have hm16 : m ≤ 1600 := by have := HMM2.out; omega
                  have HIK : Hid (IRk (w8.alloc (.cells #[.slice au nu cu] 57)) (.slice au nu cu) ((List.range m).map (dAtB t))) := (own_irk HO8.out).keep fun k cur q => q.alloc _
                  have HTS2 := hide (HD9.out.ts.addD hl12.out HO12.out HG12.out HAT12.out HIK.out)
                  have HEI : Hid (Els (w8.alloc (.cells #[.slice au nu cu] 57)) (M + 1) (ibl l10 ++ ibl l12)) := by
                    show Els _ _ _
                    rw [hl12.out, ibl_snoc, ← List.append_assoc]
                    refine Els.grow (w := w8) (Els.snoc (w := w11) HDN.out.ei (vb_nodup _ _) (fun q hq => ?_) HS8.out (by have := HDN.out.tb.lt; omega)) (by rw [World.size_alloc]; omega)
                    exact vb_own HO8.out _ q hq
                  have HDM := hide (HD9.out.grown HD9.out.ts.ds (by decide) HG12.out HTS2.out HD9.out.en HEI.out 3 (.slice a12 l12.length c12) rfl)
                  have HLN2 : Hid (l12.length = j + 1) := by show _ = _; rw [hl12.out, List.length_append, HLD.out]; rfl
                  have HLM2 : Hid (l12.map (·.1) = LD.map (·.1) ++ [(List.range m).map (dAtB t)]) := by show _ = _; rw [hl12.out, List.map_append]; rfl
                  have HPD2 : Hid (∀ p ∈ l12, p.1.length ≤ 1600) := fun p hp => by
                    rw [hl12.out] at hp
                    rcases List.mem_append.1 hp with hp | hp
                    · exact HPD.out p hp
                    · rw [List.mem_singleton.1 hp, List.length_map, List.length_range]; exact hm16
                  have HM2 := HMM2
                  clear z2 z3 hl12 HO12 HG12 HAT12 HM12 HO8 HS8 HD8 HD9 HTS2 HEI HIK HMM2 hm16
                  revert q2 q3 HDM HLN2 HLM2 HPD2 HM2
                  revert w12 l12 a12 c12
                  revert w8 au nu cu m
                  exact HKEY.out
              · intro w8x m au2 nu2 cu2 w12 l12 a12 c12 q2 q3 HDM HLN2 HLM2 HPD2 HMM2
                have HEND : Hid ((sd.2 = true → NoIm s) ∧ (sd.2 = false → rRs (fb s) s.size C s4 (j + 1) = some (l10.map (·.1), l12.map (·.1), sd))) := by
                  cases hst : st.2 with
                  | true =>
                    have hb := row_bad hst HSA.out HSF.out HSDD.out
                    exact ⟨fun _ => HNO.out hst, fun h => by rw [hb] at h; cases h⟩
                  | false =>
                    have hrk := row_ok HDS.out.rz.ri.1 hc1 hst (HYES.out hst) HB.out HSA.out HSF.out HTT.out HSDD.out HMM2.out
                    refine ⟨fun hb => di_none ?_, fun hb => ?_⟩
                    · show rI (fb s) s.size = none
                      rcases hrk.2 hb with h1 | ⟨P', D', st', h1, h2⟩
                      · have h := rRs_none h1 (k - (j + 1))
                        rw [show j + 1 + (k - (j + 1)) = k by omega] at h
                        rw [HRI.out, h]
                      · have h := rRs_bad h2 h1 (k - (j + 1))
                        rw [show j + 1 + (k - (j + 1)) = k by omega] at h
                        rw [HRI.out, h]
                        simp only [h2, if_true]
                    · rw [HLM.out, HLM2.out, ← HHP.out]
                      exact hrk.1 hb
                clear y3 y0 y1 HTD HDE
                go_wp2
                go_roundw
                case rel => exact ⟨j + 1, l10, l12, _, _, sd, by omega, by go_num, HDM.out, HLN.out, HLN2.out, HPH2.out, HPD2.out, HEND.out.1, HEND.out.2⟩
                case measure => simp [intOf]; omega
          · have hini : ¬ (j : Int) < (k : Int) := by omega
            obtain rfl : j = k := by omega
            have m0 := HDS.out.tb.cell 0
            have m1 := HDS.out.tb.cell 1
            have m2 := HDS.out.tb.cell 2
            have m3 := HDS.out.tb.cell 3
            have m4 := HDS.out.tb.cell 4
            have g0 := HDS.out.gz.cell 0
            have g1 := HDS.out.gz.cell 1
            have g2 := HDS.out.gz.cell 2
            have g3 := HDS.out.gz.cell 3
            have g4 := HDS.out.gz.cell 4
            have k0 := HDS.out.gz.frozen 0
            have k1 := HDS.out.gz.frozen 1
            have k2 := HDS.out.gz.frozen 2
            have k3 := HDS.out.gz.frozen 3
            have k4 := HDS.out.gz.frozen 4
            simp only [List.getElem?_toArray, List.getElem?_cons_succ, List.getElem?_cons_zero] at m0 m1 m2 m3 m4 g0 g1 g2 g3 g4
            go_wp2
            (try simp only [Exit.inBlock, Exit.then])
            refine bodyPost_ret (results_cell_row rfl _ _ Z 30 #[.int .i64 n1, .int .i64 n2, .slice aT LT.length cT, .slice aD LD.length cD, .slice aH LH.length cH] (0, 0) _ rfl (HDS.out.gz.five _ _ _ _ _) Tryd.underlying30 rfl (by kernel_rfl)) rfl ?_
            have hwr := wrs_five (a0 := .int .i64 n1) (a1 := .int .i64 n2) (a2 := .slice aT LT.length cT) (a3 := .slice aD LD.length cD) (a4 := .slice aH LH.length cH) HDS.out.wr HDS.out.hZ
            have hR : RtO w g b o c a s (((((wr.setCell ⟨Z, 0, none⟩ (.int .i64 n1)).setCell ⟨Z, 1, none⟩ (.int .i64 n2)).setCell ⟨Z, 2, none⟩ (.slice aT LT.length cT)).setCell ⟨Z, 3, none⟩ (.slice aD LD.length cD)).setCell ⟨Z, 4, none⟩ (.slice aH LH.length cH)) ⟨(n1 : Nat), (n2 : Nat), LT.map (fun p => p.1), LD.map (fun p => p.1), LH.map (fun p => p.1)⟩ (.slice aT LT.length cT) (.slice aD LD.length cD) (.slice aH LH.length cH) st := by
              refine ⟨HRW.out.wrs (ris_five HDS.out.rz.ri HDS.out.gz _ _ _ _ _) hwr, hwr, HNO.out, fun hb => ?_, ⟨M + 1, LT, LH, LD, ?_, HDS.out.ts.keep fun g t cs ht q => typed_five HDS.out.gz q (by rcases ht with e | e | e | e <;> rw [e] <;> decide) _ _ _ _ _, ?_, ?_, rfl, rfl, rfl, hlen, hLHl, hLDl, ?_, HPH.out, HPD.out⟩⟩
              · rw [HRI.out, HYES.out hb, HLT.out]
                simp only [hb]
                rfl
              · have := HDS.out.hZ; have := HDS.out.hM; omega
              · exact HDS.out.en.grow (by simp [World.size_setCell])
              · exact HDS.out.ei.grow (by simp [World.size_setCell])
              · intro p hp
                have hm : p.1 ∈ LTm := by rw [← HLT.out]; exact List.mem_map_of_mem hp
                exact HTK.out p.1 hm
            exact ⟨⟨(n1 : Nat), (n2 : Nat), LT.map (fun p => p.1), LD.map (fun p => p.1), LH.map (fun p => p.1)⟩, .slice aT LT.length cT, .slice aD LD.length cD, .slice aH LH.length cH, rfl, split_st (P := fun q => RtO w g b o c a s _ _ _ _ _ q) hR⟩
end Go.Proofs.YtpnocklldlacjaaDoor

/-
  The walk of spec.DecodeImage.
-/
import Derived.Test.YtpnocklldlacjaaDoorJDecodeImageRDI
import Derived.Test.YtpnocklldlacjaaDoorJDecodeImageRDI
import Derived.Test.YtpnocklldlacjaaDoorJDecodeImageSEI
import Derived.Test.YtpnocklldlacjaaDoorJDecodeImageSDS
import Derived.Test.YtpnocklldlacjaaDoorJDecodeImageSPU
import Derived.BigQuiet
import Derived.Deep.QuietTactic
import Derived.Deep.RegionWith
namespace Go.Proofs.YtpnocklldlacjaaDoor
open Go.RowKit

set_option maxHeartbeats 4000000 in
set_option maxRecDepth 1000000 in
theorem specDecode_four (s : ByteArray) (u : Value) (w : World) (hs : s.size ≤ 1048576) (h : BS w u s) (hc : Cp u) (h4 : 4 ≤ s.size) :
    Calls Tryd.prog 20 #[u] w fun e w' => ∃ v2 v3 v4, e = .returned (.tuple #[tbagg (diF s) v2 v3 v4, .int .i64 (diC s)]) ∧ TbV w' (diF s) v2 v3 v4 ∧ Below w.heap.size w w' := by
  obtain ⟨a, b, o, c, rfl, ha, hcc⟩ := h
  obtain rfl := ha (by omega)
  have hT : Tx w b o c s := ⟨by omega, hs, hc, hcc⟩
  have t4 : decide ((s.size : Int) < 4) = false := decide_eq_false (by omega)
  obtain ⟨W0, hW0⟩ : ∃ W, ((w.alloc (.cells #[.int .i64 0, .int .i64 0, .slice none 0 0, .slice none 0 0, .slice none 0 0] 30)).alloc (.cells #[.slice (some ⟨b, o, none⟩) s.size c, .int .i64 4, .bool false] 69)) = W := ⟨_, rfl⟩
  have hb0 : Below w.heap.size w W0 := by rw [← hW0]; exact ((Below.refl _ _).alloc (Nat.le_refl _) _).alloc (by rw [World.size_alloc]; omega) _
  obtain ⟨G, hG⟩ : ∃ G, w.heap.size = G := ⟨_, rfl⟩
  have HT0 := hide (hT.below hb0)
  have HTB : Hid (b < G) := by rw [← hG]; exact hT.lt
  have HR0 : Hid (RdS W0 (G + 1) b o c s (4, false)) := by
    refine ⟨?_, h4⟩
    have := Blk.new (w.alloc (.cells #[.int .i64 0, .int .i64 0, .slice none 0 0, .slice none 0 0, .slice none 0 0] 30)) 69 #[.slice (some ⟨b, o, none⟩) s.size c, .int .i64 4, .bool false]
    rw [hW0, World.size_alloc, hG] at this
    exact this
  have HA0 : Hid (Blk W0 G 30 #[.int .i64 0, .int .i64 0, .slice none 0 0, .slice none 0 0, .slice none 0 0]) := by
    rw [← hW0, ← hG]
    exact (Blk.new _ _ _).alloc _
  have HB0 := hide hb0
  have HW := hide hW0
  have HGG := hide hG
  have hcp : s.size ≤ c := hc
  clear hT hb0 hW0 hG ha hcc hc
  go_enter Tryd.func20, Tryd.ntmps20
  go_wp2_with fail
  rw [HW.out, HGG.out]
  clear HW
  refine (l7num_any (n := 2) (by omega) (by have := HTB.out; omega) HT0.out HR0.out).mono ?_
  rintro e w1 ⟨rfl, hr, hw⟩
  have HT1 := hide (HT0.out.wrs hw (by have := HTB.out; simp; omega))
  have HR1 := hide hr
  have HA1 : Hid (Blk w1 G 30 #[.int .i64 0, .int .i64 0, .slice none 0 0, .slice none 0 0, .slice none 0 0]) := (hw.blk _ HA0.out.lt (by simp)).trans HA0.out
  have HB1 : Hid (Below w.heap.size w w1) := HB0.out.trans (hw.below (by have := HGG.out; simp; omega) HB0.out.size)
  have hn1 := rn_lt (s := s) (st := (4, false)) (n := 2)
  obtain ⟨n1, hn1e⟩ : ∃ n, (rn (fb s) s.size (4, false) 2).1 = n := ⟨_, rfl⟩
  obtain ⟨s1, hs1e⟩ : ∃ n, (rn (fb s) s.size (4, false) 2).2 = n := ⟨_, rfl⟩
  rw [hn1e] at hn1
  rw [hn1e]
  rw [hs1e] at HR1
  have HN1 := hide hn1e
  have HS1 := hide hs1e
  have hn1' : n1 < 65536 := hn1
  clear hr hw HT0 HR0 HA0 HB0 hn1 hn1e hs1e
  go_wp2_with fail
  refine (l7num_any (n := 2) (by omega) (by have := HTB.out; omega) HT1.out HR1.out).mono ?_
  rintro e w2 ⟨rfl, hr, hw⟩
  have HT2 := hide (HT1.out.wrs hw (by have := HTB.out; simp; omega))
  have HR2 := hide hr
  have HA2 : Hid (Blk w2 G 30 #[.int .i64 0, .int .i64 0, .slice none 0 0, .slice none 0 0, .slice none 0 0]) := (hw.blk _ HA1.out.lt (by simp)).trans HA1.out
  have HB2 : Hid (Below w.heap.size w w2) := HB1.out.trans (hw.below (by have := HGG.out; simp; omega) HB1.out.size)
  have hn2 := rn_lt (s := s) (st := s1) (n := 2)
  obtain ⟨n2, hn2e⟩ : ∃ n, (rn (fb s) s.size s1 2).1 = n := ⟨_, rfl⟩
  obtain ⟨s2, hs2e⟩ : ∃ n, (rn (fb s) s.size s1 2).2 = n := ⟨_, rfl⟩
  rw [hn2e] at hn2
  rw [hn2e]
  rw [hs2e] at HR2
  have HN2 := hide hn2e
  have HS2 := hide hs2e
  have hn2' : n2 < 65536 := hn2
  clear hr hw HT1 HR1 HA1 HB1 hn2 hn2e hs2e
  obtain ⟨W2, hW2⟩ : ∃ W, w2.alloc (.cells #[.int .i64 n1, .int .i64 n2, .slice none 0 0, .slice none 0 0, .slice none 0 0] 30) = W := ⟨_, rfl⟩
  have hb2 : Below w2.heap.size w2 W2 := by rw [← hW2]; exact (Below.refl _ _).alloc (Nat.le_refl _) _
  obtain ⟨M, hM⟩ : ∃ M, w2.heap.size = M := ⟨_, rfl⟩
  have HGM : Hid (G + 1 < M) := by rw [← hM]; exact Blk.lt HR2.out.1
  have HM2 : Hid (Blk W2 M 30 #[.int .i64 n1, .int .i64 n2, .slice none 0 0, .slice none 0 0, .slice none 0 0]) := by rw [← hW2, ← hM]; exact Blk.new _ _ _
  have HT3 := hide (HT2.out.below hb2)
  have HR3 := hide (HR2.out.below hb2)
  have HA3 := hide (HA2.out.below hb2)
  have HB3 : Hid (Below w.heap.size w W2) := HB2.out.trans (hb2.mono HB2.out.size)
  have HW := hide hW2
  have HMM := hide hM
  clear hb2 hW2 hM HT2 HR2 HA2 HB2
  go_wp2_with fail
  rw [HW.out, HMM.out]
  clear HW HMM
  refine (l7num_any (n := 2) (by omega) (by have := HTB.out; omega) HT3.out HR3.out).mono ?_
  rintro e w4 ⟨rfl, hr, hw⟩
  have HT4 := hide (HT3.out.wrs hw (by have := HTB.out; simp; omega))
  have HR4 := hide hr
  have HA4 : Hid (Blk w4 G 30 #[.int .i64 0, .int .i64 0, .slice none 0 0, .slice none 0 0, .slice none 0 0]) := (hw.blk _ HA3.out.lt (by simp)).trans HA3.out
  have HM4 : Hid (Blk w4 M 30 #[.int .i64 n1, .int .i64 n2, .slice none 0 0, .slice none 0 0, .slice none 0 0]) := (hw.blk _ HM2.out.lt (by have := HGM.out; simp; omega)).trans HM2.out
  have HB4 : Hid (Below w.heap.size w w4) := HB3.out.trans (hw.below (by have := HGG.out; simp; omega) HB3.out.size)
  have hn3 := rn_lt (s := s) (st := s2) (n := 2)
  obtain ⟨n3, hn3e⟩ : ∃ n, (rn (fb s) s.size s2 2).1 = n := ⟨_, rfl⟩
  obtain ⟨s3, hs3e⟩ : ∃ n, (rn (fb s) s.size s2 2).2 = n := ⟨_, rfl⟩
  rw [hn3e] at hn3
  rw [hn3e]
  rw [hs3e] at HR4
  have HN3 := hide hn3e
  have HS3 := hide hs3e
  have HH : Hid (rH (fb s) s.size = (n1, n2, n3, s3)) := by
    show _ = _
    unfold rH
    rw [HN1.out, HS1.out, HN2.out, HS2.out, HN3.out, HS3.out]
  have hn3' : n3 < 65536 := hn3
  clear hr hw HT3 HR3 HA3 HB3 HM2 hn3 hn3e hs3e HN1 HN2 HN3 HS1 HS2 HS3
  have HDS : Hid (DS w G M b o c s n1 n2 w4 s3 (.slice none 0 0) (.slice none 0 0) (.slice none 0 0) [] [] []) := ⟨HR4.out, HT4.out, HA4.out, HM4.out, TS.nil _ _, HB4.out, HGG.out, HTB.out, HGM.out⟩
  clear HR4 HT4 HA4 HM4 HB4
  have y0 := HDS.out.tb.cell 0
  have y1 := HDS.out.tb.cell 1
  have g0 := HDS.out.gz.cell 0
  have g1 := HDS.out.gz.cell 1
  have g2 := HDS.out.gz.cell 2
  have g3 := HDS.out.gz.cell 3
  have g4 := HDS.out.gz.cell 4
  have k0 := HDS.out.gz.frozen 0
  have k1 := HDS.out.gz.frozen 1
  have k2 := HDS.out.gz.frozen 2
  have k3 := HDS.out.gz.frozen 3
  have k4 := HDS.out.gz.frozen 4
  simp only [List.getElem?_toArray, List.getElem?_cons_succ, List.getElem?_cons_zero] at y0 y1 g0 g1 g2 g3 g4
  by_cases q1 : 40 < n1
  · have HNO : Hid (diF s = ⟨0, 0, [], [], []⟩ ∧ diC s = 9) := di_none (by
      show rI (fb s) s.size = none
      unfold rI
      rw [if_neg (by omega), HH.out, if_pos (.inl q1)])
    have c1 : decide (40 < (n1 : Int)) = true := decide_eq_true (by omega)
    go_wp2_with fail
    (try simp only [Exit.inBlock, Exit.then])
    refine bodyPost_ret (results_row_tmp rfl _ _ _ G 30 #[.int .i64 0, .int .i64 0, .slice none 0 0, .slice none 0 0, .slice none 0 0] (0, 0) rfl (HDS.out.gz.five _ _ _ _ _) Tryd.underlying30 (by kernel_rfl)) rfl ?_
    rw [HNO.out.1, HNO.out.2]
    exact ⟨_, _, _, rfl, tbv_nil _, below_five HDS.out.bl (by have := HGG.out; omega) _ _ _ _ _⟩
  have c1 : decide (40 < (n1 : Int)) = false := decide_eq_false (by omega)
  by_cases q2 : 40 < n2
  · have HNO : Hid (diF s = ⟨0, 0, [], [], []⟩ ∧ diC s = 9) := di_none (by
      show rI (fb s) s.size = none
      unfold rI
      rw [if_neg (by omega), HH.out, if_pos (.inr (.inl q2))])
    have c2 : decide (40 < (n2 : Int)) = true := decide_eq_true (by omega)
    go_wp2_with fail
    (try simp only [Exit.inBlock, Exit.then])
    refine bodyPost_ret (results_row_tmp rfl _ _ _ G 30 #[.int .i64 0, .int .i64 0, .slice none 0 0, .slice none 0 0, .slice none 0 0] (0, 0) rfl (HDS.out.gz.five _ _ _ _ _) Tryd.underlying30 (by kernel_rfl)) rfl ?_
    rw [HNO.out.1, HNO.out.2]
    exact ⟨_, _, _, rfl, tbv_nil _, below_five HDS.out.bl (by have := HGG.out; omega) _ _ _ _ _⟩
  have c2 : decide (40 < (n2 : Int)) = false := decide_eq_false (by omega)
  by_cases q3 : 30 < n3
  · have HNO : Hid (diF s = ⟨0, 0, [], [], []⟩ ∧ diC s = 9) := di_none (by
      show rI (fb s) s.size = none
      unfold rI
      rw [if_neg (by omega), HH.out, if_pos (.inr (.inr q3))])
    have c3 : decide (30 < (n3 : Int)) = true := decide_eq_true (by omega)
    go_wp2_with fail
    (try simp only [Exit.inBlock, Exit.then])
    refine bodyPost_ret (results_row_tmp rfl _ _ _ G 30 #[.int .i64 0, .int .i64 0, .slice none 0 0, .slice none 0 0, .slice none 0 0] (0, 0) rfl (HDS.out.gz.five _ _ _ _ _) Tryd.underlying30 (by kernel_rfl)) rfl ?_
    rw [HNO.out.1, HNO.out.2]
    exact ⟨_, _, _, rfl, tbv_nil _, below_five HDS.out.bl (by have := HGG.out; omega) _ _ _ _ _⟩
  have c3 : decide (30 < (n3 : Int)) = false := decide_eq_false (by omega)
  have HRI : Hid (rI (fb s) s.size = match rRs (fb s) s.size (n1 * n2) (rTs (fb s) s.size s3 n3).2 n3 with
    | none => none
    | some (P, D, st) => if st.2 = true then none else some ⟨(n1 : Nat), (n2 : Nat), (rTs (fb s) s.size s3 n3).1, D, P⟩) := by
    show _ = _
    unfold rI
    rw [if_neg (by omega), HH.out, if_neg (by simp only; omega)]
    rfl
  clear hn1' hn2' hn3' HH
  go_wp2
  clear y0 y1 g0 g1 g2 g3 g4 k0 k1 k2 k3 k4 c1 c2 c3 t4
  have hgb : G + 1 ≠ b := by have := HTB.out; omega
  go_loopw [7] (fun ix wr => ∃ (i : Nat) (LT : List (Tg × Value)) (vT : Value), i ≤ n3 ∧ ix = .int .i64 i ∧ DS w G M b o c s n1 n2 wr (rTs (fb s) s.size s3 i).2 vT (.slice none 0 0) (.slice none 0 0) LT [] [] ∧ LT.map (·.1) = (rTs (fb s) s.size s3 i).1) (fun ix _ => n3 - (intOf ix).toNat)
  case atStart => exact ⟨0, [], _, Nat.zero_le _, rfl, HDS.out, rfl⟩
  case round =>
    clear HDS
    obtain ⟨i, LT, vT, hi, rfl, hds, hlt⟩ := hrel
    have HDS := hide hds
    have HLT := hide hlt
    have hlen : LT.length ≤ 30 := by
      have := congrArg List.length hlt
      rw [List.length_map, rTs_len] at this
      omega
    obtain ⟨aT, cT, rfl⟩ := hds.ts.tg.slice
    rename World => wr
    clear hds hlt
    by_cases hin : i < n3
    · have hini : (i : Int) < (n3 : Int) := by omega
      have HTS : Hid (rTs (fb s) s.size s3 (i + 1) = ((rTs (fb s) s.size s3 i).1 ++ [(rT (fb s) s.size (rTs (fb s) s.size s3 i).2).1], (rT (fb s) s.size (rTs (fb s) s.size s3 i).2).2)) := rfl
      obtain ⟨st, hst⟩ : ∃ st, (rTs (fb s) s.size s3 i).2 = st := ⟨_, rfl⟩
      rw [hst] at HDS HTS
      clear hst
      have HRT : Hid (rT (fb s) s.size st = (⟨(rb (fb s) s.size (rn (fb s) s.size (rn (fb s) s.size (rn (fb s) s.size st 1).2 2).2 1).2 (rn (fb s) s.size (rn (fb s) s.size (rn (fb s) s.size st 1).2 2).2 1).1).1, ((rn (fb s) s.size st 1).1 : Nat), ((rn (fb s) s.size (rn (fb s) s.size st 1).2 2).1 : Nat)⟩, (rb (fb s) s.size (rn (fb s) s.size (rn (fb s) s.size (rn (fb s) s.size st 1).2 2).2 1).2 (rn (fb s) s.size (rn (fb s) s.size (rn (fb s) s.size st 1).2 2).2 1).1).2)) := rfl
      go_wp2_with fail
      refine (l7num_any (n := 1) (by omega) hgb HDS.out.tx HDS.out.rd).mono ?_
      rintro e wa ⟨rfl, hr, hw⟩
      have HDa := hide (HDS.out.num hr hw)
      have hka := rn_lt (s := s) (st := st) (n := 1)
      obtain ⟨kd, hkd⟩ : ∃ n, (rn (fb s) s.size st 1).1 = n := ⟨_, rfl⟩
      obtain ⟨sa, hsa⟩ : ∃ n, (rn (fb s) s.size st 1).2 = n := ⟨_, rfl⟩
      rw [hkd] at hka HRT ⊢
      rw [hsa] at HDa HRT
      have hka' : kd < 256 := hka
      clear hr hw hkd hsa hka
      go_wp2_with fail
      refine (l7num_any (n := 2) (by omega) hgb HDa.out.tx HDa.out.rd).mono ?_
      rintro e wb ⟨rfl, hr, hw⟩
      have HDb := hide (HDa.out.num hr hw)
      have hka := rn_lt (s := s) (st := sa) (n := 2)
      obtain ⟨cl, hcl⟩ : ∃ n, (rn (fb s) s.size sa 2).1 = n := ⟨_, rfl⟩
      obtain ⟨sb, hsb⟩ : ∃ n, (rn (fb s) s.size sa 2).2 = n := ⟨_, rfl⟩
      rw [hcl] at hka HRT ⊢
      rw [hsb] at HDb HRT
      have hkb' : cl < 65536 := hka
      clear hr hw hcl hsb hka HDa
      go_wp2_with fail
      refine (l7num_any (n := 1) (by omega) hgb HDb.out.tx HDb.out.rd).mono ?_
      rintro e wc ⟨rfl, hr, hw⟩
      have HDc := hide (HDb.out.num hr hw)
      have hka := rn_lt (s := s) (st := sb) (n := 1)
      obtain ⟨sz, hsz⟩ : ∃ n, (rn (fb s) s.size sb 1).1 = n := ⟨_, rfl⟩
      obtain ⟨sc, hsc⟩ : ∃ n, (rn (fb s) s.size sb 1).2 = n := ⟨_, rfl⟩
      rw [hsz] at hka HRT ⊢
      rw [hsc] at HDc HRT
      have hkc' : sz < 256 := hka
      clear hr hw hsz hsc hka HDb
      go_wp2_with fail
      refine (l7take_any (n := sz) (by omega) hgb HDc.out.tx HDc.out.rd).mono ?_
      rintro e wd ⟨vn, rfl, hbs, hcpn, hr, hw⟩
      have HDd := hide (HDc.out.num hr hw)
      have hnm := rb_len (s := s) (st := sc) (n := sz)
      obtain ⟨nm, hnme⟩ : ∃ n, (rb (fb s) s.size sc sz).1 = n := ⟨_, rfl⟩
      obtain ⟨sd, hsd⟩ : ∃ n, (rb (fb s) s.size sc sz).2 = n := ⟨_, rfl⟩
      rw [hnme] at hbs hnm HRT
      rw [hsd] at HDd HRT
      have HBN := hide hbs
      obtain ⟨an, cn, rfl⟩ := hbs.slice
      clear hr hw hnme hsd HDc hbs hcpn
      go_wp2_with (at_builtin; refine wp_app_name rfl _ _ rfl rfl nm _ rfl HBN.out (by omega) ?_)
      intro v' we hnk hbe
      have HNK := hide hnk
      have HDe := hide (HDd.out.below hbe)
      obtain ⟨a', c', rfl, _⟩ := hnk
      clear hbe HDd HBN
      have y2 := HDe.out.tb.cell 2
      have k2 := HDe.out.tb.frozen 2
      simp only [List.getElem?_toArray, List.getElem?_cons_succ, List.getElem?_cons_zero] at y2
      have HDf : Hid (DS w G M b o c s n1 n2 (we.alloc (.cells #[.slice a' nm.size c', .int .i64 (kd : Nat), .int .i64 (cl : Nat)] 56)) sd (.slice aT LT.length cT) (.slice none 0 0) (.slice none 0 0) LT [] []) := HDe.out.below ((Below.refl _ _).alloc (Nat.le_refl _) _)
      have HNF : Hid (NmK (we.alloc (.cells #[.slice a' nm.size c', .int .i64 (kd : Nat), .int .i64 (cl : Nat)] 56)) (.slice a' nm.size c') nm) := HNK.out.keep fun g cur q => q.alloc _
      go_wp2_with (at_builtin; refine wp_appTg rfl _ _ rfl (M + 1) _ LT rfl HDf.out.ts.tg we.heap.size 0 1 [(⟨nm, (kd : Nat), (cl : Nat)⟩, .slice a' nm.size c')] rfl ?news ?one ?len ?bas ?_)
      case news =>
        intro j hj p hp k hk
        match j, hj, hp with
        | 0, _, hp =>
          simp only [List.getElem?_cons_zero, Option.some.injEq] at hp
          subst hp
          rw [Nat.zero_mul, Nat.zero_add, Nat.zero_add]
          exact ((Blk.new _ _ _).cell k).trans (by rw [List.getElem?_toArray]; rfl)
      case one =>
        intro p hp
        rw [List.mem_singleton] at hp
        subst hp
        rfl
      case len => simp only [List.length_cons, List.length_nil]; omega
      case bas => rw [World.size_alloc]; have := HDe.out.tb.lt; omega
      intro v2 wf l2 hl2 ho2 hg2 hat2
      have HTS2 := hide (HDf.out.ts.addT hl2.out ho2 hg2 HNF.out)
      have HDg := hide (HDf.out.grown HDf.out.ts.tg (by decide) (by decide) hg2 HTS2.out 2 v2 rfl)
      have HM2 := hide (app_typed HDf.out.tb (by decide) HDf.out.ts.tg hg2)
      obtain ⟨a2, c2, rfl⟩ := ho2.slice
      have z2 := HM2.out.cell 2
      have z3 := HM2.out.frozen 2
      simp only [List.getElem?_toArray, List.getElem?_cons_succ, List.getElem?_cons_zero] at z2
      have HLN : Hid (l2.map (·.1) = (rTs (fb s) s.size s3 (i + 1)).1) := by
        show _ = _
        rw [hl2.out, HTS.out, HRT.out, List.map_append, HLT.out]
        rfl
      have HSN : Hid (sd = (rTs (fb s) s.size s3 (i + 1)).2) := by show _ = _; rw [HTS.out, HRT.out]
      rw [HSN.out] at HDg
      clear ho2 hg2 hat2 y2 k2
      go_wp2
      go_roundw
      case rel => exact ⟨i + 1, l2, _, by omega, by go_num, HDg.out, HLN.out⟩
      case measure => simp [intOf]; omega
    · have hini : ¬ (i : Int) < (n3 : Int) := by omega
      obtain rfl : i = n3 := by omega
      have HNMS := hide (rTs_nm (s := s) (st := s3) i)
      obtain ⟨LTm, hLTm⟩ : ∃ l, (rTs (fb s) s.size s3 i).1 = l := ⟨_, rfl⟩
      obtain ⟨s4, hs4⟩ : ∃ l, (rTs (fb s) s.size s3 i).2 = l := ⟨_, rfl⟩
      rw [hLTm, hs4] at HRI
      rw [hLTm] at HLT HNMS
      rw [hs4] at HDS
      clear hLTm hs4
      have y0 := HDS.out.tb.cell 0
      have y1 := HDS.out.tb.cell 1
      simp only [List.getElem?_toArray, List.getElem?_cons_succ, List.getElem?_cons_zero] at y0 y1
      have hcb : n1 * n2 ≤ 1600 := Nat.le_trans (Nat.mul_le_mul (by omega : n1 ≤ 40) (by omega : n2 ≤ 40)) (by decide)
      obtain ⟨C, hC⟩ : ∃ C, n1 * n2 = C := ⟨_, rfl⟩
      have hmul : (n1 : Int) * (n2 : Int) = (C : Int) := by rw [← hC]; push_cast; rfl
      rw [hC] at hcb HRI
      clear hC
      go_wp2
      clear y0 y1 hmul
      go_loopw [13] (fun ix wr => ∃ (k : Nat) (LH LD : List (List Int × Value)) (vH vD : Value) (st : Nat × Bool) (P D : List (List Int)), k ≤ i ∧ ix = .int .i64 k ∧ DS w G M b o c s n1 n2 wr st (.slice aT LT.length cT) vH vD LT LH LD ∧ rRs (fb s) s.size C s4 k = some (P, D, st) ∧ LH.map (·.1) = P ∧ LD.map (·.1) = D ∧ LH.length = k ∧ LD.length = k) (fun ix _ => i - (intOf ix).toNat)
      case atStart => exact ⟨0, [], [], _, _, s4, [], [], Nat.zero_le _, rfl, HDS.out, rfl, rfl, rfl, rfl, rfl⟩
      case round =>
        clear HDS
        obtain ⟨k, LH, LD, vH, vD, st, P, D, hk, rfl, hds, hrs, hlh, hld, hkh, hkd⟩ := hrel
        have HDS := hide hds
        have HRS := hide hrs
        have HLH := hide hlh
        have HLD := hide hld
        have hLHl : LH.length ≤ 30 := by omega
        have hLDl : LD.length ≤ 30 := by omega
        obtain ⟨aH, cH, rfl⟩ := hds.ts.hp.slice
        obtain ⟨aD, cD, rfl⟩ := hds.ts.ds.slice
        have r2 := (Blk.cell hds.rd.1 2)
        simp only [List.getElem?_toArray, List.getElem?_cons_succ, List.getElem?_cons_zero] at r2
        rename World => wr
        have HKH := hide hkh
        have HKD := hide hkd
        clear hds hrs hlh hld hkh hkd
        obtain ⟨pp, bad⟩ := st
        simp only at r2
        by_cases hin : k < i
        · have hini : (k : Int) < (i : Int) := by omega
          cases bad with
          | true =>
            have HNO : Hid (diF s = ⟨0, 0, [], [], []⟩ ∧ diC s = 9) := di_none (by
              show rI (fb s) s.size = none
              have h := rRs_bad rfl HRS.out (i - k)
              rw [show k + (i - k) = i by omega] at h
              rw [HRI.out, h]
              rfl)
            go_wp2_with fail
            go_quiet (fail)
            have HDQ : Hid (DS w G M b o c s n1 n2 (wr.drewN nq) (pp, true) (.slice aT LT.length cT) (.slice aH LH.length cH) (.slice aD LD.length cD) LT LH LD) := HDS.out.below (below_drewN (Below.refl _ _) nq)
            obtain ⟨WQ, hWQ⟩ : ∃ W, wr.drewN nq = W := ⟨_, rfl⟩
            rw [hWQ] at HDQ ⊢
            clear hWQ r2
            have g0 := HDQ.out.gz.cell 0
            have g1 := HDQ.out.gz.cell 1
            have g2 := HDQ.out.gz.cell 2
            have g3 := HDQ.out.gz.cell 3
            have g4 := HDQ.out.gz.cell 4
            have k0 := HDQ.out.gz.frozen 0
            have k1 := HDQ.out.gz.frozen 1
            have k2 := HDQ.out.gz.frozen 2
            have k3 := HDQ.out.gz.frozen 3
            have k4 := HDQ.out.gz.frozen 4
            simp only [List.getElem?_toArray, List.getElem?_cons_succ, List.getElem?_cons_zero] at g0 g1 g2 g3 g4
            go_wp2
            (try simp only [Exit.inBlock, Exit.then])
            refine bodyPost_ret (results_row_tmp rfl _ _ _ G 30 #[.int .i64 0, .int .i64 0, .slice none 0 0, .slice none 0 0, .slice none 0 0] (0, 0) rfl (HDQ.out.gz.five _ _ _ _ _) Tryd.underlying30 (by kernel_rfl)) rfl ?_
            rw [HNO.out.1, HNO.out.2]
            exact ⟨_, _, _, rfl, tbv_nil _, below_five HDQ.out.bl (by have := HGG.out; omega) _ _ _ _ _⟩
          | false =>
            have r1 := HDS.out.rd.2
            have HQ8 : Hid ((3 * C + 7) / 8 ≤ 700) := by show _ ≤ _; omega
            have HR1 : Hid (rRs (fb s) s.size C s4 (k + 1) = if upC (rb (fb s) s.size (pp, false) ((3 * C + 7) / 8)).1 (C : Nat) = 0 then some (P ++ [upF (rb (fb s) s.size (pp, false) ((3 * C + 7) / 8)).1 (C : Nat)], D ++ [(rDs (fb s) s.size (rb (fb s) s.size (pp, false) ((3 * C + 7) / 8)).2 C).1], (rDs (fb s) s.size (rb (fb s) s.size (pp, false) ((3 * C + 7) / 8)).2 C).2) else none) := by
              show (match rRs (fb s) s.size C s4 k with | none => none | some (P, D, s) => if s.2 = true then some (P, D, s) else _) = _
              rw [HRS.out]
              rfl
            obtain ⟨q8, hq8⟩ : ∃ q, (3 * C + 7) / 8 = q := ⟨_, rfl⟩
            rw [hq8] at HQ8 HR1
            have hq8i : (3 * (C : Int) + 7).tdiv 8 = (q8 : Nat) := by rw [Int.tdiv_eq_ediv_of_nonneg (by omega), ← hq8]; omega
            have hq8b := HQ8.out
            clear hq8
            go_wp2_with fail
            refine (l7take_any (n := q8) (by omega) hgb HDS.out.tx HDS.out.rd).mono ?_
            rintro e wa ⟨vn, rfl, hbs, hcpn, hr, hw⟩
            have HDa := hide (HDS.out.num hr hw)
            have hnm := rb_len (s := s) (st := (pp, false)) (n := q8)
            obtain ⟨hb8, hhb8⟩ : ∃ n, (rb (fb s) s.size (pp, false) q8).1 = n := ⟨_, rfl⟩
            obtain ⟨sa, hsa⟩ : ∃ n, (rb (fb s) s.size (pp, false) q8).2 = n := ⟨_, rfl⟩
            rw [hhb8] at hbs hnm HR1
            rw [hsa] at HDa HR1
            have HUP := hide (specUnpack_own hb8 (C : Nat) _ wa (by omega) (WalkArith.wf_i64 (by omega)) hbs)
            obtain ⟨an, cn, rfl⟩ := hbs.slice
            clear hr hw hhb8 hsa hbs hcpn r2
            go_wp2_with fail
            refine HUP.out.mono ?_
            rintro e wb ⟨vh, rfl, hoh, hbb⟩
            have HDb := hide (HDa.out.below hbb)
            obtain ⟨cd, hcd⟩ : ∃ n, upC hb8 (C : Nat) = n := ⟨_, rfl⟩
            obtain ⟨Hp, hHp⟩ : ∃ n, upF hb8 (C : Nat) = n := ⟨_, rfl⟩
            rw [hcd, hHp] at HR1
            rw [hHp] at hoh
            have HIRb := hide (own_irk hoh)
            obtain ⟨ah, ch, rfl⟩ := (own_irk hoh).slice
            rw [hcd]
            clear hcd hHp hoh hbb HUP HDa
            by_cases qc : ¬ cd = 0
            · have sc : (cd != 0) = true := by rw [bne_iff_ne]; exact qc
              have HNO : Hid (diF s = ⟨0, 0, [], [], []⟩ ∧ diC s = 9) := di_none (by
                show rI (fb s) s.size = none
                have h1 : rRs (fb s) s.size C s4 (k + 1) = none := by rw [HR1.out, if_neg qc]
                have h := rRs_none h1 (i - (k + 1))
                rw [show k + 1 + (i - (k + 1)) = i by omega] at h
                rw [HRI.out, h])
              clear qc
              have g0 := HDb.out.gz.cell 0
              have g1 := HDb.out.gz.cell 1
              have g2 := HDb.out.gz.cell 2
              have g3 := HDb.out.gz.cell 3
              have g4 := HDb.out.gz.cell 4
              have k0 := HDb.out.gz.frozen 0
              have k1 := HDb.out.gz.frozen 1
              have k2 := HDb.out.gz.frozen 2
              have k3 := HDb.out.gz.frozen 3
              have k4 := HDb.out.gz.frozen 4
              simp only [List.getElem?_toArray, List.getElem?_cons_succ, List.getElem?_cons_zero] at g0 g1 g2 g3 g4
              go_wp2
              (try simp only [Exit.inBlock, Exit.then])
              refine bodyPost_ret (results_row_tmp rfl _ _ _ G 30 #[.int .i64 0, .int .i64 0, .slice none 0 0, .slice none 0 0, .slice none 0 0] (0, 0) rfl (HDb.out.gz.five _ _ _ _ _) Tryd.underlying30 (by kernel_rfl)) rfl ?_
              rw [HNO.out.1, HNO.out.2]
              exact ⟨_, _, _, rfl, tbv_nil _, below_five HDb.out.bl (by have := HGG.out; omega) _ _ _ _ _⟩
            have qc0 : cd = 0 := Decidable.not_not.1 qc
            subst qc0
            rw [if_pos rfl] at HR1
            clear qc
            have sc : ((0 : Int) != 0) = false := rfl
            go_wp2
            clear sc
            go_loopw [16, 17] (fun dx cx wq => ∃ q : Nat, q ≤ C ∧ cx = .int .i64 q ∧ wq.ownsRow wb.heap.size 3 1 dx (rDs (fb s) s.size sa q).1.length (ci (rDs (fb s) s.size sa q).1) ∧ RdS wq (G + 1) b o c s (rDs (fb s) s.size sa q).2 ∧ Wrs [G + 1] wb wq) (fun _ cx _ => C - (intOf cx).toNat)
            case atStart => exact ⟨0, Nat.zero_le _, rfl, World.ownsRow_nil _ _ _ _, HDb.out.rd, Wrs.refl _ _⟩
            case round =>
              obtain ⟨q, hq, rfl, hown, hrq, hwq⟩ := hrel
              rename World => wq
              have HDq := hide (HDb.out.num hrq hwq)
              have HWQ := hide hwq
              have HDL : Hid ((rDs (fb s) s.size sa q).1.length = q) := rDs_len _ _ _ _
              have HDN : Hid (rDs (fb s) s.size sa (q + 1) = ((rDs (fb s) s.size sa q).1 ++ [di (rn (fb s) s.size (rDs (fb s) s.size sa q).2 2).1], (rn (fb s) s.size (rDs (fb s) s.size sa q).2 2).2)) := rfl
              obtain ⟨X, hX⟩ : ∃ X, (rDs (fb s) s.size sa q).1 = X := ⟨_, rfl⟩
              obtain ⟨sq, hsq⟩ : ∃ X, (rDs (fb s) s.size sa q).2 = X := ⟨_, rfl⟩
              have hXe := hX
              have hsqe := hsq
              rw [hX] at hown HDL HDN
              rw [hsq] at HDq HDN
              have HO := hide hown
              have HXE := hide hXe
              have HSE := hide hsqe
              have hXl : X.length ≤ 1600 := by have := HDL.out; omega
              have hwbq : wb.heap.size ≤ wq.heap.size := hwq.size
              clear hown hrq hwq hX hsq hXe hsqe
              by_cases hqc : q < C
              · have hqci : (q : Int) < (C : Int) := by omega
                go_wp2_with fail
                refine (l7num_any (n := 2) (by omega) hgb HDq.out.tx HDq.out.rd).mono ?_
                rintro e wx ⟨rfl, hr, hw⟩
                have hka := rn_lt (s := s) (st := sq) (n := 2)
                have HRX := hide hr
                have HWX : Hid (Wrs [G + 1] wb wx) := HWQ.out.trans hw
                have HOX := hide (own_typed (w' := wx) HO.out (fun g cur q => (hw.blk g q.lt (fun hm => by
                  rw [List.mem_singleton] at hm
                  subst hm
                  have hx := HDq.out.rd.1
                  unfold Rd at hx
                  unfold Blk at hx q
                  rw [hx] at q
                  injection q with q
                  injection q with _ q
                  revert q
                  decide)).trans q))
                obtain ⟨n, hn⟩ : ∃ n, (rn (fb s) s.size sq 2).1 = n := ⟨_, rfl⟩
                obtain ⟨sx, hsx⟩ : ∃ n, (rn (fb s) s.size sq 2).2 = n := ⟨_, rfl⟩
                rw [hn] at hka HDN ⊢
                rw [hsx] at HRX HDN
                have hwx : wq.heap.size ≤ wx.heap.size := hw.size
                have hkb : n < 65536 := hka
                obtain ⟨h, hh⟩ : ∃ h, di n = h := ⟨_, rfl⟩
                rw [hh] at HDN
                have HH2 : Hid (h = if n = 65535 then -1 else (n : Int)) := by show _ = _; rw [← hh]; rfl
                clear hr hw hn hsx hka hh
                by_cases q5 : n = 65535
                case' pos =>
                  have s5 : ((n : Int) == 65535) = true := by rw [beq_iff_eq]; omega
                  have HVH : Hid ((-1 : Int) = h) := by show _ = _; rw [HH2.out, if_pos q5]
                case' neg =>
                  have s5 : ((n : Int) == 65535) = false := by rw [beq_eq_false_iff_ne]; omega
                  have HVH : Hid ((n : Int) = h) := by show _ = _; rw [HH2.out, if_neg q5]
                all_goals
                  clear q5
                  go_wp2_with (at_builtin; rw [HVH.out]; refine wp_app_i rfl _ _ rfl wb.heap.size _ X rfl (HOX.out.alloc _) wx.heap.size 1 [h] rfl ?n1 ?l1 ?b1 ?_)
                  case n1 =>
                    intro j hj
                    obtain rfl : j = 0 := by simp at hj; omega
                    exact (Blk.new _ _ _).cell 0
                  case l1 => first | omega | (simp; omega)
                  case b1 => first | omega | (simp; omega)
                  intro v' w3 l hl3 ho hg
                  have HO3 := hide ho
                  have HW3 : Hid (Wrs [G + 1] wb w3) := wrs_grown (HWX.out.trans (Wrs.of_below ((Below.refl _ _).alloc (Nat.le_refl _) _))) (HOX.out.alloc _) hg
                  have HR3 : Hid (RdS w3 (G + 1) b o c s sx) := ⟨app_typed (Blk.alloc HRX.out.1 _) (by decide) (HOX.out.alloc _) hg, HRX.out.2⟩
                  have HL1 : Hid (l = (rDs (fb s) s.size sa (q + 1)).1) := by show _ = _; rw [hl3.out, HDN.out]
                  have HL2 : Hid (sx = (rDs (fb s) s.size sa (q + 1)).2) := by show _ = _; rw [HDN.out]
                  rw [HL1.out] at HO3
                  rw [HL2.out] at HR3
                  clear ho hg hl3
                  go_wp2
                  go_roundw
                  case rel => exact ⟨q + 1, by omega, by go_num, HO3.out, HR3.out, HW3.out⟩
                  case measure => simp [intOf]; omega
              · have hqci : ¬ (q : Int) < (C : Int) := by omega
                obtain rfl : q = C := by omega
                rw [HXE.out, HSE.out] at HR1
                have HIH : Hid (IRk wq (.slice ah Hp.length ch) Hp) := HIRb.out.keep (fun g cur q => (HWQ.out.blk g q.lt (fun hm => by
                  rw [List.mem_singleton] at hm
                  subst hm
                  have hx := HDb.out.rd.1
                  unfold Rd at hx
                  unfold Blk at hx q
                  rw [hx] at q
                  injection q with q
                  injection q with _ q
                  revert q
                  decide)).trans q)
                have HID := hide (own_irk HO.out)
                obtain ⟨ad, cd, rfl⟩ := HID.out.slice
                have HMlt : Hid (M + 1 ≤ wq.heap.size) := HDq.out.tb.lt
                have HD6 : Hid (DS w G M b o c s n1 n2 (wq.alloc (.cells #[.slice ah Hp.length ch] 57)) sq (.slice aT LT.length cT) (.slice aH LH.length cH) (.slice aD LD.length cD) LT LH LD) := HDq.out.below ((Below.refl _ _).alloc (Nat.le_refl _) _)
                have HIH6 : Hid (IRk (wq.alloc (.cells #[.slice ah Hp.length ch] 57)) (.slice ah Hp.length ch) Hp) := HIH.out.keep fun g cur q => q.alloc _
                have HID6 : Hid (IRk (wq.alloc (.cells #[.slice ah Hp.length ch] 57)) (.slice ad X.length cd) X) := HID.out.keep fun g cur q => q.alloc _
                have y4 := HDq.out.tb.cell 4
                simp only [List.getElem?_toArray, List.getElem?_cons_succ, List.getElem?_cons_zero] at y4
                go_wp2_with (at_builtin; refine wp_appII rfl _ _ rfl (M + 1) _ LH rfl HD6.out.ts.hp wq.heap.size 0 1 [(Hp, .slice ah Hp.length ch)] rfl (news1 _ _ _ _) (one1 rfl) (by show LH.length + 1 ≤ 100000000; omega) (by rw [World.size_alloc]; have := HMlt.out; omega) ?_)
                intro v6 w6 l6 hl6 ho6 hg6 hat6
                have HTS6 := hide (HD6.out.ts.addH hl6.out ho6 hg6 (by rw [World.size_alloc]; exact hat6) HIH6.out)
                have HD7 := hide (HD6.out.grown HD6.out.ts.hp (by decide) (by decide) hg6 HTS6.out 4 v6 rfl)
                have HM6 := hide (app_typed HD6.out.tb (by decide) HD6.out.ts.hp hg6)
                have HID7 : Hid (IRk (w6.setCell ⟨M, 4, none⟩ v6) (.slice ad X.length cd) X) := HID6.out.keep fun g cur q => set_typed HM6.out (app_typed q (by decide) HD6.out.ts.hp hg6) (by decide)
                have HMl7 : Hid (M + 1 ≤ (w6.setCell ⟨M, 4, none⟩ v6).heap.size) := HD7.out.tb.lt
                obtain ⟨a6, c6, rfl⟩ := ho6.slice
                have z4 := HM6.out.cell 4
                have f4 := HM6.out.frozen 4
                simp only [List.getElem?_toArray, List.getElem?_cons_succ, List.getElem?_cons_zero] at z4
                have HLH6 : Hid (l6.map (·.1) = P ++ [Hp]) := by show _ = _; rw [hl6.out, List.map_append, HLH.out]; rfl
                have hl6l : l6.length = LH.length + 1 := by rw [hl6.out, List.length_append, List.length_singleton]
                obtain ⟨w7, hw7⟩ : ∃ W, w6.setCell ⟨M, 4, none⟩ (.slice a6 l6.length c6) = W := ⟨_, rfl⟩
                rw [hw7] at HD7 HID7 HMl7
                have HD8 : Hid (DS w G M b o c s n1 n2 (w7.alloc (.cells #[.slice ad X.length cd] 57)) sq (.slice aT LT.length cT) (.slice a6 l6.length c6) (.slice aD LD.length cD) LT l6 LD) := HD7.out.below ((Below.refl _ _).alloc (Nat.le_refl _) _)
                have HID8 : Hid (IRk (w7.alloc (.cells #[.slice ad X.length cd] 57)) (.slice ad X.length cd) X) := HID7.out.keep fun g cur q => q.alloc _
                have y3 := HD7.out.tb.cell 3
                simp only [List.getElem?_toArray, List.getElem?_cons_succ, List.getElem?_cons_zero] at y3
                have HKK : Hid (l6.length = k + 1) := by show _ = _; have := HKH.out; omega
                clear ho6 hg6 hat6 hl6 y4 hl6l
                go_wp2_with (at_builtin; refine wp_appII rfl _ _ rfl (M + 1) _ LD rfl HD8.out.ts.ds w7.heap.size 0 1 [(X, .slice ad X.length cd)] rfl (news1 _ _ _ _) (one1 rfl) (by show LD.length + 1 ≤ 100000000; omega) (by rw [World.size_alloc]; have := HMl7.out; omega) ?_)
                intro v9 w9 l9 hl9 ho9 hg9 hat9
                have HTS9 := hide (HD8.out.ts.addD hl9.out ho9 hg9 (by rw [World.size_alloc]; exact hat9) HID8.out)
                have HD9 := hide (HD8.out.grown HD8.out.ts.ds (by decide) (by decide) hg9 HTS9.out 3 v9 rfl)
                have HM9 := hide (app_typed HD8.out.tb (by decide) HD8.out.ts.ds hg9)
                obtain ⟨a9, c9, rfl⟩ := ho9.slice
                have z3 := HM9.out.cell 3
                have f3 := HM9.out.frozen 3
                simp only [List.getElem?_toArray, List.getElem?_cons_succ, List.getElem?_cons_zero] at z3
                have HLD9 : Hid (l9.map (·.1) = D ++ [X]) := by show _ = _; rw [hl9.out, List.map_append, HLD.out]; rfl
                have HKD9 : Hid (l9.length = k + 1) := by show _ = _; rw [hl9.out, List.length_append, List.length_singleton, HKD.out]
                clear ho9 hg9 hat9 hl9 y3 z4 f4 hw7
                go_wp2
                go_roundw
                case rel => exact ⟨k + 1, l6, l9, _, _, sq, P ++ [Hp], D ++ [X], by omega, by go_num, HD9.out, HR1.out, HLH6.out, HLD9.out, HKK.out, HKD9.out⟩
                case measure => simp [intOf]; omega
        · have hini : ¬ (k : Int) < (i : Int) := by omega
          obtain rfl : k = i := by omega
          cases bad with
          | true =>
            have HNO : Hid (diF s = ⟨0, 0, [], [], []⟩ ∧ diC s = 9) := di_none (by
              show rI (fb s) s.size = none
              rw [HRI.out, HRS.out]
              rfl)
            go_wp2_with fail
            go_quiet (fail)
            have HDQ : Hid (DS w G M b o c s n1 n2 (wr.drewN nq) (pp, true) (.slice aT LT.length cT) (.slice aH LH.length cH) (.slice aD LD.length cD) LT LH LD) := HDS.out.below (below_drewN (Below.refl _ _) nq)
            obtain ⟨WQ, hWQ⟩ : ∃ W, wr.drewN nq = W := ⟨_, rfl⟩
            rw [hWQ] at HDQ ⊢
            clear hWQ r2
            have g0 := HDQ.out.gz.cell 0
            have g1 := HDQ.out.gz.cell 1
            have g2 := HDQ.out.gz.cell 2
            have g3 := HDQ.out.gz.cell 3
            have g4 := HDQ.out.gz.cell 4
            have k0 := HDQ.out.gz.frozen 0
            have k1 := HDQ.out.gz.frozen 1
            have k2 := HDQ.out.gz.frozen 2
            have k3 := HDQ.out.gz.frozen 3
            have k4 := HDQ.out.gz.frozen 4
            simp only [List.getElem?_toArray, List.getElem?_cons_succ, List.getElem?_cons_zero] at g0 g1 g2 g3 g4
            go_wp2
            (try simp only [Exit.inBlock, Exit.then])
            refine bodyPost_ret (results_row_tmp rfl _ _ _ G 30 #[.int .i64 0, .int .i64 0, .slice none 0 0, .slice none 0 0, .slice none 0 0] (0, 0) rfl (HDQ.out.gz.five _ _ _ _ _) Tryd.underlying30 (by kernel_rfl)) rfl ?_
            rw [HNO.out.1, HNO.out.2]
            exact ⟨_, _, _, rfl, tbv_nil _, below_five HDQ.out.bl (by have := HGG.out; omega) _ _ _ _ _⟩
          | false =>
            have HSO : Hid (rI (fb s) s.size = some ⟨(n1 : Nat), (n2 : Nat), LT.map (·.1), LD.map (·.1), LH.map (·.1)⟩) := by
              show _ = _
              rw [HRI.out, HRS.out, HLT.out, HLH.out, HLD.out]
              rfl
            have HTV := hide (HDS.out.ts.tbv (n1 : Nat) (n2 : Nat))
            have HTB2 : Hid (TbB ⟨(n1 : Nat), (n2 : Nat), LT.map (·.1), LD.map (·.1), LH.map (·.1)⟩) := by
              refine tbB_of (C := C) (by omega) (by rw [List.length_map]; omega) (fun t ht => ?_) (by rw [List.length_map]; omega) (fun l hl => ?_) (by rw [List.length_map]; omega) (fun l hl => ?_)
              · exact HNMS.out t (by rw [← HLT.out]; exact ht)
              · exact (rRs_len _ HRS.out).2 l (by rw [← HLD.out]; exact hl)
              · exact (rRs_len _ HRS.out).1 l (by rw [← HLH.out]; exact hl)
            have HEN := hide (fun V (hV : Below wr.heap.size wr V) => specEncode_any _ _ _ _ V HTB2.out (HTV.out.below hV))
            have HST : Hid (∀ V, Below wr.heap.size wr V → BS V (.slice (some ⟨b, o, none⟩) s.size c) s) := fun V hV => ⟨_, b, o, c, rfl, fun _ => rfl, (HDS.out.tx.below hV).cell⟩
            have HYN := hide (di_some HSO.out h4)
            obtain ⟨E, hE⟩ : ∃ E, eiF ⟨(n1 : Nat), (n2 : Nat), LT.map (·.1), LD.map (·.1), LH.map (·.1)⟩ = E := ⟨_, rfl⟩
            rw [hE] at HYN
            simp only [hE] at HEN
            unfold tbagg at HEN
            simp only at HEN
            have m0 := HDS.out.tb.cell 0
            have m1 := HDS.out.tb.cell 1
            have m2 := HDS.out.tb.cell 2
            have m3 := HDS.out.tb.cell 3
            have m4 := HDS.out.tb.cell 4
            simp only [List.getElem?_toArray, List.getElem?_cons_succ, List.getElem?_cons_zero] at m0 m1 m2 m3 m4
            have c6 : ∀ V, V = wr.drew → (convert 37 9 (.slice (some ⟨b, o, none⟩) s.size c)).run Tryd.prog V = .ok (.string s) V := fun V hV => by subst hV; exact toStr_bs (HST.out _ (Below.refl _ _).drew)
            have c7 := c6 wr.drew rfl
            clear hE c6
            by_cases q6 : E = s
            · have s6 : (E.toList == s.toList) = true := by rw [q6]; simp
              have HYE := hide (HYN.out.1 q6)
              clear q6
              go_wp2_with fail
              go_region_with (go_at_call 14; refine (HEN.out _ (Below.refl _ _).drew).mono ?_; rintro e w5 ⟨v5, rfl, hbs5, hb5⟩; obtain ⟨a5, c5, rfl⟩ := hbs5.slice; have HBS5 := hide hbs5; have HB5 := hide hb5; have c8 := toStr_bs hbs5; have c9 := toStr_bs (HST.out w5 ((Below.refl _ _).drew.trans (hb5.mono (Nat.le_refl _)))); clear hbs5 hb5)
              all_goals
                have HD5 : Hid (DS w G M b o c s n1 n2 w5 (pp, false) (.slice aT LT.length cT) (.slice aH LH.length cH) (.slice aD LD.length cD) LT LH LD) := HDS.out.below ((Below.refl _ _).drew.trans (HB5.out.mono (Nat.le_refl _)))
                clear m0 m1 m2 m3 m4 c7 c8 c9
                have g0 := HD5.out.gz.cell 0
                have g1 := HD5.out.gz.cell 1
                have g2 := HD5.out.gz.cell 2
                have g3 := HD5.out.gz.cell 3
                have g4 := HD5.out.gz.cell 4
                have k0 := HD5.out.gz.frozen 0
                have k1 := HD5.out.gz.frozen 1
                have k2 := HD5.out.gz.frozen 2
                have k3 := HD5.out.gz.frozen 3
                have k4 := HD5.out.gz.frozen 4
                simp only [List.getElem?_toArray, List.getElem?_cons_succ, List.getElem?_cons_zero] at g0 g1 g2 g3 g4
                have m0 := HD5.out.tb.cell 0
                have m1 := HD5.out.tb.cell 1
                have m2 := HD5.out.tb.cell 2
                have m3 := HD5.out.tb.cell 3
                have m4 := HD5.out.tb.cell 4
                simp only [List.getElem?_toArray, List.getElem?_cons_succ, List.getElem?_cons_zero] at m0 m1 m2 m3 m4
                go_wp2
                (try simp only [Exit.inBlock, Exit.then])
                refine bodyPost_ret (results_row_tmp rfl _ _ _ G 30 #[.int .i64 n1, .int .i64 n2, .slice aT LT.length cT, .slice aD LD.length cD, .slice aH LH.length cH] (0, 0) rfl (HD5.out.gz.five _ _ _ _ _) Tryd.underlying30 (by kernel_rfl)) rfl ?_
                rw [HYE.out.1, HYE.out.2]
                exact ⟨_, _, _, rfl, (HD5.out.ts.keep fun g t cs ht q => typed_five HD5.out.gz q (by rcases ht with e | e | e | e <;> rw [e] <;> decide) _ _ _ _ _).tbv _ _, below_five HD5.out.bl (by have := HGG.out; omega) _ _ _ _ _⟩
            · have s6 : (E.toList == s.toList) = false := by
                rw [beq_eq_false_iff_ne]
                intro h
                rw [ByteArray.toList_eq, ByteArray.toList_eq] at h
                exact q6 (ByteArray.ext (Array.toList_inj.1 h))
              have HNO := hide (HYN.out.2 q6)
              clear q6
              go_wp2_with fail
              go_region_with (go_at_call 14; refine (HEN.out _ (Below.refl _ _).drew).mono ?_; rintro e w5 ⟨v5, rfl, hbs5, hb5⟩; obtain ⟨a5, c5, rfl⟩ := hbs5.slice; have HBS5 := hide hbs5; have HB5 := hide hb5; have c8 := toStr_bs hbs5; have c9 := toStr_bs (HST.out w5 ((Below.refl _ _).drew.trans (hb5.mono (Nat.le_refl _)))); clear hbs5 hb5)
              all_goals
                have HD5 : Hid (DS w G M b o c s n1 n2 w5 (pp, false) (.slice aT LT.length cT) (.slice aH LH.length cH) (.slice aD LD.length cD) LT LH LD) := HDS.out.below ((Below.refl _ _).drew.trans (HB5.out.mono (Nat.le_refl _)))
                clear m0 m1 m2 m3 m4 c7 c8 c9
                have g0 := HD5.out.gz.cell 0
                have g1 := HD5.out.gz.cell 1
                have g2 := HD5.out.gz.cell 2
                have g3 := HD5.out.gz.cell 3
                have g4 := HD5.out.gz.cell 4
                have k0 := HD5.out.gz.frozen 0
                have k1 := HD5.out.gz.frozen 1
                have k2 := HD5.out.gz.frozen 2
                have k3 := HD5.out.gz.frozen 3
                have k4 := HD5.out.gz.frozen 4
                simp only [List.getElem?_toArray, List.getElem?_cons_succ, List.getElem?_cons_zero] at g0 g1 g2 g3 g4
                go_wp2
                (try simp only [Exit.inBlock, Exit.then])
                refine bodyPost_ret (results_row_tmp rfl _ _ _ G 30 #[.int .i64 0, .int .i64 0, .slice none 0 0, .slice none 0 0, .slice none 0 0] (0, 0) rfl (HD5.out.gz.five _ _ _ _ _) Tryd.underlying30 (by kernel_rfl)) rfl ?_
                rw [HNO.out.1, HNO.out.2]
                exact ⟨_, _, _, rfl, tbv_nil _, below_five HD5.out.bl (by have := HGG.out; omega) _ _ _ _ _⟩
end Go.Proofs.YtpnocklldlacjaaDoor

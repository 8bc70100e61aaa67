/-
  The walk of tick.
  The walk of run.
-/
import Derived.Test.YteicpjbeihabnaaDoorJRunFleetIAC
import Derived.Laws.StructEq
namespace Go.Proofs.YteicpjbeihabnaaDoor
open Go.RowKit

set_option maxHeartbeats 4000000 in
set_option maxRecDepth 1000000 in
theorem tick_any (d : Tb) (v2 v3 v4 rv : Value) (L : List Ro) (F R M : Nat) (w V : World) (hb : TbB d) (hmv : MvOk w) (h : TbV w d v2 v3 v4) (hV : Below w.heap.size w V) (hf : FlAt V F R M d v2 v3 v4 rv L (tkn L) (nds L)) (hR : w.heap.size ≤ R) (hM : w.heap.size ≤ M) (hRV : 0 < L.length → R < V.heap.size) (hok : VfOk d L) :
    Calls Tryd.prog 60 #[.pointer (some ⟨F, 0, none⟩)] V fun e V' => e = .returned (.bool (tick d L).2) ∧ FlAt V' F R M d v2 v3 v4 rv (tick d L).1 (tkn (tick d L).1) (nds (tick d L).1) ∧ Wrs [R, M] V V' := by
  have HACT := hide (fun (P : List Ro) (i : Nat) U (hU : Below w.heap.size w U) hf hok hi => act_any d v2 v3 v4 rv P F R M i w U hb hmv h hU hf hok hi)
  have hL30 := hok.len
  have HOK := hide hok
  have HV := hide hV
  have HF := hide hf
  have hMV := hf.map.lt
  obtain ⟨ar, cr, hrv, har⟩ := hf.row.slc
  subst hrv
  have z5 := hf.blk.cell 5
  simp only [List.getElem?_toArray, List.getElem?_cons_succ, List.getElem?_cons_zero] at z5
  obtain ⟨TS, hTS⟩ : ∃ x, tick d L = x := ⟨_, rfl⟩
  have HTS : Hid (tickN d L L.length = TS) := hTS
  rw [hTS]
  clear hb hmv h hV hf hok hTS
  go_enter Tryd.func60, Tryd.ntmps60
  go_wp2
  go_loopw [3, 12] (fun sx ix wr => ∃ i : Nat, i ≤ L.length ∧ ix = .int .i64 i ∧ sx = .bool (tickN d L i).2 ∧ FlAt wr F R M d v2 v3 v4 (.slice ar L.length cr) (tickN d L i).1 (tkn (tickN d L i).1) (nds (tickN d L i).1) ∧ Wrs [R, M] V wr) (fun _ ix _ => L.length - (intOf ix).toNat)
  case atStart => exact ⟨0, Nat.zero_le _, rfl, rfl, HF.out, Wrs.refl _ _⟩
  case round =>
    obtain ⟨i, hi, rfl, rfl, hfi, hwi⟩ := hrel
    rename World => U
    have HFI := hide hfi
    have HWI := hide hwi
    clear hfi hwi
    by_cases hlt : i < L.length
    · have hlti : (i : Int) < (L.length : Int) := by omega
      obtain rfl := har (by omega)
      have hRV' := hRV (by omega)
      have HVP := hide (HOK.out.tickN i (by omega))
      have HPL := hide (tickN_len d L i)
      have HN1 : Hid (tickN d L (i + 1) = (actL d (tickN d L i).1 i, (tickN d L i).2 || actS d (tickN d L i).1 ((tickN d L i).1.getD i .zero))) := rfl
      obtain ⟨P, hP⟩ : ∃ P, (tickN d L i).1 = P := ⟨_, rfl⟩
      obtain ⟨sb, hsb⟩ : ∃ P, (tickN d L i).2 = P := ⟨_, rfl⟩
      rw [hP] at HFI HVP HPL HN1
      rw [hsb] at HN1 ⊢
      clear hP hsb
      have hPi : i < P.length := by have := HPL.out; omega
      have hro := HFI.out.row.each i hPi
      have hcas := fun r hr => actR_cases HVP.out hPi (r := r) hr
      have HAL : Hid (actL d P i = P.set i (actR d P (P.getD i .zero))) := rfl
      obtain ⟨r, hr⟩ : ∃ r, P.getD i .zero = r := ⟨_, rfl⟩
      replace hcas := hcas r hr
      rw [hr] at hro HN1 HAL
      have HRD := hide hr
      obtain ⟨p0, p1, p2, p3, p4⟩ := r
      obtain ⟨e0, e1, e2, e3, e4⟩ := hro
      simp only at e0 e1 e2 e3 e4 hcas
      obtain ⟨W1, hW1⟩ : ∃ W, U.alloc (.cells #[.int .i64 p0, .int .i64 p1, .int .i64 p2, .int .i64 p3, .bool p4] 76) = W := ⟨_, rfl⟩
      have hb1 : Below U.heap.size U W1 := by rw [← hW1]; exact (Below.refl _ _).alloc (Nat.le_refl _) _
      have hBk : Blk W1 U.heap.size 76 #[.int .i64 p0, .int .i64 p1, .int .i64 p2, .int .i64 p3, .bool p4] := by rw [← hW1]; exact Blk.new _ _ _
      have HW1 : Hid (Wrs [R, M] V W1) := HWI.out.trans (Wrs.of_below hb1)
      have hBW1 : Below w.heap.size w W1 := HV.out.trans (HW1.out.below (fun g hg => by simp at hg; rcases hg with rfl | rfl <;> omega) HV.out.size)
      have HAC := hide (HACT.out P i W1 hBW1 (HFI.out.below hb1) HVP.out hPi)
      have hUV := HWI.out.size
      have hBR : U.heap.size ≠ R := by omega
      have hBM : U.heap.size ≠ M := by omega
      have HBK := hide hBk
      have hW := hW1
      clear hr hb1 hBk hBW1 hW1 HFI HWI z5
      go_wp2_with fail
      refine HAC.out.mono ?_
      rintro e w2 ⟨rfl, hf2, hw2⟩
      have HF2 := hide hf2
      have HW2 : Hid (Wrs [R, M] V w2) := HW1.out.trans hw2
      have hbk2 : Blk w2 U.heap.size 76 #[.int .i64 p0, .int .i64 p1, .int .i64 p2, .int .i64 p3, .bool p4] := (hw2.blk _ HBK.out.lt (by simp; omega)).trans HBK.out
      obtain ⟨B, hB⟩ : ∃ B, U.heap.size = B := ⟨_, rfl⟩
      rw [hB] at hbk2 ⊢
      have hro2 := hf2.row.each i (by rw [actL_len]; exact hPi)
      have hge : (actL d P i).getD i .zero = actR d P ⟨p0, p1, p2, p3, p4⟩ := by rw [HAL.out, getD_set_eq hPi]
      rw [hge] at hro2
      have y5 := hf2.blk.cell 5
      simp only [List.getElem?_toArray, List.getElem?_cons_succ, List.getElem?_cons_zero] at y5
      have HBK2 := hide hbk2
      have hB2 := hbk2.lt
      clear hw2 hge hB hbk2 hf2 HAC HBK hW e0 e1 e2 e3 e4 hUV hBR hBM HW1
      have n0 := HBK2.out.cell 0
      have n1 := HBK2.out.cell 1
      have n2 := HBK2.out.cell 2
      have n3 := HBK2.out.cell 3
      have n4 := HBK2.out.cell 4
      simp only [List.getElem?_toArray, List.getElem?_cons_succ, List.getElem?_cons_zero] at n0 n1 n2 n3 n4
      rcases hcas with ⟨x, hx, hs⟩ | ⟨hx, hp, hs⟩ | ⟨n, m, hx, hne, hs⟩
      · rw [hx] at hro2
        obtain ⟨g0, g1, g2, g3, g4⟩ := hro2
        simp only at g0 g1 g2 g3 g4
        have HN2 : Hid (tickN d L (i + 1) = (actL d P i, sb)) := by show _ = _; rw [HN1.out, hs, Bool.or_false]
        have HBA : Hid (Below w2.heap.size w2 (w2.alloc (.cells #[.int .i64 p0, .int .i64 p1, .int .i64 p2, .int .i64 p3, .bool p4] 76))) := (Below.refl _ _).alloc (Nat.le_refl _) _
        clear hx hs
        cases sb
        all_goals
          go_wp2
          go_roundw
          case rel => exact ⟨i + 1, by omega, by go_num, by rw [HN2.out], by rw [HN2.out]; exact HF2.out.below HBA.out, HW2.out.trans (Wrs.of_below HBA.out)⟩
          case measure => simp [intOf]; omega
      · rw [hx] at hro2
        obtain ⟨g0, g1, g2, g3, g4⟩ := hro2
        simp only at g0 g1 g2 g3 g4
        subst hp
        have HN2 : Hid (tickN d L (i + 1) = (actL d P i, true)) := by show _ = _; rw [HN1.out, hs, Bool.or_true]
        have HBA : Hid (Below w2.heap.size w2 (w2.alloc (.cells #[.int .i64 p0, .int .i64 p1, .int .i64 p2, .int .i64 p3, .bool true] 76))) := (Below.refl _ _).alloc (Nat.le_refl _) _
        clear hx hs
        cases sb
        all_goals
          go_wp2
          go_roundw
          case rel => exact ⟨i + 1, by omega, by go_num, by rw [HN2.out], by rw [HN2.out]; exact HF2.out.below HBA.out, HW2.out.trans (Wrs.of_below HBA.out)⟩
          case measure => simp [intOf]; omega
      · rw [hx] at hro2
        obtain ⟨g0, g1, g2, g3, g4⟩ := hro2
        simp only at g0 g1 g2 g3 g4 hne
        have tne : (n == p0) = false := by rw [beq_eq_false_iff_ne]; exact hne
        clear hne
        have HN2 : Hid (tickN d L (i + 1) = (actL d P i, true)) := by show _ = _; rw [HN1.out, hs, Bool.or_true]
        have HBA : Hid (Below w2.heap.size w2 (w2.alloc (.cells #[.int .i64 n, .int .i64 p1, .int .i64 m, .int .i64 p3, .bool p4] 76))) := (Below.refl _ _).alloc (Nat.le_refl _) _
        clear hx hs
        cases sb
        all_goals
          go_wp2
          go_roundw
          case rel => exact ⟨i + 1, by omega, by go_num, by rw [HN2.out], by rw [HN2.out]; exact HF2.out.below HBA.out, HW2.out.trans (Wrs.of_below HBA.out)⟩
          case measure => simp [intOf]; omega
    · have hge : ¬ (i : Int) < (L.length : Int) := by omega
      obtain rfl : i = L.length := by omega
      have HE : Hid ((tickN d L L.length).1 = TS.1 ∧ (tickN d L L.length).2 = TS.2) := by rw [HTS.out]; exact ⟨rfl, rfl⟩
      go_wp2
      go_ret
      have h1 := HFI.out
      rw [HE.out.1] at h1
      exact ⟨by rw [HE.out.2]; rfl, h1, HWI.out⟩
end Go.Proofs.YteicpjbeihabnaaDoor

namespace Go.Proofs.YteicpjbeihabnaaDoor
open Go.RowKit

set_option maxHeartbeats 4000000 in
set_option maxRecDepth 1000000 in
theorem run_any (d : Tb) (v2 v3 v4 rv : Value) (L : List Ro) (n F R M : Nat) (w V : World) (hb : TbB d) (hmv : MvOk w) (h : TbV w d v2 v3 v4) (hV : Below w.heap.size w V) (hf : FlAt V F R M d v2 v3 v4 rv L (tkn L) (nds L)) (hR : w.heap.size ≤ R) (hM : w.heap.size ≤ M) (hRV : 0 < L.length → R < V.heap.size) (hok : VfOk d L) (hn : n ≤ 5000) :
    Calls Tryd.prog 61 #[.pointer (some ⟨F, 0, none⟩), .int .i64 n] V fun e V' => e = .returned (.tuple #[.int .i64 (runN d n L 0).1, .int .i64 ((runN d n L 0).2.1 : Nat)]) ∧ FlAt V' F R M d v2 v3 v4 rv (runN d n L 0).2.2 (tkn (runN d n L 0).2.2) (nds (runN d n L 0).2.2) ∧ Wrs [R, M] V V' := by
  have HTK := hide (fun (P : List Ro) U (hU : Below w.heap.size w U) hf (hRU : 0 < P.length → R < U.heap.size) hok => tick_any d v2 v3 v4 rv P F R M w U hb hmv h hU hf hR hM hRU hok)
  have HOK := hide hok
  have HV := hide hV
  have HF := hide hf
  obtain ⟨X, hX⟩ : ∃ x, runN d n L 0 = x := ⟨_, rfl⟩
  have HX := hide hX
  rw [hX]
  clear hb hmv h hV hf hok hX
  go_enter Tryd.func61, Tryd.ntmps61
  go_wp2
  go_loopw [6] (fun mx wr => ∃ (m : Nat) (P : List Ro), m ≤ n ∧ mx = .int .i64 m ∧ VfOk d P ∧ P.length = L.length ∧ runN d (n - m) P m = X ∧ FlAt wr F R M d v2 v3 v4 rv P (tkn P) (nds P) ∧ Wrs [R, M] V wr) (fun mx _ => n - (intOf mx).toNat)
  case atStart => exact ⟨0, L, Nat.zero_le _, rfl, HOK.out, rfl, HX.out, HF.out, Wrs.refl _ _⟩
  case round =>
    obtain ⟨m, P, hm, rfl, hvp, hpl, hx, hfi, hwi⟩ := hrel
    rename World => U
    have HVP := hide hvp
    have HPL := hide hpl
    have HXX := hide hx
    have HFI := hide hfi
    have HWI := hide hwi
    have hln := hfi.map.len 3
    have z6 := hfi.blk.cell 6
    simp only [List.getElem?_toArray, List.getElem?_cons_succ, List.getElem?_cons_zero] at z6
    have hnl := nds_le P
    have hz := nds_zero P
    have hP30 := hvp.len
    obtain ⟨k, hk⟩ : ∃ k, nds P = k := ⟨_, rfl⟩
    rw [hk] at hln hnl hz
    have HNK := hide hk
    obtain ⟨al, hal⟩ : ∃ b, allD P = b := ⟨_, rfl⟩
    rw [hal] at hz
    have HAL := hide hal
    have hBU : Below w.heap.size w U := HV.out.trans (HWI.out.below (fun g hg => by simp at hg; rcases hg with rfl | rfl <;> omega) HV.out.size)
    have HTU := hide (HTK.out P U hBU hfi (fun h0 => by have h1 := hRV (by omega); have h2 := hwi.size; omega) hvp)
    clear hvp hpl hx hfi hwi hk hal hBU
    cases al with
    | true =>
      obtain rfl : k = 0 := hz.2 rfl
      have HE : Hid (X = (0, m, P)) := by show _ = _; rw [← HXX.out]; exact runN_all HAL.out _ _
      clear hz
      go_wp2
      go_ret2
      rw [HE.out]
      exact ⟨rfl, by have := HFI.out; rw [HNK.out] at this; rw [HNK.out]; exact this, HWI.out⟩
    | false =>
    have hk0 : ¬ k = 0 := fun e => by have := hz.1 e; cases this
    have tk : (((k : Nat) : Int) == 0) = false := by rw [beq_eq_false_iff_ne]; omega
    clear hz
    by_cases qm : m = n
    · have tm : ((m : Int) == (n : Int)) = true := by rw [beq_iff_eq]; omega
      have HE : Hid (X = (7, m, P)) := by
        show _ = _
        rw [← HXX.out, show n - m = 0 by omega]
        exact runN_end HAL.out _
      clear qm
      go_wp2
      go_ret2
      rw [HE.out]
      exact ⟨rfl, HFI.out, HWI.out⟩
    have tm : ((m : Int) == (n : Int)) = false := by rw [beq_eq_false_iff_ne]; omega
    obtain ⟨j, hj⟩ : ∃ j, n - m = j + 1 := ⟨n - m - 1, by omega⟩
    have hmn : m < n := by omega
    rw [hj] at HXX
    obtain ⟨TS, hTS⟩ : ∃ x, tick d P = x := ⟨_, rfl⟩
    have HVT := hide HVP.out.tick
    have HTL := hide (tick_len d P)
    have HON := hide (fun hs => runN_on (d := d) HAL.out hs j m)
    have HSK := hide (fun hs => runN_stuck (d := d) HAL.out hs j m)
    rw [hTS] at HTU HVT HTL HON HSK
    have HJ := hide hj
    obtain ⟨PT, sb⟩ := TS
    simp only at HTU HVT HTL HON HSK
    clear hTS hj qm HFI
    cases sb with
    | true =>
      have HX2 : Hid (runN d (n - (m + 1)) PT (m + 1) = X) := by
        show _ = _
        rw [← HXX.out, HON.out rfl, show n - (m + 1) = j by have := HJ.out; omega]
      go_wp2_with fail
      refine HTU.out.mono ?_
      rintro e w2 ⟨rfl, hf2, hw2⟩
      have HF2 := hide hf2
      have HW2 : Hid (Wrs [R, M] V w2) := HWI.out.trans hw2
      clear hf2 hw2
      go_wp2
      go_roundw
      case rel => exact ⟨m + 1, PT, by omega, by go_num, HVT.out, HTL.out.trans HPL.out, HX2.out, HF2.out, HW2.out⟩
      case measure => simp [intOf]; omega
    | false =>
      have HE : Hid (X = (12, m + 1, PT)) := by show _ = _; rw [← HXX.out]; exact HSK.out rfl
      go_wp2_with fail
      refine HTU.out.mono ?_
      rintro e w2 ⟨rfl, hf2, hw2⟩
      have HF2 := hide hf2
      have HW2 : Hid (Wrs [R, M] V w2) := HWI.out.trans hw2
      clear hf2 hw2
      go_wp2
      go_ret2
      rw [HE.out]
      exact ⟨by first | rfl | simp, HF2.out, HW2.out⟩
end Go.Proofs.YteicpjbeihabnaaDoor

/-
  The walk of spec.Lex.
-/
import Derived.Test.YtfldjcmobpcpoaaDoorJLexSL
import Derived.Test.YtfldjcmobpcpoaaDoorJLexST
import Derived.Test.YtfldjcmobpcpoaaDoorJLexSB
import Derived.Test.YtfldjcmobpcpoaaDoorJLexK
namespace Go.Proofs.YtfldjcmobpcpoaaDoor
open Go.RowKit

set_option maxHeartbeats 1000000 in
set_option maxRecDepth 1000000 in
theorem specLex_big (b off cap : Nat) (s : ByteArray) (w : World) (h : 5000 < s.size) :
    Calls Tryd.prog 17 #[.slice (some ⟨b, off, none⟩) s.size cap] w fun e w' => LexGives w w' e (lexed s) := by
  have HR : Hid (lexed s = ([], 4, 5000)) := by show _ = _; unfold lexed; rw [if_pos h]
  have t0 : decide ((5000 : Int) < (s.size : Int)) = true := decide_eq_true (by omega)
  clear h
  go_enter Tryd.func17, Tryd.ntmps17
  go_wp2
  go_ret3
  exact lexGives_nil HR.out (Below.refl _ _)

set_option maxHeartbeats 1000000 in
set_option maxRecDepth 1000000 in
theorem specLex_bad (b off cap : Nat) (s : ByteArray) (w : World) (hs : s.size ≤ 5000) (hc : ∀ j, j < s.size → w.cell? ⟨b, off + j, none⟩ = some (bts s j)) (hg : (chk s).1 ≠ 0) :
    Calls Tryd.prog 17 #[.slice (some ⟨b, off, none⟩) s.size cap] w fun e w' => LexGives w w' e (lexed s) := by
  have H := specCheck_any b off cap s w (by omega) hc
  obtain ⟨A, D, hAD⟩ : ∃ A D, chk s = (A, D) := ⟨_, _, rfl⟩
  rw [pairVal_of hAD] at H
  have H' := hide H
  have HR : Hid (lexed s = ([], A, D)) := by show _ = _; unfold lexed; rw [if_neg (by omega), if_neg hg, hAD]
  rw [hAD] at hg
  have t1 : ((A : Int) != 0) = true := by rw [bne_iff_ne]; simp only at hg; omega
  have t0 : decide ((5000 : Int) < (s.size : Int)) = false := decide_eq_false (by omega)
  clear hc H hAD hg
  go_enter Tryd.func17, Tryd.ntmps17
  go_wp2_with fail
  refine H'.out.mono ?_
  rintro e w1 ⟨rfl, hb⟩
  have HB := hide hb
  clear hb
  go_wp2
  go_ret3
  exact lexGives_nil HR.out HB.out

set_option maxHeartbeats 1000000 in
set_option maxRecDepth 1000000 in
theorem specLex_good (b off cap : Nat) (s : ByteArray) (w : World) (hs : s.size ≤ 5000) (hcap : s.size ≤ cap) (hc : ∀ j, j < s.size → w.cell? ⟨b, off + j, none⟩ = some (bts s j)) (hg : (chk s).1 = 0) :
    Calls Tryd.prog 17 #[.slice (some ⟨b, off, none⟩) s.size cap] w fun e w' => LexGives w w' e (lexed s) := by
  have H := specCheck_any b off cap s w (by omega) hc
  obtain ⟨A, D, hAD⟩ : ∃ A D, chk s = (A, D) := ⟨_, _, rfl⟩
  rw [pairVal_of hAD] at H
  have H' := hide H
  have HR : Hid (lexed s = lex s (s.size + 1) 0 []) := by show _ = _; unfold lexed; rw [if_neg (by omega), if_pos hg]
  rw [hAD] at hg
  have t1 : ((A : Int) != 0) = false := by rw [bne_eq_false_iff_eq]; simp only at hg; omega
  have t0 : decide ((5000 : Int) < (s.size : Int)) = false := decide_eq_false (by omega)
  have HC := hide hc
  obtain ⟨L, hL⟩ : ∃ L, lexed s = L := ⟨_, rfl⟩
  have HL : Hid (lex s (s.size + 1) 0 [] = L) := by show _ = _; rw [← HR.out]; exact hL
  rw [hL]
  clear hc H hAD hg HR hL
  go_enter Tryd.func17, Tryd.ntmps17
  go_wp2_with fail
  refine H'.out.mono ?_
  rintro e w1 ⟨rfl, hb⟩
  have HB := hide hb
  have hsz := hb.size
  clear hb
  go_wp2
  go_loopw [7, 8] (fun out ix wr => ∃ (i f : Nat) (acc : List (Nat × Nat × Nat)), ix = .int .i64 i ∧ i ≤ s.size ∧ s.size < i + f ∧ lex s f i acc = L ∧ acc.length ≤ i ∧ wr.ownsRow w.heap.size 43 3 out acc.length (tcv acc) ∧ Below w.heap.size w wr) (fun _ ix _ => s.size - (intOf ix).toNat)
  case atStart => exact ⟨0, s.size + 1, [], rfl, Nat.zero_le _, by omega, HL.out, by simp, World.ownsRow_nil _ _ _ _, HB.out⟩
  case round =>
    obtain ⟨i, f, acc, rfl, hi, hf, hk, hal, hown, hbl⟩ := hrel
    have HOWN := hide hown
    have HBL := hide hbl
    have HBs := hide hbl.size
    by_cases hlt : i < s.size
    · have d1 : decide ((i : Int) < (s.size : Int)) = true := decide_eq_true (by omega)
      obtain ⟨g, hfg, hst⟩ := lex_step (acc := acc) hf hlt
      have HBLK := blank_any b off cap i s wr (by omega) hlt (fun j hj => by rw [hbl.cell (p := ⟨b, off + j, none⟩) (World.block_lt_of_cell? _ _ (HC.out j hj))]; exact HC.out j hj)
      have HTOK := tok_any b off cap i s wr (by omega) hcap hlt (fun j hj => by rw [hbl.cell (p := ⟨b, off + j, none⟩) (World.block_lt_of_cell? _ _ (HC.out j hj))]; exact HC.out j hj)
      have hble := bl_le s i hlt
      have htle := tok_le s i hlt
      rw [hk] at hst
      have HST := hide hst
      obtain ⟨B, hB⟩ : ∃ B, bl s i = B := ⟨_, rfl⟩
      obtain ⟨K, M, hKM⟩ : ∃ K M, tok s i = (K, M) := ⟨_, _, rfl⟩
      rw [hB] at HBLK hble HST
      rw [two2_of hKM] at HTOK
      rw [hKM] at htle HST
      simp only at htle
      have HBLK' := hide HBLK
      have HTOK' := hide HTOK
      have hfg' : f ≤ g + 1 := by omega
      clear hk hown hbl hst HBLK HTOK hB hKM hfg
      by_cases hpos : 0 < B
      · obtain ⟨n, hn⟩ : ∃ n : Nat, B = (n : Int) := ⟨B.toNat, by omega⟩
        have HS : Hid (lex s g (i + n) acc = L) := by show _ = _; rw [HST.out, if_pos hpos, hn, Int.toNat_natCast]
        subst hn
        have u1 : decide ((0 : Int) < (n : Int)) = true := decide_eq_true hpos
        have hn1 : 1 ≤ n := by omega
        have hin : i + n ≤ s.size := by omega
        clear hpos hble HST
        go_wp2_with fail
        refine HBLK'.out.mono ?_
        rintro e w' ⟨rfl, rfl⟩
        go_wp2
        go_roundw
        case rel => exact ⟨i + n, g, acc, by go_num, hin, by omega, HS.out, by omega, HOWN.out, HBL.out⟩
        case measure => simp [intOf]; omega
      · have u1 : decide ((0 : Int) < B) = false := decide_eq_false hpos
        by_cases hneg : B < 0
        · have u2 : decide (B < 0) = true := decide_eq_true hneg
          have HS : Hid (L = ([], 2, i)) := by show _ = _; rw [HST.out, if_neg hpos, if_pos hneg]
          clear hpos hneg HST
          go_wp2_with fail
          refine HBLK'.out.mono ?_
          rintro e w' ⟨rfl, rfl⟩
          go_wp2
          go_ret3
          exact lexGives_nil HS.out HBL.out
        · have u2 : decide (B < 0) = false := decide_eq_false hneg
          by_cases hM : M = 0
          · have u3 : ((M : Int) == 0) = true := by rw [beq_iff_eq]; omega
            have HS : Hid (L = ([], 2, i)) := by show _ = _; rw [HST.out, if_neg hpos, if_neg hneg, if_pos hM]
            clear hpos hneg HST hM
            go_wp2_with fail
            refine HBLK'.out.mono ?_
            rintro e w' ⟨rfl, rfl⟩
            go_wp2_with fail
            refine HTOK'.out.mono ?_
            rintro e w2 ⟨rfl, hb2⟩
            have HB2 := hide (HBL.out.trans (hb2.mono HBs.out))
            clear hb2
            go_wp2
            go_ret3
            exact lexGives_nil HS.out HB2.out
          · have u3 : ((M : Int) == 0) = false := by rw [beq_eq_false_iff_ne]; omega
            have HS : Hid (lex s g (i + M) (acc ++ [(K, i, M)]) = L) := by show _ = _; rw [HST.out, if_neg hpos, if_neg hneg, if_neg hM]
            have hM1 : 1 ≤ M := by omega
            clear hpos hneg HST hM
            go_wp2_with fail
            refine HBLK'.out.mono ?_
            rintro e w' ⟨rfl, rfl⟩
            go_wp2_with fail
            refine HTOK'.out.mono ?_
            rintro e w2 ⟨rfl, hb2⟩
            have HB2 := hide (HBL.out.trans (hb2.mono HBs.out))
            have HO2 := hide (own_below HOWN.out hb2)
            clear hb2
            go_wp2_with (at_builtin; refine wp_tok rfl (.tmp 48) (.tmp 53) rfl w.heap.size _ acc rfl (HO2.out.alloc _) w2.heap.size 1 (K, i, M) rfl ?n1 ?l1 ?b1 ?_)
            case n1 =>
              intro j u hj
              refine (cell_fresh w2 #[.int .i64 K, .int .i64 i, .int .i64 M] 43 j).trans ?_
              rw [← hj, ← Array.getElem?_toList]; rfl
            case l1 => omega
            case b1 => (have := HB2.out.size; simp; omega)
            intro v' w3 l hl ho hg
            have e1 : l.length = acc.length + 1 := by rw [hl.out]; simp
            have HB3 : Hid (Below w.heap.size w w3) := tok_below (HB2.out.alloc HB2.out.size _) (HO2.out.alloc _) (by have := HB2.out.size; simp; omega) hg
            have HO3 := hide ho
            clear ho hg
            go_wp2
            go_roundw
            case rel => exact ⟨i + M, g, l, by go_num, htle, by omega, by rw [hl.out]; exact HS.out, by omega, HO3.out, HB3.out⟩
            case measure => simp [intOf]; omega
    · have d1 : decide ((i : Int) < (s.size : Int)) = false := decide_eq_false (by omega)
      have HS : Hid (L = (acc, 0, 0)) := by show _ = _; rw [← hk, lex_end hlt]
      clear hk hown hbl
      go_wp2
      go_ret3
      exact ⟨_, by rw [HS.out]; rfl, by rw [HS.out]; exact HOWN.out, HBL.out⟩

theorem specLex_any (b off cap : Nat) (s : ByteArray) (w : World) (hcap : s.size ≤ cap) (hc : ∀ j, j < s.size → w.cell? ⟨b, off + j, none⟩ = some (bts s j)) :
    Calls Tryd.prog 17 #[.slice (some ⟨b, off, none⟩) s.size cap] w fun e w' => LexGives w w' e (lexed s) := by
  by_cases h : 5000 < s.size
  · exact specLex_big b off cap s w h
  · by_cases hg : (chk s).1 = 0
    · exact specLex_good b off cap s w (by omega) hcap hc hg
    · exact specLex_bad b off cap s w (by omega) hc hg
end Go.Proofs.YtfldjcmobpcpoaaDoor

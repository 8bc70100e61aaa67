/-
  The walk of impl.QuoteText.
-/
import Derived.Test.YtaapababeecmeaaDoorJShowLayoutU
import Derived.Test.YtaapababeecmeaaDoorJShowLayoutITR
namespace Go.Proofs.YtaapababeecmeaaDoor
open Go.RowKit

theorem own_iterAt {w : World} {B : Nat} {v : Value} {n : Nat} {xs : List Value} (h : w.ownsRow B 5 1 v n xs) {k : Nat} {s : ByteArray} {p : Nat} (hk : w.heap[k]? = some (Obj.stringIter s p)) (p' : Nat) : (w.iterAt k s p').ownsRow B 5 1 v n xs := by
  refine h.kept (row := some k) ⟨rfl, rfl, rfl, by simp [World.iterAt], fun j _ hj => by simp only [World.iterAt]; rw [Array.getElem?_setIfInBounds_ne (fun e => hj (by rw [e]))]⟩ ?_
  rcases h.2 with ⟨rfl, _⟩ | ⟨g, cap, cur, rfl, _, hgg, _⟩
  · exact .inl rfl
  · refine .inr (fun e => ?_)
    have : g = k := Option.some.inj e
    subst this
    rw [hk] at hgg
    cases hgg

theorem chk_good {s : ByteArray} {f p : Nat} (hp : p < s.size) (hf : s.size < p + f) (hk : chkAt s f p = chk s) (hg : (chk s).1 = 0) : (chr s p).1 ≠ 0 := by
  intro h
  have := chkAt_bad hp hf h
  rw [hk] at this
  rw [this] at hg
  cases hg

theorem chr_low {s : ByteArray} {p : Nat} (h : bk s p 0 < 128) : chr s p = (1, bk s p 0) := chr_ascii s p h

/-- appendQuoted at the character that begins at p. -/
theorem aq_all (B : Nat) (v : Value) (s : ByteArray) (p : Nat) (w : World) (hs : s.size ≤ 1048576) (hp : p < s.size) (hg : (chr s p).1 ≠ 0) (hc : ∀ w', Below B w w' → w'.cell? ⟨7, 15, none⟩ = some (.int .u8 4)) (hBw : B ≤ w.heap.size) (hown : w.ownsRow B 5 1 v (qTo s p).length (cv (qTo s p))) :
    Calls Tryd.prog 67 #[v, .int .i32 ((chr s p).2 : Nat)] w fun e w' => ∃ v', e = .returned v' ∧ Adds B w w' v' (qTo s (p + (chr s p).1)) := by
  have hl := qTo_le s p
  by_cases h0 : bk s p 0 < 128
  · rw [chr_low h0]
    have eq : qTo s (p + 1) = qTo s p ++ qb (bk s p 0) := rfl
    rw [eq]
    generalize bk s p 0 = c at *
    by_cases hA : c = 34 ∨ c = 92
    · have e : qb c = [92, c] := by unfold qb; rw [if_pos hA]
      rw [e]
      exact aq_quote B v (qTo s p) c w hA (by omega) hBw hown
    · have t1 : ((c : Int) == 34) = false := by rw [beq_eq_false_iff_ne]; omega
      have t2 : ((c : Int) == 92) = false := by rw [beq_eq_false_iff_ne]; omega
      by_cases hE : c < 32 ∨ c = 127
      · have e : qTo s p ++ qb c = qTo s p ++ [92, 117, 123] ++ hexL c ++ [125] := by unfold qb; rw [if_neg hA, if_pos hE]; simp
        rw [e]
        refine aq_esc B v (qTo s p) c w hc (by omega) t1 t2 ?_ (by omega) hBw hown
        by_cases h : c < 32
        · exact .inl (decide_eq_true (by omega))
        · exact .inr ⟨decide_eq_false (by omega), by rw [beq_iff_eq]; omega⟩
      · have e : qb c = [c] := by unfold qb; rw [if_neg hA, if_neg hE]
        rw [e]
        refine aq_rune B v (qTo s p) [c] c w t1 t2 (decide_eq_false (by omega)) (by rw [beq_eq_false_iff_ne]; omega) (by omega) ?_ (by omega) hBw hown
        simp only [Lib.runeCells]
        rw [Lib.encodeRuneZ_one (by omega) (by omega)]
        rfl
  · obtain ⟨ys, e, hys, h1, h2, _⟩ := qTo_rune s p hp hg (by omega)
    rw [e]
    exact aq_rune B v (qTo s p) ys _ w (by rw [beq_eq_false_iff_ne]; omega) (by rw [beq_eq_false_iff_ne]; omega) (decide_eq_false (by omega)) (by rw [beq_eq_false_iff_ne]; omega) h2 hys (by omega) hBw hown

theorem chr_in {s : ByteArray} {p : Nat} (hp : p < s.size) (hg : (chr s p).1 ≠ 0) : p + (chr s p).1 ≤ s.size := by
  by_cases h0 : bk s p 0 < 128
  · rw [chr_low h0]; exact hp
  · obtain ⟨_, _, _, _, _, h⟩ := qTo_rune s p hp hg (by omega); exact h

theorem chr_decode {s : ByteArray} {p : Nat} (hg : (chr s p).1 ≠ 0) : chr s p = ((Utf8.decode s p).2, (Utf8.decode s p).1) := by
  unfold chr at *
  by_cases h : (Utf8.decode s p).1 = 65533 ∧ (Utf8.decode s p).2 = 1
  · rw [if_pos h] at hg; exact absurd rfl hg
  · rw [if_neg h]

set_option maxHeartbeats 1000000 in
set_option maxRecDepth 1000000 in
theorem implQuote_any (b off cap : Nat) (s : ByteArray) (w : World) (hs : s.size ≤ 1048576) (hT : Lib.Utf8Tabs 4 5 w) (hdb : w.cell? ⟨7, 15, none⟩ = some (.int .u8 4)) (hc : ∀ j, j < s.size → w.cell? ⟨b, off + j, none⟩ = some (bts s j)) :
    Calls Tryd.prog 58 #[.slice (some ⟨b, off, none⟩) s.size cap] w fun e w' => ∃ v', e = .returned v' ∧ w'.ownsRow w.heap.size 5 1 v' (quoted s).length (cv (quoted s)) ∧ Below w.heap.size w w' := by
  have H15 := implCheck_any b off cap s w hs hT hc
  have HC := hide hc
  have HDB := hide hdb
  obtain ⟨A, D, hAD⟩ : ∃ A D, chk s = (A, D) := ⟨_, _, rfl⟩
  rw [pairVal_of hAD] at H15
  have H15' := hide H15
  clear hc hT hdb H15
  by_cases hg : A = 0
  · have hgb : ((A : Int) != 0) = false := by rw [bne_eq_false_iff_eq]; omega
    have HG0 : Hid ((chk s).1 = 0) := by show _ = _; rw [hAD]; exact hg
    have HQ : Hid (quoted s = qTo s s.size ++ [34]) := by show _ = _; unfold quoted; rw [if_pos HG0.out]
    clear hg hAD
    go_enter Tryd.func58, Tryd.ntmps58
    go_wp2_with fail
    refine H15'.out.mono ?_
    rintro e w1 ⟨rfl, hb1⟩
    have HB1 := hide hb1
    have hB : w.heap.size ≤ w1.heap.size := hb1.size
    have hcv : ∀ o, (convert 39 9 (.slice (some ⟨b, off, none⟩) s.size cap)).run Tryd.prog (w1.alloc o) = .ok (.string s) (w1.alloc o) := fun o => toStr_run s (w1.alloc o) b off cap (fun j hj => by
      have hlt := World.block_lt_of_cell? _ _ (HC.out j hj)
      exact later_cell (by rw [HB1.out.cell (p := ⟨b, off + j, none⟩) hlt]; exact HC.out j hj) o)
    clear hb1
    go_wp2_with fail
    clear hcv
    go_loopw [5] (fun out wr => ∃ p f : Nat, wr.heap[w1.heap.size + 1]? = some (Obj.stringIter s p) ∧ p ≤ s.size ∧ s.size < p + f ∧ chkAt s f p = chk s ∧ wr.ownsRow w.heap.size 5 1 out (qTo s p).length (cv (qTo s p)) ∧ Below w.heap.size w wr) (fun _ wr => s.size - wr.iterPos (w1.heap.size + 1))
    case atStart =>
      refine ⟨0, s.size + 1, ?_, Nat.zero_le _, by omega, rfl, (World.ownsRow_lit w1 #[.int .u8 34] 1 hB (by unfold maxLen; omega) rfl).alloc _, (HB1.out.alloc hB _).alloc (by simp; omega) _⟩
      have := World.iter_heap (w1.alloc (.cells #[.int .u8 34] 5)) s 0
      simpa using this
    case round =>
      obtain ⟨p, f, hit, hp, hf, hk, hown, hbl⟩ := hrel
      have HPOS := hide (iterPos_of hit)
      by_cases hlt : p < s.size
      · have hgd := chk_good hlt hf hk HG0.out
        have hde := chr_decode hgd
        have hnx : ∀ ty, (Instr.next (.pointer (some ⟨w1.heap.size + 1, 0, none⟩)) true ty).run Tryd.prog wr = _ := fun ty => Lib.run_next_any_at wr (w1.heap.size + 1) s p ty hit hlt
        have e1 : (Utf8.decode s p).1 = (chr s p).2 := by rw [hde]
        have e2 : (Utf8.decode s p).2 = (chr s p).1 := by rw [hde]
        rw [e1, e2] at hnx
        have HIT := hide (Lib.iterAt_heap wr (w1.heap.size + 1) s p (p + (chr s p).1) hit)
        have hbn := below_iterAt hbl (show w.heap.size ≤ w1.heap.size + 1 by omega) s (p + (chr s p).1)
        have hon := own_iterAt hown hit (p + (chr s p).1)
        have HIN := hide (chr_in hlt hgd)
        obtain ⟨g, hge, hgk⟩ := chkAt_good hlt hf hgd
        have HGK : Hid (chkAt s g (p + (chr s p).1) = chk s) := by show _ = _; rw [← hgk]; exact hk
        have hg1 : f ≤ g + 1 := by omega
        have hd1 : 1 ≤ (chr s p).1 := by omega
        generalize wr.iterAt (w1.heap.size + 1) s (p + (chr s p).1) = wn at *
        have HAQ := hide (aq_all w.heap.size _ s p wn hs hlt hgd (fun w' hb' => by
          rw [(hbn.trans (hb'.mono (Nat.le_refl _))).cell (p := ⟨7, 15, none⟩) (World.block_lt_of_cell? _ _ HDB.out)]; exact HDB.out) hbn.size hon)
        have HBN := hide hbn
        obtain ⟨d, r, hdr⟩ : ∃ d r, chr s p = (d, r) := ⟨_, _, rfl⟩
        rw [hdr] at hnx HIT HAQ HIN HGK hd1
        simp only at hnx hd1
        clear hit hk hown hbl hgd hde e1 e2 hbn hon hge hgk hdr
        go_wp2_with fail
        refine HAQ.out.mono ?_
        rintro e w3 ⟨v', rfl, hadd⟩
        have HADD := hide hadd
        clear hadd
        go_wp2
        go_roundw
        case rel => exact ⟨p + d, g, HADD.out.2.2 _ _ _ HIT.out, HIN.out, by omega, HGK.out, HADD.out.1, HBN.out.trans HADD.out.2.1⟩
        case measure => rw [iterPos_of (HADD.out.2.2 _ _ _ HIT.out), HPOS.out]; omega
      · have e : p = s.size := by omega
        have hnx : ∀ ty, (Instr.next (.pointer (some ⟨w1.heap.size + 1, 0, none⟩)) true ty).run Tryd.prog wr = _ := fun ty => Lib.run_next_end_at wr (w1.heap.size + 1) s p ty hit hlt
        subst e
        have HO := hide hown
        have HBL := hide hbl
        have hsz := hbl.size
        have hql := qTo_le s s.size
        clear hit hown hbl hk
        go_wp2_with (at_builtin; refine wp_app rfl (.tmp 25) (.tmp 26) rfl w.heap.size _ (qTo s s.size) rfl (HO.out.alloc _) wr.heap.size 1 [34] rfl ?n1 ?l1 ?b1 ?_)
        case n1 => (intro j hj; match j, hj with | 0, _ => simp)
        case l1 => (show (qTo s s.size).length + 1 ≤ _; omega)
        case b1 => (simp; omega)
        intro v' w' l hl ho hg
        go_wp2
        go_ret
        exact ⟨v', rfl, by rw [HQ.out, ← hl.out]; exact ho, app_below (HBL.out.alloc hsz _) (HO.out.alloc _) (by simp; omega) hg⟩
  · have hgb : ((A : Int) != 0) = true := by rw [bne_iff_ne]; omega
    have HQ : Hid (quoted s = []) := by show _ = _; unfold quoted; rw [if_neg (by rw [hAD]; exact hg)]
    clear hg hAD
    go_enter Tryd.func58, Tryd.ntmps58
    go_wp2_with (go_at_call 65; refine H15'.out.mono ?_; rintro e w1 ⟨rfl, hb1⟩)
    go_ret
    exact ⟨_, rfl, by rw [HQ.out]; exact World.ownsRow_nil _ _ _ _, hb1⟩
end Go.Proofs.YtaapababeecmeaaDoor

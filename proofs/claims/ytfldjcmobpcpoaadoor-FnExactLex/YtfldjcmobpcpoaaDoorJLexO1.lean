/-
  The walk of spec.l1literal.
-/
import Derived.Test.YtfldjcmobpcpoaaDoorJLexN2
import Derived.Test.YtfldjcmobpcpoaaDoorJLexAP
namespace Go.Proofs.YtfldjcmobpcpoaaDoor
open Go.RowKit

set_option maxHeartbeats 1000000 in
set_option maxRecDepth 1000000 in
theorem specLit_no (b off cap p : Nat) (s : ByteArray) (w : World) (_hs : s.size ≤ 1048576) (_hp : p ≤ s.size) (hc : ∀ j, j < s.size → w.cell? ⟨b, off + j, none⟩ = some (bts s j)) (hno : s.size ≤ p ∨ (s.get! p).toNat ≠ 34) :
    Calls Tryd.prog 27 #[.slice (some ⟨b, off, none⟩) s.size cap, .int .i64 p] w fun e w' => e = .returned (.tuple #[.slice none 0 0, .int .i64 0]) ∧ w' = w := by
  by_cases h : s.size ≤ p
  · have t0 : decide (s.size ≤ p) = true := decide_eq_true h
    clear hno hc
    go_enter Tryd.func27, Tryd.ntmps27
    go_wp2
    go_ret2
    exact ⟨rfl, rfl⟩
  · have t0 : decide (s.size ≤ p) = false := decide_eq_false h
    have g0 : w.cell? ⟨b, off + p, none⟩ = some (.int .u8 ((s.get! p).toNat : Int)) := hc p (by omega)
    have b0 : (s.get! p).toNat < 256 := (s.get! p).toNat_lt
    have hq : (s.get! p).toNat ≠ 34 := by rcases hno with e | e; exact absurd e h; exact e
    generalize (s.get! p).toNat = y at *
    have t1 : ((y : Int) != 34) = true := by rw [bne_iff_ne]; omega
    clear hno hc hq
    go_enter Tryd.func27, Tryd.ntmps27
    go_wp2
    go_ret2
    exact ⟨rfl, rfl⟩

set_option maxHeartbeats 1000000 in
set_option maxRecDepth 1000000 in
theorem specLit_yes (b off cap p : Nat) (s : ByteArray) (w : World) (hs : s.size ≤ 1048576) (hp : p < s.size) (hc : ∀ j, j < s.size → w.cell? ⟨b, off + j, none⟩ = some (bts s j)) (hq : (s.get! p).toNat = 34) :
    Calls Tryd.prog 27 #[.slice (some ⟨b, off, none⟩) s.size cap, .int .i64 p] w fun e w' => ∃ v', e = .returned (.tuple #[v', .int .i64 (litRes s p).2]) ∧ w'.ownsRow w.heap.size 5 1 v' (litRes s p).1.length (cv (litRes s p).1) ∧ Below w.heap.size w w' := by
  have t0 : decide (s.size ≤ p) = false := decide_eq_false (by omega)
  have g0 : w.cell? ⟨b, off + p, none⟩ = some (.int .u8 34) := by have := hc p hp; unfold bts at this; rw [hq] at this; exact this
  have HC := hide hc
  have HL : Hid (litAt s p = lit s (s.size + 1) (p + 1) []) := by
    show _ = _
    unfold litAt; rw [if_neg (by rintro (e | e); omega; exact e hq)]
  obtain ⟨L, hL⟩ : ∃ L, lit s (s.size + 1) (p + 1) [] = L := ⟨_, rfl⟩
  have HLL := hide hL
  clear hc hq hL
  go_enter Tryd.func27, Tryd.ntmps27
  go_wp2
  go_loopw [6, 7] (fun out ix wr => ∃ (i f : Nat) (acc : List Nat), ix = .int .i64 i ∧ p + 1 ≤ i ∧ i ≤ s.size ∧ s.size < i + f ∧ lit s f i acc = L ∧ acc.length ≤ 4 * i ∧ wr.ownsRow w.heap.size 5 1 out acc.length (cv acc) ∧ Below w.heap.size w wr) (fun _ ix _ => s.size - (intOf ix).toNat)
  case atStart => exact ⟨p + 1, s.size + 1, [], by go_num, by omega, by omega, by omega, HLL.out, by simp, World.ownsRow_nil _ _ _ _, Below.refl _ _⟩
  case round =>
    obtain ⟨i, f, acc, rfl, hpi, hi, hf, hk, hal, hown, hbl⟩ := hrel
    have HK := hide hk
    have HOWN := hide hown
    have HBL := hide hbl
    have HBs := hide hbl.size
    clear hk hown hbl
    by_cases hlt : i < s.size
    · have t1 : decide (i < s.size) = true := decide_eq_true hlt
      have g1 : wr.cell? ⟨b, off + i, none⟩ = some (.int .u8 ((s.get! i).toNat : Int)) := by
        rw [HBL.out.cell (p := ⟨b, off + i, none⟩) (World.block_lt_of_cell? _ _ (HC.out i hlt))]; exact HC.out i hlt
      have b1 : (s.get! i).toNat < 256 := (s.get! i).toNat_lt
      obtain ⟨y, hy⟩ : ∃ y : Nat, (s.get! i).toNat = y := ⟨_, rfl⟩
      rw [hy] at g1 b1
      have HY := hide hy
      clear hy
      by_cases h34 : y = 34
      · have t2 : ((y : Int) != 34) = false := by rw [bne_eq_false_iff_eq]; omega
        have HR : Hid (litRes s p = (acc, i + 1 - p)) := by
          show _ = _
          unfold litRes; rw [HL.out, HLL.out, ← HK.out, lit_quote hf hlt (by rw [HY.out]; exact h34)]
        have t3 : decide (s.size ≤ i) = false := decide_eq_false (by omega)
        clear h34
        go_wp2
        go_ret2
        exact ⟨_, by rw [HR.out]; exact ret_vi (by omega), by rw [HR.out]; exact HOWN.out, HBL.out⟩
      · have t2 : ((y : Int) != 34) = true := by rw [bne_iff_ne]; omega
        by_cases h10 : y = 10
        · have t3 : ((y : Int) == 10) = true := by rw [beq_iff_eq]; omega
          have HR : Hid (litRes s p = ([], 0)) := by
            show _ = _
            unfold litRes; rw [HL.out, HLL.out, ← HK.out, lit_lf hlt (by rw [HY.out]; exact h10)]
          clear h34 h10
          go_wp2
          go_ret2
          exact ⟨_, by rw [HR.out]; rfl, by rw [HR.out]; exact World.ownsRow_nil _ _ _ _, HBL.out⟩
        · have t3 : ((y : Int) == 10) = false := by rw [beq_eq_false_iff_ne]; omega
          by_cases h92 : y = 92
          · have t4 : ((y : Int) == 92) = true := by rw [beq_iff_eq]; omega
            have hle := lit_esc (acc := acc) hf hlt (by rw [HY.out]; exact h92)
            have hel := esc_le s (i + 1)
            have H23 := esc_any b off cap (i + 1) s wr hs (by omega) (fun j hj => by
              rw [HBL.out.cell (p := ⟨b, off + j, none⟩) (World.block_lt_of_cell? _ _ (HC.out j hj))]; exact HC.out j hj)
            obtain ⟨E, n, hE⟩ : ∃ E n, esc s (i + 1) = (E, n) := ⟨_, _, rfl⟩
            rw [hE] at hle hel H23
            have H23' := hide H23
            have HLE := hide hle
            obtain ⟨e9, e4, ein⟩ := hel
            have HIN := hide ein
            clear hle H23 hE h92 h10 h34 ein
            simp only at e9 e4
            by_cases hn : n = 0
            · have t5 : ((n : Int) == 0) = true := by rw [beq_iff_eq]; omega
              have HR : Hid (litRes s p = ([], 0)) := by
                show _ = _
                unfold litRes; rw [HL.out, HLL.out, ← HK.out, HLE.out.1 hn]
              clear hn
              go_wp2_with fail
              refine H23'.out.mono ?_
              rintro e w1 ⟨a, g, c, rfl, hag, hcs, hb1⟩
              have HB1 := hide (HBL.out.trans (hb1.mono HBs.out))
              clear hag hcs hb1
              go_wp2
              go_ret2
              exact ⟨_, by rw [HR.out]; rfl, by rw [HR.out]; exact World.ownsRow_nil _ _ _ _, HB1.out⟩
            · have t5 : ((n : Int) == 0) = false := by rw [beq_eq_false_iff_ne]; omega
              obtain ⟨f', hf', hgk⟩ := HLE.out.2 hn
              obtain ⟨hin, hpos⟩ := HIN.out hn
              have HGK : Hid (lit s f' (i + 1 + n) (acc ++ E) = L) := by show _ = _; rw [← HK.out, hgk]
              have hg1 : f ≤ f' + 1 := by omega
              have hn1 : 1 ≤ n := by omega
              simp only at hin hpos
              clear hn hf' hgk
              go_wp2_with fail
              refine H23'.out.mono ?_
              rintro e w1 ⟨a, g, c, rfl, hag, hcs, hb1⟩
              obtain rfl := hag hpos
              have HO1 := hide (kept_below HOWN.out (hb1.mono (Nat.le_refl _)))
              have HB1 := hide (HBL.out.trans (hb1.mono HBs.out))
              have HCS := hide hcs
              clear hag hcs hb1
              go_wp2_with (at_builtin; refine wp_app rfl (.tmp 53) (.tmp 54) rfl w.heap.size _ acc rfl HO1.out g c E rfl ?n1 ?l1 ?b1 ?_)
              case n1 => exact HCS.out
              case l1 => omega
              case b1 => exact HB1.out.size
              intro v' w' l hl ho hg
              have e1 : l.length = acc.length + E.length := by rw [hl.out]; simp
              go_wp2
              go_roundw
              case rel => exact ⟨i + 1 + n, f', l, by go_num, by omega, by omega, by omega, by rw [hl.out]; exact HGK.out, by omega, ho, app_below HB1.out HO1.out HB1.out.size hg⟩
              case measure => simp [intOf]; omega
          · have t4 : ((y : Int) == 92) = false := by rw [beq_eq_false_iff_ne]; omega
            obtain ⟨g, hg, hgk⟩ := lit_byte (acc := acc) hf hlt (by rw [HY.out]; exact h34) (by rw [HY.out]; exact h10) (by rw [HY.out]; exact h92)
            have HGK : Hid (lit s g (i + 1) (acc ++ [y]) = L) := by show _ = _; rw [← HK.out, hgk, HY.out]
            have hg1 : f ≤ g + 1 := by omega
            clear h34 h10 h92 hg hgk
            go_wp2_with (at_builtin; refine wp_app rfl (.tmp 60) (.tmp 65) rfl w.heap.size _ acc rfl (HOWN.out.alloc _) wr.heap.size 1 [y] rfl ?n1 ?l1 ?b1 ?_)
            case n1 => (intro j hj; match j, hj with | 0, _ => simp)
            case l1 => (show acc.length + 1 ≤ _; omega)
            case b1 => (have := HBs.out; simp; omega)
            intro v' w' l hl ho hg
            have e1 : l.length = acc.length + 1 := by rw [hl.out]; simp
            go_wp2
            go_roundw
            case rel => exact ⟨i + 1, g, l, by go_num, by omega, by omega, by omega, by rw [hl.out]; exact HGK.out, by omega, ho, app_below (HBL.out.alloc HBs.out _) (HOWN.out.alloc _) (by have := HBs.out; simp; omega) hg⟩
            case measure => simp [intOf]; omega
    · have t1 : decide (i < s.size) = false := decide_eq_false hlt
      have t3 : decide (s.size ≤ i) = true := decide_eq_true (by omega)
      have HR : Hid (litRes s p = ([], 0)) := by
        show _ = _
        unfold litRes; rw [HL.out, HLL.out, ← HK.out, lit_end (by omega)]
      go_wp2
      go_ret2
      exact ⟨_, by rw [HR.out]; rfl, by rw [HR.out]; exact World.ownsRow_nil _ _ _ _, HBL.out⟩

theorem specLit_any (b off cap p : Nat) (s : ByteArray) (w : World) (hs : s.size ≤ 1048576) (hp : p ≤ s.size) (hc : ∀ j, j < s.size → w.cell? ⟨b, off + j, none⟩ = some (bts s j)) :
    Calls Tryd.prog 27 #[.slice (some ⟨b, off, none⟩) s.size cap, .int .i64 p] w fun e w' => ∃ v', e = .returned (.tuple #[v', .int .i64 (litRes s p).2]) ∧ w'.ownsRow w.heap.size 5 1 v' (litRes s p).1.length (cv (litRes s p).1) ∧ Below w.heap.size w w' := by
  by_cases h : s.size ≤ p ∨ (s.get! p).toNat ≠ 34
  · have e : litRes s p = ([], 0) := by unfold litRes litAt; rw [if_pos h]
    rw [e]
    refine (specLit_no b off cap p s w hs hp hc h).mono ?_
    rintro e w' ⟨rfl, rfl⟩
    exact ⟨_, rfl, World.ownsRow_nil _ _ _ _, Below.refl _ _⟩
  · have h1 : p < s.size := by omega
    have h2 : (s.get! p).toNat = 34 := by omega
    exact specLit_yes b off cap p s w hs h1 hc h2
end Go.Proofs.YtfldjcmobpcpoaaDoor

/-
  spec.l9mutate.
-/
import Derived.Test.YthoinjddamlapaaGreatDoorJToGOD
namespace Go.Proofs.YthoinjddamlapaaGreatDoor
open Go.RowKit

def soup : List Nat := [40, 41, 123, 125, 59, 44, 34, 43, 45, 61, 38, 124, 47, 120, 49, 32, 10]
/-- What has come of the first j bytes. -/
def mtT (l : List Nat) (k p c : Nat) : Nat → List Nat
  | 0 => []
  | j + 1 => if j = p ∧ k = 0 then mtT l k p c j else if j = p ∧ k = 2 then mtT l k p c j ++ [c] else if j = p then mtT l k p c j ++ [c] ++ [l.getD j 0] else mtT l k p c j ++ [l.getD j 0]
theorem mtT_le (l : List Nat) (k p c : Nat) : ∀ j, (mtT l k p c j).length ≤ j + (if p < j then 1 else 0)
  | 0 => by simp [mtT]
  | j + 1 => by
    have h := mtT_le l k p c j
    unfold mtT
    repeat' split
    all_goals
      first
        | (simp only [List.length_append, List.length_singleton]; split at h <;> omega)
        | (split at h <;> omega)
def mtF (l : List Nat) (k v c : Nat) : List Nat := if l.length = 0 then [c] else if k = 1 then mtT l k (v % l.length) c (v % l.length) else mtT l k (v % l.length) c l.length
/-- A changed text, as drawn at i. -/
def gM (cs : ByteArray) (n i : Nat) (l : List Nat) : List Nat := mtF l (nx cs n i % 4) (nx cs n (i + 1) * 256 + 1 + nx cs n (i + 2)) (soup.getD (nx cs n (i + 3) % 17) 0)
set_option maxRecDepth 100000 in
theorem soup_at (j : Nat) (h : j < 17) (w : World) : (Instr.index 9 (.string { data := #[40, 41, 123, 125, 59, 44, 34, 43, 45, 61, 38, 124, 47, 120, 49, 32, 10] }) (.int .i64 (j : Int))).run Tryz.prog w = .ok (.int .u8 (soup.getD j 0 : Nat)) w := by
  have h6 : j = 0 ∨ j = 1 ∨ j = 2 ∨ j = 3 ∨ j = 4 ∨ j = 5 ∨ j = 6 ∨ j = 7 ∨ j = 8 ∨ j = 9 ∨ j = 10 ∨ j = 11 ∨ j = 12 ∨ j = 13 ∨ j = 14 ∨ j = 15 ∨ j = 16 := by omega
  rcases h6 with rfl | rfl | rfl | rfl | rfl | rfl | rfl | rfl | rfl | rfl | rfl | rfl | rfl | rfl | rfl | rfl | rfl <;> rfl
/-- What l9mutate leaves. -/
def MuQ (R : Nat) (a0 : Option Addr) (b off n cap : Nat) (cs : ByteArray) (l : List Nat) (i' : Nat) (w : World) (r : Ending) (w' : World) : Prop :=
  ∃ v', r = .returned v' ∧ w'.ownsRow w.heap.size 5 1 v' l.length (cv l) ∧ Gw (· = R) w w' ∧ RdAt w' R a0 b off n cap cs i'
theorem gw_low {R : Nat} {w V V' : World} (h : Gw (· = R) w V) (hb : Below V.heap.size V V') : Gw (· = R) w V' := h.bel hb
theorem own_low {w : World} {B B' : Nat} {v : Value} {n : Nat} {xs : List Value} (h : w.ownsRow B 5 1 v n xs) (hB : B' ≤ B) : w.ownsRow B' 5 1 v n xs := by
  refine ⟨h.1, ?_⟩
  rcases h.2 with q | ⟨g, c, cur, q1, q2, q3⟩
  · exact .inl q
  · exact .inr ⟨g, c, cur, q1, Nat.le_trans hB q2, q3⟩
set_option maxHeartbeats 8000000 in
set_option maxRecDepth 1000000 in
theorem mutate_any (w : World) (R : Nat) (a0 : Option Addr) (b off n cap : Nat) (cs : ByteArray) (i : Nat) (hn : n ≤ 600) (h : RdAt w R a0 b off n cap cs i) (l : List Nat) (ag : Option Addr) (g c : Nat) (hl : l.length ≤ 95000000) (hag : 0 < l.length → ag = some ⟨g, 0, none⟩) (hgR : 0 < l.length → g ≠ R) (hc : ∀ j, j < l.length → w.cell? ⟨g, j, none⟩ = some (.int .u8 (l.getD j 0 : Nat))) :
    Calls Tryz.prog 10 #[.slice ag l.length c, .pointer (some ⟨R, 0, none⟩)] w (MuQ R a0 b off n cap cs (gM cs n i l) (i + 4) w) := by
  have HN := hide (next_rd hn h)
  have HX1 : Hid (∀ V, RdAt V R a0 b off n cap cs (i + 1) → Calls Tryz.prog 8 #[.pointer (some ⟨R, 0, none⟩)] V fun r w' => r = .returned (.int .i64 (nx cs n (i + 1) : Nat)) ∧ RdAt w' R a0 b off n cap cs (i + 2) ∧ Gw (· = R) V w') := fun V hV => next_rd hn hV
  have HX2 : Hid (∀ V, RdAt V R a0 b off n cap cs (i + 2) → Calls Tryz.prog 8 #[.pointer (some ⟨R, 0, none⟩)] V fun r w' => r = .returned (.int .i64 (nx cs n (i + 2) : Nat)) ∧ RdAt w' R a0 b off n cap cs (i + 3) ∧ Gw (· = R) V w') := fun V hV => next_rd hn hV
  have HX3 : Hid (∀ V, RdAt V R a0 b off n cap cs (i + 3) → Calls Tryz.prog 8 #[.pointer (some ⟨R, 0, none⟩)] V fun r w' => r = .returned (.int .i64 (nx cs n (i + 3) : Nat)) ∧ RdAt w' R a0 b off n cap cs (i + 4) ∧ Gw (· = R) V w') := fun V hV => next_rd hn hV
  have hb1 := nx_lt cs n (i + 1)
  have hb2 := nx_lt cs n (i + 2)
  unfold gM
  obtain ⟨x0, hx0⟩ : ∃ x, nx cs n i = x := ⟨_, rfl⟩
  obtain ⟨x1, hx1⟩ : ∃ x, nx cs n (i + 1) = x := ⟨_, rfl⟩
  obtain ⟨x2, hx2⟩ : ∃ x, nx cs n (i + 2) = x := ⟨_, rfl⟩
  obtain ⟨x3, hx3⟩ : ∃ x, nx cs n (i + 3) = x := ⟨_, rfl⟩
  rw [hx0] at HN ⊢
  rw [hx1] at HX1 hb1 ⊢
  rw [hx2] at HX2 hb2 ⊢
  rw [hx3] at HX3 ⊢
  obtain ⟨k, hk⟩ : ∃ k, x0 % 4 = k := ⟨_, rfl⟩
  have tk : (x0 : Int).tmod 4 = (k : Int) := by rw [← hk]; rfl
  have hk4 : k < 4 := by omega
  obtain ⟨v1, hv1⟩ : ∃ v, x1 * 256 + 1 = v := ⟨_, rfl⟩
  obtain ⟨v, hv⟩ : ∃ v', v1 + x2 = v' := ⟨_, rfl⟩
  obtain ⟨x1m, hx1m⟩ : ∃ v, x1 * 256 = v := ⟨_, rfl⟩
  have tv0 : IntKind.i64.wrap ((x1 : Int) * 256) = (x1m : Int) := by rw [IntKind.wrap_i64]; omega
  have tv1 : IntKind.i64.wrap ((x1m : Int) + 1) = (v1 : Int) := by rw [IntKind.wrap_i64]; omega
  have tv2 : IntKind.i64.wrap ((v1 : Int) + (x2 : Int)) = (v : Int) := by rw [IntKind.wrap_i64]; omega
  obtain ⟨s, hs⟩ : ∃ s, x3 % 17 = s := ⟨_, rfl⟩
  have ts : (x3 : Int).tmod 17 = (s : Int) := by rw [← hs]; rfl
  have hsx := fun W => soup_at s (by omega) W
  rw [hk, hv1, hv, hs]
  obtain ⟨ch, hch⟩ : ∃ c, soup.getD s 0 = c := ⟨_, rfl⟩
  simp only [hch] at hsx
  rw [hch]
  have HHC := hide hc
  have HAG := hide hag
  have HGR := hide hgR
  have hl0i : (l.length : Int) = (l.length : Int) := rfl
  clear h hx0 hx1 hx2 hx3 hk hv1 hv hs hch hx1m hc hag hgR hl0i
  go_enter Tryz.func10, Tryz.ntmps10
  go_wp2_with fail
  refine HN.out.mono ?_
  rintro r w1 ⟨rfl, hr1, hg1⟩
  have HW1 := hide hg1
  have HN1 := hide (HX1.out w1 hr1)
  clear hr1 hg1 HN HX1
  go_wp2_with fail
  refine HN1.out.mono ?_
  rintro r w2 ⟨rfl, hr2, hg2⟩
  have HW2 := hide (HW1.out.then hg2)
  have HN2 := hide (HX2.out w2 hr2)
  clear hr2 hg2 HN1 HX2 HW1
  go_wp2_with fail
  refine HN2.out.mono ?_
  rintro r w3 ⟨rfl, hr3, hg3⟩
  have HW3 := hide (HW2.out.then hg3)
  have HN3 := hide (HX3.out w3 hr3)
  clear hr3 hg3 HN2 HX3 HW2
  go_wp2_with fail
  refine HN3.out.mono ?_
  rintro r W4 ⟨rfl, hr4, hg4⟩
  have HW4 := hide (HW3.out.then hg4)
  have HR4 := hide hr4
  clear hr4 hg4 HN3 HW3
  obtain ⟨B, hB⟩ : ∃ B, W4.heap.size = B := ⟨_, rfl⟩
  have HBe := hide hB
  have HBB : Hid (B ≤ W4.heap.size) := by show _ ≤ _; omega
  have HFIN : Hid (∀ v' V L, V.ownsRow B 5 1 v' L.length (cv L) → Below B W4 V → mtF l k v ch = L → MuQ R a0 b off n cap cs (mtF l k v ch) (i + 4) w (.returned v') V) := fun v' V L h1 h2 h3 => by
    rw [h3]
    have h2' : Below W4.heap.size W4 V := by rw [HBe.out]; exact h2
    exact ⟨v', rfl, own_low h1 (by rw [← HBe.out]; exact HW4.out.size), HW4.out.bel h2', HR4.out.bel h2'⟩
  clear hB
  by_cases h0 : l.length = 0
  · have t0 : ((l.length : Int) == 0) = true := by rw [h0]; rfl
    have HE : Hid (mtF l k v ch = [ch]) := by show _ = _; unfold mtF; rw [if_pos h0]
    have HBL : Hid (Below B W4 W4) := Below.refl _ _
    have HBV : Hid (B ≤ W4.heap.size) := HBB.out
    go_wp2_with (at_builtin; refine wp_app rfl _ _ rfl B _ [] rfl (World.ownsRow_nil _ _ _ _) W4.heap.size 1 [ch] rfl (by intro j' hj'; match j', hj' with | 0, _ => simp) (by show 0 + 1 ≤ 100000000; omega) (by have := HBV.out; simp; omega) ?_; intro v2 w2 l2 hl2 ho2 hg2; have HO2 := hide ho2; have HL2 := hide hl2.out; have HB2 : Hid (Below B W4 w2) := (HBL.out.alloc HBV.out _).grown hg2 (by have := HBV.out; simp; omega) (fun k hk => by cases hk); clear ho2 hg2 hl2)
    go_ret
    exact HFIN.out _ _ l2 HO2.out HB2.out (by rw [HE.out, HL2.out]; rfl)
  · have t0 : ((l.length : Int) == 0) = false := by rw [beq_eq_false_iff_ne]; omega
    obtain rfl := HAG.out (by omega)
    obtain ⟨p, hp⟩ : ∃ p, v % l.length = p := ⟨_, rfl⟩
    have hpl : p < l.length := by rw [← hp]; exact Nat.mod_lt _ (by omega)
    have tp : (v : Int).tmod (l.length : Int) = (p : Int) := by rw [← hp]; rfl
    have HE : Hid (mtF l k v ch = if k = 1 then mtT l k p ch p else mtT l k p ch l.length) := by show _ = _; unfold mtF; rw [if_neg h0, hp]
    have HC4 : Hid (∀ V, Below B W4 V → ∀ j, j < l.length → V.cell? ⟨g, j, none⟩ = some (.int .u8 (l.getD j 0 : Nat))) := fun V hV j hj => by
      have hV' : Below W4.heap.size W4 V := by rw [HBe.out]; exact hV
      exact cell_kept (HW4.out.cell (HHC.out j hj) (HGR.out (by omega))) hV'
    clear hp
    go_wp2
    go_loopw [9, 11] (fun ov ix wr => ∃ j : Nat, j ≤ l.length ∧ ix = .int .i64 j ∧ (k = 1 → j ≤ p) ∧ wr.ownsRow B 5 1 ov (mtT l k p ch j).length (cv (mtT l k p ch j)) ∧ Below B W4 wr) (fun _ ix _ => l.length - (intOf ix).toNat)
    case atStart => exact ⟨0, Nat.zero_le _, rfl, fun _ => Nat.zero_le _, World.ownsRow_nil _ _ _ _, Below.refl _ _⟩
    case round =>
      obtain ⟨j, hj, rfl, hk1, hown, hbl⟩ := hrel
      rename World => V
      have HOW := hide hown
      have HBL := hide hbl
      have HBV : Hid (B ≤ V.heap.size) := Nat.le_trans HBB.out hbl.size
      have hle := mtT_le l k p ch j
      have hle2 : (mtT l k p ch j).length ≤ 95000001 := by split at hle <;> omega
      have HMT : Hid (mtT l k p ch (j + 1) = if j = p ∧ k = 0 then mtT l k p ch j else if j = p ∧ k = 2 then mtT l k p ch j ++ [ch] else if j = p then mtT l k p ch j ++ [ch] ++ [l.getD j 0] else mtT l k p ch j ++ [l.getD j 0]) := rfl
      by_cases hlt : j < l.length
      · have hlti : (j : Int) < (l.length : Int) := by omega
        have gj := HC4.out V hbl j hlt
        have gja := cell_kept gj ((Below.refl _ _).alloc (Nat.le_refl _) (.cells #[.int .u8 (ch : Int)] 5))
        obtain ⟨y, hy⟩ : ∃ y, l.getD j 0 = y := ⟨_, rfl⟩
        rw [hy] at gj gja HMT
        have HLK := hide hk1
        have HYY := hide hy
        have hkk : k = 0 ∨ k = 1 ∨ k = 2 ∨ k = 3 := by omega
        clear gja
        by_cases hjp : j = p
        · have tjp : ((j : Int) == (p : Int)) = true := by rw [beq_iff_eq]; omega
          rcases hkk with hk0 | hk0 | hk0 | hk0
          · have ta : ((k : Int) == 0) = true := by rw [hk0]; rfl
            have HM2 : Hid (mtT l k p ch (j + 1) = mtT l k p ch j) := by show _ = _; rw [HMT.out, if_pos ⟨hjp, hk0⟩]
            have HK0 := hide hk0
            clear hown hbl hk1 hy hjp hk0 hle
            go_wp2
            go_roundw
            case rel => exact ⟨j + 1, by omega, by go_num, fun q => by have h1 := HK0.out; omega, by rw [HM2.out]; exact HOW.out, HBL.out⟩
            case measure => simp [intOf]; omega
          · have ta : ((k : Int) == 0) = false := by rw [hk0]; rfl
            have tb : ((k : Int) == 1) = true := by rw [hk0]; rfl
            have HF := hide (HFIN.out _ V _ HOW.out HBL.out (by rw [HE.out, if_pos hk0, hjp]))
            clear hown hbl hk1 hy hjp hk0 hle
            go_wp2
            go_ret
            exact HF.out
          · have ta : ((k : Int) == 0) = false := by rw [hk0]; rfl
            have tb : ((k : Int) == 1) = false := by rw [hk0]; rfl
            have tc : ((k : Int) == 2) = true := by rw [hk0]; rfl
            have HM2 : Hid (mtT l k p ch (j + 1) = mtT l k p ch j ++ [ch]) := by show _ = _; rw [HMT.out, if_neg (fun q => by omega), if_pos ⟨hjp, hk0⟩]
            have HNE : Hid (k ≠ 1) := by show k ≠ 1; omega
            clear hown hbl hk1 hy hjp hk0 hle
            go_wp2_with (at_builtin; refine wp_app rfl _ _ rfl B _ (mtT l k p ch j) rfl ((HOW.out).alloc _) (V).heap.size 1 [ch] rfl (by intro j' hj'; match j', hj' with | 0, _ => simp) (by show (mtT l k p ch j).length + 1 ≤ 100000000; omega) (by have := HBV.out; simp; omega) ?_; intro v2 w2 l2 hl2 ho2 hg2; have HO2 := hide ho2; have HL2 := hide hl2.out; have HB2 : Hid (Below B W4 w2) := ((HBL.out).alloc HBV.out _).grown hg2 (by have := HBV.out; simp; omega) (fun k hk => by have := ((HOW.out).lt k hk).1; omega); have HBV2 : Hid (B ≤ w2.heap.size) := Nat.le_trans HBB.out HB2.out.size;  clear ho2 hg2 hl2)
            go_roundw
            case rel => exact ⟨j + 1, by omega, by go_num, fun q => absurd q HNE.out, by rw [HM2.out, ← HL2.out]; exact HO2.out, HB2.out⟩
            case measure => simp [intOf]; omega
          · have ta : ((k : Int) == 0) = false := by rw [hk0]; rfl
            have tb : ((k : Int) == 1) = false := by rw [hk0]; rfl
            have tc : ((k : Int) == 2) = false := by rw [hk0]; rfl
            have HM2 : Hid (mtT l k p ch (j + 1) = mtT l k p ch j ++ [ch] ++ [y]) := by show _ = _; rw [HMT.out, if_neg (fun q => by omega), if_neg (fun q => by omega), if_pos hjp]
            have HNE : Hid (k ≠ 1) := by show k ≠ 1; omega
            clear hown hbl hk1 hy hjp hk0 hle gj
            go_wp2_with (first | (at_builtin; refine wp_app rfl _ _ rfl B _ (l3) rfl ((HO3.out).alloc _) (w3).heap.size 1 [y] rfl (by intro j' hj'; match j', hj' with | 0, _ => simp) (by show (l3).length + 1 ≤ 100000000; omega) (by have := HBV3.out; simp; omega) ?_; intro v2 w2 l2 hl2 ho2 hg2; have HO2 := hide ho2; have HL2 := hide hl2.out; have HB2 : Hid (Below B W4 w2) := ((HB3.out).alloc HBV3.out _).grown hg2 (by have := HBV3.out; simp; omega) (fun k hk => by have := ((HO3.out).lt k hk).1; omega); have HBV2 : Hid (B ≤ w2.heap.size) := Nat.le_trans HBB.out HB2.out.size;  clear ho2 hg2 hl2) | (at_builtin; refine wp_app rfl _ _ rfl B _ (mtT l k p ch j) rfl ((HOW.out).alloc _) (V).heap.size 1 [ch] rfl (by intro j' hj'; match j', hj' with | 0, _ => simp) (by show (mtT l k p ch j).length + 1 ≤ 100000000; omega) (by have := HBV.out; simp; omega) ?_; intro v3 w3 l3 hl3 ho3 hg3; have HO3 := hide ho3; have HL3 := hide hl3.out; have HB3 : Hid (Below B W4 w3) := ((HBL.out).alloc HBV.out _).grown hg3 (by have := HBV.out; simp; omega) (fun k hk => by have := ((HOW.out).lt k hk).1; omega); have HBV3 : Hid (B ≤ w3.heap.size) := Nat.le_trans HBB.out HB3.out.size; have gj3 := HC4.out w3 HB3.out j hlt; rw [HYY.out] at gj3; have hl3n : l3.length ≤ 95000002 := (by rw [hl3.out, List.length_append]; simp only [List.length_singleton]; omega); clear ho3 hg3 hl3))
            go_roundw
            case rel => exact ⟨j + 1, by omega, by go_num, fun q => absurd q HNE.out, by rw [HM2.out, ← HL3.out, ← HL2.out]; exact HO2.out, HB2.out⟩
            case measure => simp [intOf]; omega
        · have tjp : ((j : Int) == (p : Int)) = false := by rw [beq_eq_false_iff_ne]; omega
          have HM2 : Hid (mtT l k p ch (j + 1) = mtT l k p ch j ++ [y]) := by show _ = _; rw [HMT.out, if_neg (fun q => hjp q.1), if_neg (fun q => hjp q.1), if_neg hjp]
          have HNP : Hid (k = 1 → j + 1 ≤ p) := fun q => by have := hk1 q; omega
          clear hown hbl hk1 hy hjp hle hkk
          go_wp2_with (at_builtin; refine wp_app rfl _ _ rfl B _ (mtT l k p ch j) rfl ((HOW.out).alloc _) (V).heap.size 1 [y] rfl (by intro j' hj'; match j', hj' with | 0, _ => simp) (by show (mtT l k p ch j).length + 1 ≤ 100000000; omega) (by have := HBV.out; simp; omega) ?_; intro v2 w2 l2 hl2 ho2 hg2; have HO2 := hide ho2; have HL2 := hide hl2.out; have HB2 : Hid (Below B W4 w2) := ((HBL.out).alloc HBV.out _).grown hg2 (by have := HBV.out; simp; omega) (fun k hk => by have := ((HOW.out).lt k hk).1; omega); have HBV2 : Hid (B ≤ w2.heap.size) := Nat.le_trans HBB.out HB2.out.size;  clear ho2 hg2 hl2)
          go_roundw
          case rel => exact ⟨j + 1, by omega, by go_num, HNP.out, by rw [HM2.out, ← HL2.out]; exact HO2.out, HB2.out⟩
          case measure => simp [intOf]; omega
      · obtain rfl : j = l.length := by omega
        have hge : ¬ (l.length : Int) < (l.length : Int) := by omega
        have hk1' : k ≠ 1 := fun q => by have := hk1 q; omega
        have HF := hide (HFIN.out _ V _ HOW.out HBL.out (by rw [HE.out, if_neg hk1']))
        clear hown hbl hk1 hk1' hlt hle
        go_wp2
        go_ret
        exact HF.out
end Go.Proofs.YthoinjddamlapaaGreatDoor

/-
  The walk of spec.PackHops.
-/
import Derived.Test.YtpnocklldlacjaaDoorJDecodeImagePH
import Derived.BigQuiet
import Derived.Deep.QuietTactic
namespace Go.Proofs.YtpnocklldlacjaaDoor
open Go.RowKit

set_option maxHeartbeats 4000000 in
set_option maxRecDepth 1000000 in
theorem specPack_own (L : List Int) (u : Value) (w : World) (hl : L.length ≤ 8400000) (h : IS w u L) :
    Calls Tryd.prog 62 #[u] w fun e w' => ∃ v, e = .returned (.tuple #[v, .int .i64 (pkC L)]) ∧ BNw w w' v (pkF L) ∧ Below w.heap.size w w' := by
  obtain ⟨a, b, o, c, rfl, ha, hc⟩ := h
  have HC : Hid (∀ V, Below w.heap.size w V → ∀ j, j < L.length → V.cell? ⟨b, o + j, none⟩ = some (.int .i64 (L.getD j 0))) := fun V hV j hj => cell_kept (hc j hj) hV
  obtain ⟨n, hn⟩ : ∃ n, pkN L = n := ⟨_, rfl⟩
  have hnl : n ≤ 3200000 := by rw [← hn]; unfold pkN; omega
  have hmk := run_make_row' (P := Tryd.prog) 37 5 (.int .u8 0) 1 Tryd.underlying37 Tryd.info5 rfl .i64 .i64 n (by omega) (by omega) w
  have HR0 := hide (World.rowIs_made w (.int .u8 0) n 5)
  obtain ⟨W1, hW1⟩ : ∃ W, w.alloc (.cells (madeCells #[.int .u8 0] n) 5) = W := ⟨_, rfl⟩
  have hb1 : Below w.heap.size w W1 := by rw [← hW1]; exact (Below.refl _ _).alloc (Nat.le_refl _) _
  obtain ⟨B, hB⟩ : ∃ B, w.heap.size = B := ⟨_, rfl⟩
  rw [hW1, hB] at hmk HR0
  have HB1 := hide hb1
  have HBB := hide hB
  have HN := hide hn
  have hdv : (3 * (L.length : Int) + 7).tdiv 8 = (n : Int) := by
    rw [Int.tdiv_eq_ediv_of_nonneg (by omega), ← hn]
    unfold pkN
    omega
  clear hc hW1 hb1 hB hn
  go_enter Tryd.func62, Tryd.ntmps62
  go_wp2
  clear hmk hdv
  go_loopw [5] (fun ix wr => ∃ i : Nat, i ≤ L.length ∧ ix = .int .i64 i ∧ (∀ q, q < i → -1 ≤ L.getD q 0 ∧ L.getD q 0 ≤ 3) ∧ wr.rowIs B 5 n (fun j => .int .u8 (pb L (3 * i) j : Nat)) ∧ Below w.heap.size w wr) (fun ix _ => L.length - (intOf ix).toNat)
  case atStart => exact ⟨0, Nat.zero_le _, rfl, fun _ h => absurd h (Nat.not_lt_zero _), HR0.out, HB1.out⟩
  case round =>
    clear HR0 HB1
    obtain ⟨i, hi, rfl, hgd, hrow, hbl⟩ := hrel
    have HGD := hide hgd
    have HROW := hide hrow
    have HB := hide hbl
    clear hgd hrow
    by_cases hlt : i < L.length
    · have hlti : (i : Int) < (L.length : Int) := by omega
      obtain rfl := ha (by omega)
      have f := HC.out _ hbl i hlt
      obtain ⟨v0, hv0⟩ : ∃ v, L.getD i 0 = v := ⟨_, rfl⟩
      rw [hv0] at f
      have HV := hide hv0
      clear hv0 hbl
      by_cases r0 : v0 < -1
      · have s0 : decide (v0 < -1) = true := decide_eq_true r0
        have HR : Hid (¬ hGood L = true) := fun h => by have := (hGood_iff L).1 h i hlt; rw [HV.out] at this; omega
        clear r0
        go_wp2
        go_ret2
        rw [pkF_no HR.out, pkC_no HR.out]
        exact ⟨_, rfl, ⟨[], bf_nil _ 0, Fr.nil _ _⟩, HB.out⟩
      have s0 : decide (v0 < -1) = false := decide_eq_false r0
      by_cases r1 : 3 < v0
      · have s1 : decide (3 < v0) = true := decide_eq_true r1
        have HR : Hid (¬ hGood L = true) := fun h => by have := (hGood_iff L).1 h i hlt; rw [HV.out] at this; omega
        clear r0 r1
        go_wp2
        go_ret2
        rw [pkF_no HR.out, pkC_no HR.out]
        exact ⟨_, rfl, ⟨[], bf_nil _ 0, Fr.nil _ _⟩, HB.out⟩
      have s1 : decide (3 < v0) = false := decide_eq_false r1
      have HG1 : Hid (∀ q, q < i + 1 → -1 ≤ L.getD q 0 ∧ L.getD q 0 ≤ 3) := fun q hq => by
        by_cases e : q = i
        · rw [e, HV.out]; omega
        · exact HGD.out q (by omega)
      obtain ⟨x, hx⟩ : ∃ x, hpv v0 = x := ⟨_, rfl⟩
      have HX : Hid (∀ k, k < 3 → hbit L (3 * i + k) = (x / 2 ^ k % 2 == 1)) := fun k hk => by
        unfold hbit
        rw [show (3 * i + k) / 3 = i by omega, show (3 * i + k) % 3 = k by omega, HV.out, hx]
      have hx4 : x ≤ 4 := by rw [← hx]; unfold hpv; split <;> omega
      by_cases r2 : v0 < 0
      case' pos =>
        have s2 : decide (v0 < 0) = true := decide_eq_true r2
        have HX4 : Hid ((4 : Int) = (x : Nat)) := by show _ = _; rw [← hx]; unfold hpv; rw [if_pos r2]; rfl
      case' neg =>
        have s2 : decide (v0 < 0) = false := decide_eq_false r2
        obtain rfl : v0 = x := by rw [← hx]; unfold hpv; rw [if_neg r2]; omega
        have HX4 : Hid (((x : Nat) : Int) = (x : Nat)) := rfl
      all_goals
        clear r0 r1 r2 hx
        go_wp2
        clear s0 s1 s2 f
        rename World => wo
        go_loopw [6, 7] (fun vx kx wr => ∃ k : Nat, k ≤ 3 ∧ kx = .int .i64 k ∧ vx = .int .i64 ((x / 2 ^ k : Nat) : Int) ∧ wr.rowIs B 5 n (fun j => .int .u8 (pb L (3 * i + k) j : Nat)) ∧ Below w.heap.size w wr) (fun _ kx _ => 3 - (intOf kx).toNat)
        case atStart => exact ⟨0, by omega, rfl, by first | (rw [Nat.pow_zero, Nat.div_one]; done) | (rw [Nat.pow_zero, Nat.div_one]; exact congrArg _ HX4.out), HROW.out, HB.out⟩
        case round =>
          clear HROW HB
          obtain ⟨k, hk, rfl, rfl, hrow, hbl⟩ := hrel
          have HB := hide hbl
          by_cases hk3 : k < 3
          · have hki : (k : Int) < 3 := by omega
            have HX3 := hide (HX.out k hk3)
            obtain ⟨y, hy⟩ : ∃ y, x / 2 ^ k = y := ⟨_, rfl⟩
            have HY := hide hy
            have hyb : y ≤ 4 := by rw [← hy]; exact Nat.le_trans (Nat.div_le_self _ _) hx4
            rw [hy] at HX3 ⊢
            obtain ⟨y2, hy2⟩ : ∃ y2, x / 2 ^ (k + 1) = y2 := ⟨_, rfl⟩
            have hdv : ((y : Nat) : Int).tdiv 2 = (y2 : Nat) := by
              rw [Int.tdiv_eq_ediv_of_nonneg (by omega), ← hy2, Nat.pow_succ, ← Nat.div_div_eq_div_mul, hy]
              omega
            have hy2b : y2 ≤ 4 := by rw [← hy2]; exact Nat.le_trans (Nat.div_le_self _ _) hx4
            have HY2 := hide hy2
            obtain ⟨d, hd⟩ : ∃ d, y % 2 = d := ⟨_, rfl⟩
            have hmd : ((y : Nat) : Int).tmod 2 = (d : Nat) := by rw [Int.tmod_eq_emod_of_nonneg (by omega), ← hd]; omega
            rw [hd] at HX3
            obtain ⟨m, hm⟩ : ∃ m, 3 * i + k = m := ⟨_, rfl⟩
            have hmi : 3 * (i : Int) + (k : Int) = ((m : Nat) : Int) := by omega
            have hdm : (3 * (i : Int) + (k : Int)).tdiv 8 = ((m / 8 : Nat) : Int) := by rw [hmi, Int.tdiv_eq_ediv_of_nonneg (by omega)]; omega
            have hmm : (3 * (i : Int) + (k : Int)).tmod 8 = ((m % 8 : Nat) : Int) := by rw [hmi, Int.tmod_eq_emod_of_nonneg (by omega)]; omega
            have HM := hide hm
            rw [hm] at hrow HX3
            clear hy hbl hmi hm hy2 hd
            by_cases r3 : d = 1
            · have s3 : ((d : Int) == 1) = true := by rw [beq_iff_eq]; omega
              have hqn : m / 8 < n := by rw [← HN.out, ← HM.out]; unfold pkN; omega
              have q1 := hrow.cell hqn
              have q2 := hrow.frozen (m / 8)
              have hroom := pb_room L m
              have HNX : Hid (∀ j, pb L (m + 1) j = pb L m j + (if m / 8 = j then 2 ^ (m % 8) else 0)) := fun j => by
                have hb : hbit L m = true := by rw [HX3.out, r3]; rfl
                show pb L m j + _ = _
                simp only [hb, and_true]
              have HROW := hide hrow
              obtain ⟨t, ht⟩ : ∃ t, m % 8 = t := ⟨_, rfl⟩
              obtain ⟨p, hp⟩ : ∃ p, m / 8 = p := ⟨_, rfl⟩
              obtain ⟨z, hz⟩ : ∃ z, pb L m p = z := ⟨_, rfl⟩
              have ht8 : t < 8 := by omega
              rw [ht] at hmm hroom HNX
              rw [hp] at hdm q1 q2 hqn hroom HNX
              rw [hz] at q1 hroom
              have HZ := hide hz
              have hpi : (p : Int) < (n : Int) := by omega
              clear hrow ht hp hz r3
              have HRM : Hid (((z : Int) + 2 ^ t) % 256 = ((z + 2 ^ t : Nat) : Int) ∧ (z : Int) + 2 ^ t % 256 = ((z + 2 ^ t : Nat) : Int)) := by
                have h1 : 2 ^ t ≤ 2 ^ 7 := Nat.pow_le_pow_right (by decide) (by omega)
                have h2 : ((2 ^ t : Nat) : Int) = 2 ^ t := by push_cast; rfl
                show _ ∧ _
                rw [← h2]
                omega
              go_wp2
              go_roundw
              case rel =>
                refine ⟨k + 1, by omega, by go_num, by rw [HY2.out], ?_, HB.out.setCell (by rw [HBB.out]; exact Nat.le_refl _) _⟩
                first | rw [HRM.out.1] | rw [HRM.out.2]
                refine (HROW.out.set p _).congr fun j _ => ?_
                rw [show 3 * i + (k + 1) = m + 1 by have := HM.out; omega, HNX.out]
                by_cases e : j = p
                · rw [if_pos e, e, if_pos rfl, HZ.out]
                · rw [if_neg e, if_neg (fun h => e h.symm), Nat.add_zero]
              case measure => simp [intOf]; omega
            · have s3 : ((d : Int) == 1) = false := by rw [beq_eq_false_iff_ne]; omega
              have HNX : Hid (∀ j, pb L (m + 1) j = pb L m j) := fun j => by
                have hb : hbit L m = false := by rw [HX3.out, beq_eq_false_iff_ne]; exact r3
                show pb L m j + _ = _
                rw [if_neg (fun h => by rw [hb] at h; cases h.2), Nat.add_zero]
              have HROW := hide hrow
              clear hrow r3
              go_wp2
              go_roundw
              case rel =>
                refine ⟨k + 1, by omega, by go_num, by rw [HY2.out], ?_, HB.out⟩
                refine HROW.out.congr fun j _ => ?_
                rw [show 3 * i + (k + 1) = m + 1 by have := HM.out; omega, HNX.out]
              case measure => simp [intOf]; omega
          · have hki : ¬ (k : Int) < 3 := by omega
            obtain rfl : k = 3 := by omega
            have HROW := hide hrow
            clear hrow hbl
            go_wp2
            go_roundw
            case rel => exact ⟨i + 1, by omega, by go_num, HG1.out, HROW.out, HB.out⟩
            case measure => simp [intOf]; omega
    · have hge : ¬ (i : Int) < (L.length : Int) := by omega
      obtain rfl : i = L.length := by omega
      have HGG : Hid (hGood L = true) := (hGood_iff L).2 HGD.out
      have hlt : B < wr.heap.size := by
        obtain ⟨_, h2, _⟩ := HROW.out
        exact (Array.getElem?_eq_some_iff.1 h2).1
      obtain ⟨bl, hbf, hfr⟩ := row_bf (c := n) (w0 := w) (by rw [pkL_len]; exact HN.out) (pkL_lo L (3 * L.length)) (HROW.out.congr fun j hj => by rw [pkL_at _ _ (by rw [HN.out]; exact hj)]) (by rw [HBB.out]; exact Nat.le_refl _) hlt
      have HBF := hide hbf
      have HFR := hide hfr
      clear hbl hbf hfr hlt
      go_wp2
      go_ret2
      rw [pkF_yes HGG.out, pkC_yes HGG.out]
      exact ⟨_, rfl, ⟨_, HBF.out, HFR.out⟩, HB.out⟩
theorem specPack_any (L : List Int) (u : Value) (w : World) (hl : L.length ≤ 8400000) (h : IS w u L) :
    Calls Tryd.prog 62 #[u] w fun e w' => ∃ v, e = .returned (.tuple #[v, .int .i64 (pkC L)]) ∧ BS w' v (pkF L) ∧ Below w.heap.size w w' :=
  (specPack_own L u w hl h).mono fun _ _ ⟨v, h1, ⟨_, h2, _⟩, h4⟩ => ⟨v, h1, h2.rd, h4⟩
end Go.Proofs.YtpnocklldlacjaaDoor

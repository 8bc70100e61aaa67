/-
  The walk of impl.PackHops.
  The walk of bytes.Equal.
-/
import Derived.Test.YtpnocklldlacjaaDoorJDecodeImageIRT
import Derived.Test.YtpnocklldlacjaaDoorJDecodeImageSDJ
import Derived.BigRegion
import Derived.Test.YtpnocklldlacjaaDoorJDecodeImageK
import Derived.BigQuiet
import Derived.Deep.QuietTactic
namespace Go.Proofs.YtpnocklldlacjaaDoor
open Go.RowKit

set_option maxHeartbeats 4000000 in
set_option maxRecDepth 1000000 in
theorem implPack_own (L : List Int) (u : Value) (w : World) (hl : L.length ≤ 8400000) (h : IS w u L) :
    Calls Tryd.prog 38 #[u] w fun e w' => ∃ v, e = .returned (.tuple #[v, .int .i64 (pkC L)]) ∧ BNw w w' v (pkF L) ∧ Below w.heap.size w w' := by
  have HAW := hide (allWithin_any u L (-1) 3 w (by omega) h)
  obtain ⟨a, b, o, c, rfl, ha, hc⟩ := h
  have HC : Hid (∀ V, Below w.heap.size w V → ∀ j, j < L.length → V.cell? ⟨b, o + j, none⟩ = some (.int .i64 (L.getD j 0))) := fun V hV j hj => cell_kept (hc j hj) hV
  clear hc
  go_enter Tryd.func38, Tryd.ntmps38
  go_wp2_with fail
  refine HAW.out.mono ?_
  rintro e w1 ⟨⟨g, rfl, hg⟩, hb1⟩
  have HB1 := hide hb1
  cases g with
  | false =>
    have HR : Hid (¬ hGood L = true) := fun h => by have := hg.2 ((hGood_iff L).1 h); cases this
    clear hg hb1
    go_wp2
    go_ret2
    rw [pkF_no HR.out, pkC_no HR.out]
    exact ⟨_, rfl, ⟨[], bf_nil _ 0, Fr.nil _ _⟩, HB1.out⟩
  | true =>
    have hgd := hg.1 rfl
    have HGG : Hid (hGood L = true) := (hGood_iff L).2 hgd
    have HGD := hide hgd
    clear hg hgd
    obtain ⟨n, hn⟩ : ∃ n, pkN L = n := ⟨_, rfl⟩
    have hnl : n ≤ 3200000 := by rw [← hn]; unfold pkN; omega
    have HPZ := hide (packedSize_any L.length w1 (by omega))
    have hn' : (3 * L.length + 7) / 8 = n := hn
    rw [hn'] at HPZ
    have hmk := run_make_row' (P := Tryd.prog) 37 5 (.int .u8 0) 1 Tryd.underlying37 Tryd.info5 rfl .i64 .i64 n (by omega) (by omega) w1
    have HR0 := hide (World.rowIs_made w1 (.int .u8 0) n 5)
    obtain ⟨W1, hW1⟩ : ∃ W, w1.alloc (.cells (madeCells #[.int .u8 0] n) 5) = W := ⟨_, rfl⟩
    have hb2 : Below w.heap.size w W1 := by rw [← hW1]; exact hb1.trans (((Below.refl _ _).alloc (Nat.le_refl _) _).mono hb1.size)
    obtain ⟨B, hB⟩ : ∃ B, w1.heap.size = B := ⟨_, rfl⟩
    have HBB : Hid (w.heap.size ≤ B) := by show _ ≤ _; rw [← hB]; exact hb1.size
    rw [hW1, hB] at hmk HR0
    have HB2 := hide hb2
    have HN := hide hn
    clear hW1 hb1 hb2 hB hn hn' HB1
    go_wp2_with fail
    refine HPZ.out.mono ?_
    rintro e w1' ⟨rfl, rfl⟩
    go_wp2
    clear hmk HPZ HAW
    go_loopw [18] (fun ix wr => ∃ i : Nat, i ≤ L.length ∧ ix = .int .i64 i ∧ wr.rowIs B 5 n (fun j => .int .u8 (pb L (3 * i) j : Nat)) ∧ Below w.heap.size w wr) (fun ix _ => L.length - (intOf ix).toNat)
    case atStart => exact ⟨0, Nat.zero_le _, rfl, HR0.out, HB2.out⟩
    case round =>
      clear HR0 HB2
      obtain ⟨i, hi, rfl, hrow, hbl⟩ := hrel
      have HROW := hide hrow
      have HB := hide hbl
      clear hrow
      by_cases hlt : i < L.length
      · have hlti : (i : Int) < (L.length : Int) := by omega
        obtain rfl := ha (by omega)
        have f := HC.out _ hbl i hlt
        have hgi := HGD.out i hlt
        obtain ⟨v0, hv0⟩ : ∃ v, L.getD i 0 = v := ⟨_, rfl⟩
        rw [hv0] at f hgi
        have HV := hide hv0
        clear hv0 hbl
        obtain ⟨x, hx⟩ : ∃ x, hpv v0 = x := ⟨_, rfl⟩
        have HX : Hid (∀ k, k < 3 → hbit L (3 * i + k) = (x / 2 ^ k % 2 == 1)) := fun k hk => by
          unfold hbit
          rw [show (3 * i + k) / 3 = i by omega, show (3 * i + k) % 3 = k by omega, HV.out, hx]
        have hx4 : x ≤ 4 := by rw [← hx]; unfold hpv; split <;> omega
        by_cases r2 : v0 < 0
        case' pos =>
          have s2 : decide (v0 < 0) = true := decide_eq_true r2
          have HX4 : Hid ((4 : Int) = (x : Nat)) := by show _ = _; rw [← hx]; unfold hpv; rw [if_pos r2]; rfl
        case' neg =>
          have s2 : decide (v0 < 0) = false := decide_eq_false r2
          obtain rfl : v0 = x := by rw [← hx]; unfold hpv; rw [if_neg r2]; omega
          have HX4 : Hid (((x : Nat) : Int) = (x : Nat)) := rfl
        all_goals
          clear r2 hx
          go_wp2
          clear s2 f
          try rw [HX4.out]
          rename World => wo
          go_loopw [25] (fun kx wr => ∃ k : Nat, k ≤ 3 ∧ kx = .int .i64 k ∧ wr.rowIs B 5 n (fun j => .int .u8 (pb L (3 * i + k) j : Nat)) ∧ Below w.heap.size w wr) (fun kx _ => 3 - (intOf kx).toNat)
          case atStart => exact ⟨0, by omega, rfl, HROW.out, HB.out⟩
          case round =>
            clear HROW HB
            obtain ⟨k, hk, rfl, hrow, hbl⟩ := hrel
            have HB := hide hbl
            by_cases hk3 : k < 3
            · have hki : (k : Int) < 3 := by omega
              have HX3 := hide (HX.out k hk3)
              obtain ⟨y, hy⟩ : ∃ y, x / 2 ^ k = y := ⟨_, rfl⟩
              have HY := hide hy
              have hyb : y ≤ 4 := by rw [← hy]; exact Nat.le_trans (Nat.div_le_self _ _) hx4
              rw [hy] at HX3
              obtain ⟨m, hm⟩ : ∃ m, 3 * i + k = m := ⟨_, rfl⟩
              have HM := hide hm
              rw [hm] at hrow HX3
              have hqn : m / 8 < n := by rw [← HN.out, ← HM.out]; unfold pkN; omega
              have q1 := hrow.cell hqn
              have q2 := hrow.frozen (m / 8)
              have hroom := pb_room L m
              have HNX : Hid (∀ j, pb L (m + 1) j = pb L m j + (if m / 8 = j then y % 2 * 2 ^ (m % 8) else 0)) := fun j => by
                show pb L m j + _ = _
                rw [HX3.out]
                by_cases d : y % 2 = 1
                · simp only [d, beq_self_eq_true, and_true, Nat.one_mul]
                · have d0 : y % 2 = 0 := by omega
                  simp [d0]
              have HROW := hide hrow
              obtain ⟨t, ht⟩ : ∃ t, m % 8 = t := ⟨_, rfl⟩
              obtain ⟨p, hp⟩ : ∃ p, m / 8 = p := ⟨_, rfl⟩
              obtain ⟨z, hz⟩ : ∃ z, pb L m p = z := ⟨_, rfl⟩
              have ht8 : t < 8 := by omega
              have hmi : ((i : Int) * 3 + (k : Int)) / 8 = (p : Int) := by omega
              have hmt : ((i : Int) * 3 + (k : Int)) % 8 = (t : Int) := by omega
              rw [ht] at hroom HNX
              rw [hp] at q1 q2 hqn hroom HNX
              rw [hz] at q1 hroom
              have HZ := hide hz
              have hpi : (p : Int) < (n : Int) := by omega
              clear hrow ht hp hz hy hm hbl
              go_wp2
              go_region
              have hdv : (x : Int) / 2 ^ k = ((y : Nat) : Int) := by rw [← HY.out]; push_cast; rfl
              have hpw : 2 ^ t ≤ 2 ^ 7 := Nat.pow_le_pow_right (by decide) (by omega)
              have HRM : bits .or .u8 (z : Int) (bits .and .i64 ((x : Int) / 2 ^ k) 1 % 256 * 2 ^ t % 256) = ((z + y % 2 * 2 ^ t : Nat) : Int) := by
                rw [hdv, i64_and_one y (by omega)]
                have h1 : y % 2 * 2 ^ t ≤ 1 * 2 ^ t := Nat.mul_le_mul_right _ (by omega)
                have h2 : ((y % 2 : Nat) : Int) % 256 * 2 ^ t % 256 = ((y % 2 * 2 ^ t : Nat) : Int) := by
                  have h3 : ((2 ^ t : Nat) : Int) = 2 ^ t := by push_cast; rfl
                  rw [show ((y % 2 : Nat) : Int) % 256 = ((y % 2 : Nat) : Int) by omega, ← h3, ← Int.natCast_mul]
                  omega
                rw [h2, u8_or_nat _ _ (by omega) (by omega), or_above t z _ hroom]
              rw [HRM]
              clear HRM hdv hpw
              go_wp2
              go_roundw
              case rel =>
                refine ⟨k + 1, by omega, by go_num, ?_, (HB.out.setCell HBB.out _).drew⟩
                refine World.rowIs.congr (f := fun j => if j = p then .int .u8 ((z + y % 2 * 2 ^ t : Nat) : Int) else .int .u8 (pb L m j : Nat)) ?_ fun j _ => ?_
                · exact (HROW.out.set p _).drew
                rw [show 3 * i + (k + 1) = m + 1 by have := HM.out; omega, HNX.out]
                by_cases e : j = p
                · rw [if_pos e, e, if_pos rfl, HZ.out]
                · rw [if_neg e, if_neg (fun h => e h.symm), Nat.add_zero]
              case measure => simp [intOf]; omega
            · have hki : ¬ (k : Int) < 3 := by omega
              obtain rfl : k = 3 := by omega
              have HROW := hide hrow
              clear hrow hbl
              go_wp2
              go_roundw
              case rel => exact ⟨i + 1, by omega, by go_num, HROW.out, HB.out⟩
              case measure => simp [intOf]; omega
      · have hge : ¬ (i : Int) < (L.length : Int) := by omega
        obtain rfl : i = L.length := by omega
        have hlt : B < wr.heap.size := by
          obtain ⟨_, h2, _⟩ := HROW.out
          exact (Array.getElem?_eq_some_iff.1 h2).1
        obtain ⟨bl, hbf, hfr⟩ := row_bf (c := n) (w0 := w) (by rw [pkL_len]; exact HN.out) (pkL_lo L (3 * L.length)) (HROW.out.congr fun j hj => by rw [pkL_at _ _ (by rw [HN.out]; exact hj)]) HBB.out hlt
        have HBF := hide hbf
        have HFR := hide hfr
        clear hbl hbf hfr hlt
        go_wp2
        go_ret2
        rw [pkF_yes HGG.out, pkC_yes HGG.out]
        exact ⟨_, rfl, ⟨_, HBF.out, HFR.out⟩, HB.out⟩
theorem implPack_bs (L : List Int) (u : Value) (w : World) (hl : L.length ≤ 8400000) (h : IS w u L) :
    Calls Tryd.prog 38 #[u] w fun e w' => ∃ v, e = .returned (.tuple #[v, .int .i64 (pkC L)]) ∧ BS w' v (pkF L) ∧ Below w.heap.size w w' :=
  (implPack_own L u w hl h).mono fun _ _ ⟨v, h1, ⟨_, h2, _⟩, h4⟩ => ⟨v, h1, h2.rd, h4⟩
theorem implPack_any (L : List Int) (u : Value) (w : World) (hl : L.length ≤ 1048576) (h : IS w u L) :
    Calls Tryd.prog 38 #[u] w fun e w' => ∃ v bl, e = .returned (.tuple #[v, .int .i64 (pkC L)]) ∧ BF w' v (pkF L) bl ∧ Fr w w' bl ∧ Below w.heap.size w w' :=
  (implPack_own L u w (by omega) h).mono fun _ _ ⟨v, h1, ⟨bl, h2, h3⟩, h4⟩ => ⟨v, bl, h1, h2, h3, h4⟩
end Go.Proofs.YtpnocklldlacjaaDoor

namespace Go.Proofs.YtpnocklldlacjaaDoor
open Go.RowKit

set_option maxHeartbeats 1000000 in
set_option maxRecDepth 1000000 in
theorem bytesEqual_any (u v : Value) (s t : ByteArray) (w : World) (h : BS w u s) (k : BS w v t) :
    Calls Tryd.prog 47 #[u, v] w fun e w' => Ans (s = t) e ∧ w' = w := by
  have c5 := toStr_bs h
  have c6 := toStr_bs k
  obtain ⟨a1, c1, rfl⟩ := h.slice
  obtain ⟨a2, c2, rfl⟩ := k.slice
  clear h k
  by_cases q : s = t
  · subst q
    go_enter Tryd.func47, Tryd.ntmps47
    go_wp2
    go_ret
    exact ⟨Ans.yes trivial, rfl⟩
  · have HR := hide q
    have s6 : (s.toList == t.toList) = false := by
      rw [beq_eq_false_iff_ne]
      intro h
      rw [ByteArray.toList_eq, ByteArray.toList_eq] at h
      exact q (ByteArray.ext (Array.toList_inj.1 h))
    clear q
    go_enter Tryd.func47, Tryd.ntmps47
    go_wp2
    go_ret
    exact ⟨Ans.no HR.out, rfl⟩
end Go.Proofs.YtpnocklldlacjaaDoor

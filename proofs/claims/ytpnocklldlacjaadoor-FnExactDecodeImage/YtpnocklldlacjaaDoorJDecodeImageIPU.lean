/-
  The walk of impl.UnpackHops.
-/
import Derived.Test.YtpnocklldlacjaaDoorJDecodeImageIPH
import Derived.Test.YtpnocklldlacjaaDoorJDecodeImageRDM
import Derived.Test.YtpnocklldlacjaaDoorJDecodeImageIIOW
import Derived.Test.YtpnocklldlacjaaDoorJDecodeImageIPH
namespace Go.Proofs.YtpnocklldlacjaaDoor
open Go.RowKit

/-- The lower bits of hop i, k of them. -/
def upq (b : ByteArray) (i : Nat) : Nat → Nat
  | 0 => 0
  | k + 1 => upq b i k + bbit b (3 * i + k) * 2 ^ k
theorem upq_three (b : ByteArray) (i : Nat) : upq b i 3 = upv b i := by
  show 0 + bbit b (3 * i + 0) * 1 + bbit b (3 * i + 1) * 2 + bbit b (3 * i + 2) * 4 = _
  unfold upv
  rw [Nat.add_zero]
  omega
theorem upq_lt (b : ByteArray) (i : Nat) : ∀ k, upq b i k < 2 ^ k
  | 0 => by unfold upq; decide
  | k + 1 => by
    have h1 := upq_lt b i k
    have h2 := bbit_le b (3 * i + k)
    have h3 : bbit b (3 * i + k) * 2 ^ k ≤ 1 * 2 ^ k := Nat.mul_le_mul_right _ h2
    unfold upq
    rw [Nat.pow_succ]
    omega
/-- The row of hops, the first i of them read, and of the next x. -/
def upR (b : ByteArray) (i : Nat) (x : Int) (j : Nat) : Int := if j < i then uph b j else if j = i then x else 0
theorem up64 (n : Int) (h : -9223372036854775808 ≤ n ∧ n ≤ 9223372036854775807) : wrap64 n = n := by unfold wrap64; omega
theorem or64_add {k v y : Nat} (hk : k < 3) (hv : v < 2 ^ k) (hy : y < 2) : bits .or .i64 (v : Int) (wrap64 (wrap64 (y : Int) * 2 ^ k)) = ((v + y * 2 ^ k : Nat) : Int) := by
  have hp : 2 ^ k ≤ 4 := Nat.pow_le_pow_right (n := 2) (by decide) (show k ≤ 2 by omega)
  have h1 : y * 2 ^ k ≤ 1 * 2 ^ k := Nat.mul_le_mul_right _ (by omega)
  have h3 : ((2 ^ k : Nat) : Int) = 2 ^ k := by push_cast; rfl
  have ho := or_above k v y hv
  rw [up64 (y : Int) (by omega), ← h3, ← Int.natCast_mul]
  obtain ⟨q, hq⟩ : ∃ q, 2 ^ k = q := ⟨_, rfl⟩
  obtain ⟨p, hp2⟩ : ∃ p, y * q = p := ⟨_, rfl⟩
  rw [hq] at hp h1 hv ho ⊢
  rw [hp2] at h1 ho ⊢
  rw [up64 (p : Int) (by omega), i64_or_nat _ _ (by omega) (by omega), ho]
theorem row_own {w : World} {B B0 n : Nat} {l : List Int} (hl : l.length = n) (h : w.rowIs B 3 n (fun j => .int .i64 (l.getD j 0))) (hB : B0 ≤ B) (hn : n ≤ 100000000) : w.ownsRow B0 3 1 (.slice (some ⟨B, 0, none⟩) n n) l.length (ci l) := by
  obtain ⟨cur, h1, h2, h3⟩ := h
  subst hl
  refine ⟨by unfold ci; rw [List.length_map, Nat.mul_one], .inr ⟨B, l.length, cur, rfl, hB, h1, Nat.le_refl _, by unfold maxLen; omega, by rw [h2, Nat.mul_one], ?_⟩⟩
  refine List.ext_getElem? fun j => ?_
  rw [List.getElem?_take, Nat.mul_one]
  by_cases hj : j < l.length
  · rw [if_pos hj, Array.getElem?_toList, h3 j hj]
    simp [ci, List.getD, hj]
  · rw [if_neg hj, List.getElem?_eq_none (by unfold ci; rw [List.length_map]; omega)]
theorem row_if {w w0 : World} {B n c : Nat} {l : List Int} (hl : l.length = n) (h : w.rowIs B 3 n (fun j => .int .i64 (l.getD j 0))) (hB : w0.heap.size ≤ B) (hlt : B < w.heap.size) : ∃ bl, IF w (.slice (some ⟨B, 0, none⟩) n c) l bl ∧ Fr w0 w bl := by
  by_cases h0 : 0 < l.length
  · exact ⟨[B], ⟨_, B, 0, c, by rw [hl], fun _ => rfl, by rw [if_pos h0], fun j hj => by rw [Nat.zero_add]; exact ⟨h.cell (by omega), h.frozen j⟩⟩, Fr.one hB hlt true⟩
  · exact ⟨[], ⟨_, B, 0, c, by rw [hl], fun _ => rfl, by rw [if_neg h0], fun j hj => by omega⟩, ⟨List.nodup_nil, (fun x hx => nomatch hx), (fun x hx => nomatch hx)⟩⟩

set_option maxHeartbeats 4000000 in
set_option maxRecDepth 1000000 in
theorem implUnpack_full (s : ByteArray) (n : Int) (u : Value) (w : World) (hs : s.size ≤ 1048576) (wn : W64 n) (h : BS w u s) :
    Calls Tryd.prog 84 #[u, .int .i64 n] w fun e w' => ∃ v bl, e = .returned (.tuple #[v, .int .i64 (upC s n)]) ∧ (IF w' v (upF s n) bl ∧ w'.ownsRow w.heap.size 3 1 v (upF s n).length (ci (upF s n))) ∧ Fr w w' bl ∧ Below w.heap.size w w' := by
  have HST := hide h
  obtain ⟨a, b, o, c, rfl, ha, hc⟩ := h
  have HC : Hid (∀ V, Below w.heap.size w V → ∀ j, j < s.size → V.cell? ⟨b, o + j, none⟩ = some (.int .u8 ((s.get! j).toNat : Int))) := fun V hV j hj => cell_kept (hc j hj) hV
  clear hc
  by_cases q0 : n < 0
  · have t0 : decide (n < 0) = true := decide_eq_true q0
    have HQ := hide q0
    clear q0
    go_enter Tryd.func84, Tryd.ntmps84
    go_wp2
    go_ret2
    rw [upF_neg HQ.out, upC_neg HQ.out]
    exact ⟨_, [], rfl, ⟨if_nil _ 0, World.ownsRow_nil _ _ _ _⟩, Fr.nil _ _, Below.refl _ _⟩
  have t0 : decide (n < 0) = false := decide_eq_false q0
  have HN0 : Hid (0 ≤ n) := by show _ ≤ _; omega
  obtain ⟨m, rfl⟩ : ∃ m : Nat, n = m := ⟨n.toNat, by omega⟩
  have hm63 : m ≤ 9223372036854775807 := by have := wn.le; omega
  obtain ⟨z, hz⟩ : ∃ z, (3 * m + 7) / 8 = z := ⟨_, rfl⟩
  have HPZ := hide (packedSize_any m w hm63)
  rw [hz] at HPZ
  have HZ := hide hz
  have hzl : z ≤ 9223372036854775807 := by omega
  clear hz q0 wn
  by_cases q2 : ¬ z = s.size
  · have t2 : ((s.size : Int) != (z : Int)) = true := by rw [bne_iff_ne]; omega
    have HR : Hid (¬ upOk s ((m : Nat) : Int).toNat = true) := fun h => by have h1 := upOk_size h; rw [Int.toNat_natCast, HZ.out] at h1; exact q2 h1
    clear q2
    go_enter Tryd.func84, Tryd.ntmps84
    go_wp2_with fail
    refine HPZ.out.mono ?_
    rintro e w1 ⟨rfl, rfl⟩
    go_wp2
    go_ret2
    rw [upF_no HR.out, upC_no HN0.out HR.out]
    exact ⟨_, [], rfl, ⟨if_nil _ 0, World.ownsRow_nil _ _ _ _⟩, Fr.nil _ _, Below.refl _ _⟩
  have q2' : z = s.size := by omega
  subst q2'
  have t2 : ((s.size : Int) != (s.size : Int)) = false := by simp
  have hm : m ≤ 2800000 := by have := HZ.out; omega
  have hmk := run_make_row' (P := Tryd.prog) 57 3 (.int .i64 0) 8 Tryd.underlying57 Tryd.info3 rfl .i64 .i64 m (by omega) (by omega) w
  have HR0 := hide (World.rowIs_made w (.int .i64 0) m 3)
  obtain ⟨W1, hW1⟩ : ∃ W, w.alloc (.cells (madeCells #[.int .i64 0] m) 3) = W := ⟨_, rfl⟩
  have hb2 : Below w.heap.size w W1 := by rw [← hW1]; exact (Below.refl _ _).alloc (Nat.le_refl _) _
  obtain ⟨B, hB⟩ : ∃ B, w.heap.size = B := ⟨_, rfl⟩
  have HBB : Hid (w.heap.size ≤ B) := by show _ ≤ _; rw [← hB]; exact Nat.le_refl _
  rw [hW1, hB] at hmk HR0
  have HB2 := hide hb2
  clear hW1 hb2 hB q2
  go_enter Tryd.func84, Tryd.ntmps84
  go_wp2_with fail
  refine HPZ.out.mono ?_
  rintro e w1 ⟨rfl, rfl⟩
  go_wp2
  clear hmk HPZ t0 t2
  rename World => w
  go_loopw [23] (fun ix wr => ∃ i : Nat, i ≤ m ∧ ix = .int .i64 i ∧ wr.rowIs B 3 m (fun j => .int .i64 (upR s i 0 j)) ∧ Below w.heap.size w wr) (fun ix _ => m - (intOf ix).toNat)
  case atStart => exact ⟨0, Nat.zero_le _, rfl, HR0.out.congr fun j _ => by unfold upR; rw [if_neg (Nat.not_lt_zero _), ite_self], HB2.out⟩
  case round =>
    clear HR0 HB2
    obtain ⟨i, hi, rfl, hrow, hbl⟩ := hrel
    have HROW := hide hrow
    have HB := hide hbl
    clear hrow
    by_cases hlt : i < m
    · have hlti : (i : Int) < (m : Int) := by omega
      obtain rfl := ha (by have := HZ.out; omega)
      rename World => wo
      clear hbl
      go_wp2
      go_loopw [26] (fun kx wr => ∃ k : Nat, k ≤ 3 ∧ kx = .int .i64 k ∧ wr.rowIs B 3 m (fun j => .int .i64 (upR s i (upq s i k : Nat) j)) ∧ Below w.heap.size w wr) (fun kx _ => 3 - (intOf kx).toNat)
      case atStart => exact ⟨0, by omega, rfl, HROW.out, HB.out⟩
      case round =>
        clear HROW HB
        obtain ⟨k, hk, rfl, hrow, hbl⟩ := hrel
        have HB := hide hbl
        have HROW := hide hrow
        have hub := upq_lt s i k
        have g1 := hrow.cell hlt
        have g2 := hrow.frozen i
        obtain ⟨v, hv⟩ : ∃ v, upq s i k = v := ⟨_, rfl⟩
        have hgv : upR s i ((upq s i k : Nat) : Int) i = (v : Int) := by unfold upR; rw [if_neg (Nat.lt_irrefl _), if_pos rfl, hv]
        rw [hgv] at g1
        rw [hv] at hub
        have HV := hide hv
        clear hv hgv
        by_cases hk3 : k < 3
        · have hki : (k : Int) < 3 := by omega
          obtain ⟨t, ht⟩ : ∃ t, 3 * i + k = t := ⟨_, rfl⟩
          obtain ⟨p, hp⟩ : ∃ p, t / 8 = p := ⟨_, rfl⟩
          obtain ⟨r, hr⟩ : ∃ r, t % 8 = r := ⟨_, rfl⟩
          have hmi : ((i : Int) * 3 + (k : Int)) / 8 = (p : Int) := by omega
          have hmt : ((i : Int) * 3 + (k : Int)) % 8 = (r : Int) := by omega
          have hps : p < s.size := by have := HZ.out; omega
          have hpi : (p : Int) < (s.size : Int) := by omega
          have f := HC.out _ hbl p hps
          obtain ⟨x, hx⟩ : ∃ x, (s.get! p).toNat = x := ⟨_, rfl⟩
          rw [hx] at f
          have hx8 : x < 256 := by rw [← hx]; exact (s.get! p).toNat_lt
          have hr8 : r < 8 := by omega
          have HBI : Hid (upq s i (k + 1) = v + x / 2 ^ r % 2 * 2 ^ k) := by
            show upq s i k + bbit s (3 * i + k) * 2 ^ k = _
            unfold bbit
            rw [HV.out, ht, hp, hr, hx]
          clear ht hp hr hx hrow hbl
          go_wp2
          go_region
          have hdv : (x : Int) / 2 ^ r = ((x / 2 ^ r : Nat) : Int) := by push_cast; rfl
          have hxr : x / 2 ^ r < 256 := Nat.lt_of_le_of_lt (Nat.div_le_self _ _) hx8
          have HRM : bits .or .i64 (v : Int) (wrap64 (wrap64 (bits .and .u8 ((x : Int) / 2 ^ r) 1) * 2 ^ k)) = ((v + x / 2 ^ r % 2 * 2 ^ k : Nat) : Int) := by
            rw [hdv, u8_and_one _ hxr]
            exact or64_add hk3 hub (Nat.mod_lt _ (by decide))
          rw [HRM]
          clear HRM hdv hxr
          go_wp2
          go_roundw
          case rel =>
            refine ⟨k + 1, by omega, by go_num, ?_, (HB.out.setCell HBB.out _).drew⟩
            refine World.rowIs.congr (f := fun j => if j = i then .int .i64 ((v + x / 2 ^ r % 2 * 2 ^ k : Nat) : Int) else .int .i64 (upR s i (upq s i k : Nat) j)) ?_ fun j _ => ?_
            · exact (HROW.out.set i _).drew
            by_cases e : j = i
            · rw [if_pos e, e]
              unfold upR
              rw [if_neg (Nat.lt_irrefl _), if_pos rfl, HBI.out]
            · rw [if_neg e]
              unfold upR
              rw [if_neg e, if_neg e]
          case measure => simp [intOf]; omega
        · have hki : ¬ (k : Int) < 3 := by omega
          obtain rfl : k = 3 := by omega
          have HVU : Hid (uph s i = if v = 4 then -1 else (v : Int)) := by show _ = _; unfold uph; rw [← upq_three, HV.out]
          clear hrow hbl
          by_cases q4 : v = 4
          · have s4 : ((v : Int) == 4) = true := by rw [beq_iff_eq]; omega
            have HUH : Hid (uph s i = -1) := by show _ = _; rw [HVU.out, if_pos q4]
            go_wp2
            go_roundw
            case rel =>
              refine ⟨i + 1, by omega, by go_num, ?_, HB.out.setCell HBB.out _⟩
              refine World.rowIs.congr (f := fun j => if j = i then .int .i64 (-1) else .int .i64 (upR s i (upq s i 3 : Nat) j)) ?_ fun j _ => ?_
              · exact HROW.out.set i _
              by_cases e : j = i
              · rw [if_pos e, e]
                unfold upR
                rw [if_pos (Nat.lt_succ_self _), HUH.out]
              · rw [if_neg e]
                unfold upR
                rw [if_neg e, ite_self]
                by_cases e2 : j < i
                · rw [if_pos e2, if_pos (by omega)]
                · rw [if_neg e2, if_neg (by omega)]
            case measure => simp [intOf]; omega
          · have s4 : ((v : Int) == 4) = false := by rw [beq_eq_false_iff_ne]; omega
            have HUH : Hid (uph s i = (v : Int)) := by show _ = _; rw [HVU.out, if_neg q4]
            go_wp2
            go_roundw
            case rel =>
              refine ⟨i + 1, by omega, by go_num, HROW.out.congr fun j _ => ?_, HB.out⟩
              by_cases e : j = i
              · rw [e]
                unfold upR
                rw [if_neg (Nat.lt_irrefl _), if_pos rfl, if_pos (Nat.lt_succ_self _), HUH.out, HV.out]
              · unfold upR
                rw [if_neg e, ite_self]
                by_cases e2 : j < i
                · rw [if_pos e2, if_pos (by omega)]
                · rw [if_neg e2, if_neg (by omega)]
            case measure => simp [intOf]; omega
    · have hge : ¬ (i : Int) < (m : Int) := by omega
      obtain rfl : i = m := by omega
      have hlt : B < wr.heap.size := by
        obtain ⟨_, h2, _⟩ := HROW.out
        exact (Array.getElem?_eq_some_iff.1 h2).1
      obtain ⟨bl, hif, hfr⟩ := row_if (c := i) (w0 := w) (l := upL s i) (upL_len s i) (HROW.out.congr fun j hj => by
        unfold upR upL
        rw [if_pos hj, List.getD_eq_getElem?_getD, List.getElem?_map, List.getElem?_range hj]
        rfl) HBB.out hlt
      obtain ⟨X, hX⟩ : ∃ X, upL s i = X := ⟨_, rfl⟩
      have HXL : Hid (X.length = i) := by show _ = _; rw [← hX, upL_len]
      have how := row_own (B0 := w.heap.size) (l := upL s i) (upL_len s i) (HROW.out.congr fun j hj => by
        unfold upR upL
        rw [if_pos hj, List.getD_eq_getElem?_getD, List.getElem?_map, List.getElem?_range hj]
        rfl) HBB.out (by omega)
      rw [hX] at hif how
      have HOW := hide how
      clear how
      have HX := hide hX
      have HIF := hide hif
      have HFR := hide hfr
      have HPK := hide (implPack_bs X _ _ (by have := HXL.out; omega) hif.rd)
      have HCW := hide (HST.out.below hbl)
      rename World => wo
      clear hbl hX hif hfr hlt
      go_wp2_with fail
      refine HPK.out.mono ?_
      rintro e w5 ⟨vp, rfl, hbs, hb5⟩
      have HB5 : Hid (Below w.heap.size w w5) := HB.out.trans (hb5.mono HB.out.size)
      have HI5 := hide (HIF.out.below hb5)
      have HO5 := hide (kept_i HOW.out hb5)
      have HF5 : Hid (Fr w w5 bl) := HFR.out.mono (Nat.le_refl _) hb5.size
      have HBE := hide (bytesEqual_any _ _ _ _ w5 hbs (HCW.out.below hb5))
      obtain ⟨ap, cp, rfl⟩ := hbs.slice
      clear hbs hb5 HPK
      by_cases q5 : hGood X = true
      · have HC0 := hide (pkC_yes q5)
        have hc0 := HC0.out
        rw [hc0]
        clear hc0
        obtain ⟨P, hP⟩ : ∃ P, pkF X = P := ⟨_, rfl⟩
        rw [hP] at HBE ⊢
        go_wp2_with fail
        refine HBE.out.mono ?_
        rintro e w6 ⟨⟨g, rfl, hg⟩, rfl⟩
        cases g with
        | true =>
          have q6 := hg.1 rfl
          subst q6
          have HOK : Hid (upOk P ((i : Nat) : Int).toNat = true) := by
            show _ = _
            unfold upOk
            rw [Int.toNat_natCast, HX.out, q5, hP, decide_eq_true HZ.out]
            simp
          have HXX : Hid (upF P ((i : Nat) : Int) = X) := by show _ = _; rw [upF_yes HN0.out HOK.out, Int.toNat_natCast, HX.out]
          have HCC : Hid (upC P ((i : Nat) : Int) = 0) := upC_yes HN0.out HOK.out
          clear hP q5 hg
          go_wp2
          go_ret2
          rw [HXX.out, HCC.out]
          exact ⟨_, bl, rfl, ⟨HI5.out, HO5.out⟩, HF5.out, HB5.out⟩
        | false =>
          have HR : Hid (¬ upOk s ((i : Nat) : Int).toNat = true) := fun h => by
            unfold upOk at h
            rw [Int.toNat_natCast, HX.out, Bool.and_eq_true, Bool.and_eq_true, decide_eq_true_iff, decide_eq_true_iff, hP] at h
            have := hg.2 h.2.2
            cases this
          clear hP q5 hg
          go_wp2
          go_ret2
          rw [upF_no HR.out, upC_no HN0.out HR.out]
          exact ⟨_, [], rfl, ⟨if_nil _ 0, World.ownsRow_nil _ _ _ _⟩, Fr.nil _ _, HB5.out⟩
      · have hc0 := pkC_no q5
        rw [hc0]
        have HR : Hid (¬ upOk s ((i : Nat) : Int).toNat = true) := fun h => by
          unfold upOk at h
          rw [Int.toNat_natCast, HX.out, Bool.and_eq_true, Bool.and_eq_true] at h
          exact q5 h.2.1
        clear hc0 q5
        go_wp2
        go_ret2
        rw [upF_no HR.out, upC_no HN0.out HR.out]
        exact ⟨_, [], rfl, ⟨if_nil _ 0, World.ownsRow_nil _ _ _ _⟩, Fr.nil _ _, HB5.out⟩
theorem implUnpack_any (s : ByteArray) (n : Int) (u : Value) (w : World) (hs : s.size ≤ 1048576) (wn : W64 n) (h : BS w u s) :
    Calls Tryd.prog 84 #[u, .int .i64 n] w fun e w' => ∃ v bl, e = .returned (.tuple #[v, .int .i64 (upC s n)]) ∧ IF w' v (upF s n) bl ∧ Fr w w' bl ∧ Below w.heap.size w w' :=
  (implUnpack_full s n u w hs wn h).mono fun _ _ ⟨v, bl, h1, h2, h3, h4⟩ => ⟨v, bl, h1, h2.1, h3, h4⟩
end Go.Proofs.YtpnocklldlacjaaDoor

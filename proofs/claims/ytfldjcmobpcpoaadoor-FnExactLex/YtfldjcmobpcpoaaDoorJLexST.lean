/-
  The walk of spec.l1token.
-/
import Derived.Test.YtfldjcmobpcpoaaDoorJLexSX
import Derived.Test.YtfldjcmobpcpoaaDoorJLexSW
import Derived.Test.YtfldjcmobpcpoaaDoorJLexO1
import Derived.BigQuiet
import Derived.Deep.QuietTactic
namespace Go.Proofs.YtfldjcmobpcpoaaDoor
open Go.RowKit

/-- Two numbers, as an answer. -/
def two2 (q : Nat × Nat) : Value := .tuple #[.int .i64 (q.1 : Int), .int .i64 (q.2 : Int)]
theorem two2_of {q : Nat × Nat} {a c : Nat} (h : q = (a, c)) : two2 q = .tuple #[.int .i64 (a : Int), .int .i64 (c : Int)] := by rw [h]; rfl

set_option maxHeartbeats 1000000 in
set_option maxRecDepth 1000000 in
theorem tok_letter (b off cap p : Nat) (s : ByteArray) (w : World) (hs : s.size ≤ 1048576) (hcap : s.size ≤ cap) (hp : p < s.size) (hc : ∀ j, j < s.size → w.cell? ⟨b, off + j, none⟩ = some (bts s j)) (hl : isL (s.get! p).toNat = true) :
    Calls Tryd.prog 30 #[.slice (some ⟨b, off, none⟩) s.size cap, .int .i64 p] w fun e w' => e = .returned (two2 (tok s p)) ∧ Below w.heap.size w w' := by
  have HRUN := hide (run_any b off cap p s w hs (by omega) hc)
  have hrl := run_le s p (by omega)
  have hz := size_ext2 s p (p + run s p) hrl
  have hcv : ∀ c, (convert 22 9 (.slice (some ⟨b, off + p, none⟩) (s.extract p (p + run s p)).size c)).run Tryd.prog w = .ok (.string (s.extract p (p + run s p))) w := fun c => toStr_run _ w b (off + p) c (fun j hj => by
    rw [hz] at hj
    rw [Nat.add_assoc]
    refine (hc (p + j) (by omega)).trans ?_
    unfold bts
    rw [get!_ext2 s p _ j hrl (by omega)])
  rw [hz, Nat.add_sub_cancel_left] at hcv
  have HW := hide (isWord_any (s.extract p (p + run s p)) w)
  have HT : Hid (tok s p = (if isW (s.extract p (p + run s p)) = true then 2 else 1, run s p)) := by show _ = _; unfold tok; rw [if_pos hl]
  have g0 : w.cell? ⟨b, off + p, none⟩ = some (.int .u8 ((s.get! p).toNat : Int)) := hc p hp
  have b0 : (s.get! p).toNat < 256 := (s.get! p).toNat_lt
  have HL := letter_any (s.get! p).toNat w b0
  rw [hl] at HL
  obtain ⟨y, hy⟩ : ∃ y : Nat, (s.get! p).toNat = y := ⟨_, rfl⟩
  rw [hy] at g0 b0 HL
  have HL' := hide HL
  obtain ⟨n, hn⟩ : ∃ n, run s p = n := ⟨_, rfl⟩
  rw [hn] at HRUN hrl hcv HW HT
  obtain ⟨x, hx⟩ : ∃ x, s.extract p (p + n) = x := ⟨_, rfl⟩
  rw [hx] at hcv HW HT
  clear hc hl hy hn hx hz HL
  cases hw : isW x with
  | true =>
    rw [hw] at HW
    have HR : Hid (two2 (tok s p) = .tuple #[.int .i64 2, .int .i64 n]) := by show _ = _; rw [HT.out, hw]; rfl
    clear hw HT
    go_enter Tryd.func30, Tryd.ntmps30
    go_wp2_with fail
    refine HRUN.out.mono ?_
    rintro e w' ⟨rfl, rfl⟩
    go_wp2_with fail
    refine HL'.out.mono ?_
    rintro e w' ⟨rfl, rfl⟩
    go_wp2_with fail
    refine HW.out.mono ?_
    rintro e w1 ⟨rfl, hb⟩
    have HB := hide hb
    clear hb hcv
    go_wp2
    go_ret2
    exact ⟨by rw [HR.out]; rfl, HB.out⟩
  | false =>
    rw [hw] at HW
    have HR : Hid (two2 (tok s p) = .tuple #[.int .i64 1, .int .i64 n]) := by show _ = _; rw [HT.out, hw]; rfl
    clear hw HT
    go_enter Tryd.func30, Tryd.ntmps30
    go_wp2_with fail
    refine HRUN.out.mono ?_
    rintro e w' ⟨rfl, rfl⟩
    go_wp2_with fail
    refine HL'.out.mono ?_
    rintro e w' ⟨rfl, rfl⟩
    go_wp2_with fail
    refine HW.out.mono ?_
    rintro e w1 ⟨rfl, hb⟩
    have HB := hide hb
    clear hb hcv
    go_wp2
    go_ret2
    exact ⟨by rw [HR.out]; rfl, HB.out⟩

set_option maxHeartbeats 1000000 in
set_option maxRecDepth 1000000 in
theorem tok_number (b off cap p : Nat) (s : ByteArray) (w : World) (hs : s.size ≤ 1048576) (hcap : s.size ≤ cap) (hp : p < s.size) (hc : ∀ j, j < s.size → w.cell? ⟨b, off + j, none⟩ = some (bts s j)) (hl : isL (s.get! p).toNat = false) (hr : 0 < run s p) :
    Calls Tryd.prog 30 #[.slice (some ⟨b, off, none⟩) s.size cap, .int .i64 p] w fun e w' => e = .returned (two2 (tok s p)) ∧ Below w.heap.size w w' := by
  have HRUN := hide (run_any b off cap p s w hs (by omega) hc)
  have hrl := run_le s p (by omega)
  have HV := hide (fun c => value_any b off c p (run s p) s w hs hrl hc)
  have HT : Hid (tok s p = (if nval s (run s p) p 0 < 0 then (0, 0) else (3, run s p))) := by show _ = _; unfold tok; rw [if_neg (by rw [hl]; decide), if_pos hr]
  have g0 : w.cell? ⟨b, off + p, none⟩ = some (.int .u8 ((s.get! p).toNat : Int)) := hc p hp
  have b0 : (s.get! p).toNat < 256 := (s.get! p).toNat_lt
  have HL := letter_any (s.get! p).toNat w b0
  rw [hl] at HL
  obtain ⟨y, hy⟩ : ∃ y : Nat, (s.get! p).toNat = y := ⟨_, rfl⟩
  rw [hy] at g0 b0 HL
  have HL' := hide HL
  obtain ⟨n, hn⟩ : ∃ n, run s p = n := ⟨_, rfl⟩
  rw [hn] at HRUN hrl HV HT hr
  obtain ⟨v, hv⟩ : ∃ v, nval s n p 0 = v := ⟨_, rfl⟩
  rw [hv] at HV HT
  have tr : decide ((0 : Int) < (n : Int)) = true := decide_eq_true (by omega)
  clear hc hl hy hn hv HL
  by_cases hneg : v < 0
  · have t1 : decide (v < 0) = true := decide_eq_true hneg
    have HR : Hid (two2 (tok s p) = .tuple #[.int .i64 0, .int .i64 0]) := by show _ = _; rw [HT.out, if_pos hneg]; rfl
    clear hneg HT
    go_enter Tryd.func30, Tryd.ntmps30
    go_wp2_with fail
    refine HRUN.out.mono ?_
    rintro e w' ⟨rfl, rfl⟩
    go_wp2_with fail
    refine HL'.out.mono ?_
    rintro e w' ⟨rfl, rfl⟩
    go_wp2_with fail
    refine (HV.out _).mono ?_
    rintro e w' ⟨rfl, rfl⟩
    go_wp2
    go_ret2
    exact ⟨by rw [HR.out]; rfl, Below.refl _ _⟩
  · have t1 : decide (v < 0) = false := decide_eq_false hneg
    have HR : Hid (two2 (tok s p) = .tuple #[.int .i64 3, .int .i64 n]) := by show _ = _; rw [HT.out, if_neg hneg]; rfl
    clear hneg HT
    go_enter Tryd.func30, Tryd.ntmps30
    go_wp2_with fail
    refine HRUN.out.mono ?_
    rintro e w' ⟨rfl, rfl⟩
    go_wp2_with fail
    refine HL'.out.mono ?_
    rintro e w' ⟨rfl, rfl⟩
    go_wp2_with fail
    refine (HV.out _).mono ?_
    rintro e w' ⟨rfl, rfl⟩
    go_wp2
    go_ret2
    exact ⟨by rw [HR.out]; rfl, Below.refl _ _⟩

set_option maxHeartbeats 1000000 in
set_option maxRecDepth 1000000 in
theorem tok_text (b off cap p : Nat) (s : ByteArray) (w : World) (hs : s.size ≤ 1048576) (_hcap : s.size ≤ cap) (hp : p < s.size) (hc : ∀ j, j < s.size → w.cell? ⟨b, off + j, none⟩ = some (bts s j)) (h34 : (s.get! p).toNat = 34) :
    Calls Tryd.prog 30 #[.slice (some ⟨b, off, none⟩) s.size cap, .int .i64 p] w fun e w' => e = .returned (two2 (tok s p)) ∧ Below w.heap.size w w' := by
  have HRUN := run_any b off cap p s w hs (by omega) hc
  have hl : isL (s.get! p).toNat = false := by rw [h34]; decide
  have hr0 : run s p = 0 := run_is (by omega) (fun j hj => absurd hj (Nat.not_lt_zero _)) (fun g => by rw [Nat.add_zero, h34] at g; exact absurd g.2 (by decide))
  rw [hr0] at HRUN
  have HLIT := hide (specLit_any b off cap p s w hs (by omega) hc)
  have HT : Hid (two2 (tok s p) = .tuple #[.int .i64 4, .int .i64 (litRes s p).2]) := by show _ = _; unfold tok; rw [if_neg (by rw [hl]; decide), if_neg (by omega), if_pos h34]; rfl
  have g0 : w.cell? ⟨b, off + p, none⟩ = some (.int .u8 34) := by have := hc p hp; unfold bts at this; rw [h34] at this; exact this
  have HL := letter_any 34 w (by omega)
  rw [← h34, hl, h34] at HL
  have HL' := hide HL
  have HRUN' := hide HRUN
  obtain ⟨n, hn⟩ : ∃ n, (litRes s p).2 = n := ⟨_, rfl⟩
  rw [hn] at HT
  rw [hn] at HLIT
  clear hc hl hr0 h34 hn HL HRUN
  go_enter Tryd.func30, Tryd.ntmps30
  go_wp2_with fail
  refine HRUN'.out.mono ?_
  rintro e w' ⟨rfl, rfl⟩
  go_wp2_with fail
  refine HL'.out.mono ?_
  rintro e w' ⟨rfl, rfl⟩
  go_wp2_with fail
  refine HLIT.out.mono ?_
  rintro e w1 ⟨v', rfl, ho, hb⟩
  have HB := hide hb
  clear hb ho
  go_wp2
  go_ret2
  exact ⟨by rw [HT.out]; rfl, HB.out⟩

/-- The signs as texts in cells. -/
def sc : Array Value := (sl.map fun l => Value.string ⟨l.toArray⟩).toArray
theorem sc_at (j : Nat) (h : j < 22) : sc[j]? = some (.string ⟨(sl.getD j []).toArray⟩) := by
  have h' : j < sl.length := h
  unfold sc
  rw [List.getElem?_toArray, List.getElem?_map]
  simp [List.getD, List.getElem?_eq_getElem h']

/-- The j-th sign does not stand at p. -/
def nom (s : ByteArray) (p j : Nat) : Prop := (j < 6 → ¬ (p + 2 ≤ s.size ∧ [s.get! p, s.get! (p + 1)] = sl.getD j [])) ∧ (6 ≤ j → [s.get! p] ≠ sl.getD j [])

set_option maxHeartbeats 1000000 in
set_option maxRecDepth 1000000 in
theorem tok_sign (b off cap p : Nat) (s : ByteArray) (w : World) (hs : s.size ≤ 1048576) (hcap : s.size ≤ cap) (hp : p < s.size) (hc : ∀ j, j < s.size → w.cell? ⟨b, off + j, none⟩ = some (bts s j)) (hl : isL (s.get! p).toNat = false) (hr : run s p = 0) (h34 : (s.get! p).toNat ≠ 34) :
    Calls Tryd.prog 30 #[.slice (some ⟨b, off, none⟩) s.size cap, .int .i64 p] w fun e w' => e = .returned (two2 (tok s p)) ∧ Below w.heap.size w w' := by
  have HRUN := run_any b off cap p s w hs (by omega) hc
  rw [hr] at HRUN
  have HT : Hid (tok s p = (if sg s p = 0 then (0, 0) else (5, sg s p))) := by show _ = _; unfold tok; rw [if_neg (by rw [hl]; decide), if_neg (by omega), if_neg h34]
  have g0 : w.cell? ⟨b, off + p, none⟩ = some (.int .u8 ((s.get! p).toNat : Int)) := hc p hp
  have b0 : (s.get! p).toNat < 256 := (s.get! p).toNat_lt
  have HL := letter_any (s.get! p).toNat w b0
  rw [hl] at HL
  have HC := hide hc
  obtain ⟨y, hy⟩ : ∃ y : Nat, (s.get! p).toNat = y := ⟨_, rfl⟩
  rw [hy] at g0 b0 HL h34
  have t34 : ((y : Int) == 34) = false := by rw [beq_eq_false_iff_ne]; omega
  have HL' := hide HL
  have HRUN' := hide HRUN
  clear hc hl hy HL h34 hr HRUN
  go_enter Tryd.func30, Tryd.ntmps30
  go_wp2_with fail
  refine HRUN'.out.mono ?_
  rintro e w' ⟨rfl, rfl⟩
  go_wp2_with fail
  refine HL'.out.mono ?_
  rintro e w' ⟨rfl, rfl⟩
  go_wp2
  have HSC : Hid (∀ j, j < 22 → (w'.alloc (.cells sc 9)).cell? ⟨w'.heap.size, j, none⟩ = some (.string ⟨(sl.getD j []).toArray⟩)) := fun j hj => (cell_fresh w' sc 9 j).trans (sc_at j hj)
  have HBW : Hid (Below w'.heap.size w' (w'.alloc (.cells sc 9))) := (Below.refl _ _).alloc (Nat.le_refl _) _
  have HCW : Hid (∀ j, j < s.size → (w'.alloc (.cells sc 9)).cell? ⟨b, off + j, none⟩ = some (bts s j)) := fun j hj => by
    rw [HBW.out.cell (p := ⟨b, off + j, none⟩) (World.block_lt_of_cell? _ _ (HC.out j hj))]; exact HC.out j hj
  clear HC g0 HL' HRUN'
  go_loopw [10] (fun ix wr => ∃ n : Nat, ix = .int .i64 n ∧ n ≤ 22 ∧ (∀ j, j < n → nom s p j) ∧ ∃ k, wr = (w'.alloc (.cells sc 9)).drewN k) (fun ix _ => 22 - (intOf ix).toNat)
  case atStart => exact ⟨0, rfl, by omega, fun j hj => absurd hj (Nat.not_lt_zero _), 0, rfl⟩
  case round =>
    obtain ⟨n, rfl, hn, hall, k, rfl⟩ := hrel
    have HALL := hide hall
    obtain ⟨W1, hW1⟩ : ∃ W1, w'.alloc (.cells sc 9) = W1 := ⟨_, rfl⟩
    rw [hW1] at HSC HBW HCW ⊢
    have HWR := hide hW1
    clear hall hW1
    by_cases hlt : n < 22
    · have hlti : (n : Int) < 22 := by omega
      have g1 := HSC.out n hlt
      obtain ⟨x, hx⟩ : ∃ x : ByteArray, (⟨(sl.getD n []).toArray⟩ : ByteArray) = x := ⟨_, rfl⟩
      have HX : Hid (x.toList = sl.getD n []) := by show _ = _; rw [← hx, Lib.toList_data]
      have HXZ : Hid (x.size = (sl.getD n []).length) := by show _ = _; rw [← hx]; show (sl.getD n []).toArray.size = _; simp
      rw [hx] at g1
      clear hx
      by_cases h6 : n < 6
      · have hxz : x.size = 2 := by rw [HXZ.out, (sl_lo h6).1]; exact (sl_lo h6).2.1
        by_cases h2 : p + 2 ≤ s.size
        · have t0 : (p : Int) + 2 ≤ (s.size : Int) := by omega
          have hz := size_ext2 s p (p + 2) h2
          have hcv : ∀ c k, (convert 22 9 (.slice (some ⟨b, off + p, none⟩) (s.extract p (p + 2)).size c)).run Tryd.prog (W1.drewN k) = .ok (.string (s.extract p (p + 2))) (W1.drewN k) := fun c k => toStr_run _ (W1.drewN k) b (off + p) c (fun j hj => by
            rw [hz] at hj
            rw [Nat.add_assoc]
            refine (HCW.out (p + j) (by omega)).trans ?_
            unfold bts
            rw [get!_ext2 s p _ j h2 (by omega)])
          rw [hz, Nat.add_sub_cancel_left] at hcv
          have HLI := hide (list_two s p h2)
          obtain ⟨z, hz'⟩ : ∃ z, s.extract p (p + 2) = z := ⟨_, rfl⟩
          rw [hz'] at hcv HLI
          clear hz' hz
          by_cases he : z.toList = x.toList
          · have t1 : (z.toList == x.toList) = true := by rw [beq_iff_eq]; exact he
            have HR : Hid (two2 (tok s p) = .tuple #[.int .i64 5, .int .i64 2]) := by
              show _ = _
              rw [HT.out, sg_two h6 h2 (by rw [← HLI.out, he, HX.out])]; rfl
            clear he h6 h2 HT
            go_wp2_with fail
            go_quiet (fail)
            go_wp2
            go_ret2
            exact ⟨by rw [HR.out]; rfl, HBW.out.trans ⟨rfl, rfl, rfl, Nat.le_refl _, fun _ _ => rfl⟩⟩
          · have t1 : (z.toList == x.toList) = false := by rw [beq_eq_false_iff_ne]; exact he
            have HNO : Hid (nom s p n) := ⟨fun _ g => he (by rw [HLI.out, g.2, HX.out]), fun g => by omega⟩
            clear he
            go_wp2_with fail
            go_quiet (fail)
            go_wp2
            go_roundw
            case rel => exact ⟨n + 1, by go_num, by omega, fun j hj => by
              by_cases e : j = n
              · rw [e]; exact HNO.out
              · exact HALL.out j (by omega), _, rfl⟩
            case measure => simp [intOf]; omega
        · have t0 : decide ((p : Int) + 2 ≤ (s.size : Int)) = false := decide_eq_false (by omega)
          have HNO : Hid (nom s p n) := ⟨fun _ g => h2 g.1, fun g => by omega⟩
          go_wp2_with fail
          go_quiet (fail)
          go_wp2
          go_roundw
          case rel => exact ⟨n + 1, by go_num, by omega, fun j hj => by
            by_cases e : j = n
            · rw [e]; exact HNO.out
            · exact HALL.out j (by omega), _, rfl⟩
          case measure => simp [intOf]; omega
      · have hhi := sl_hi ⟨n - 6, by omega⟩
        simp only [show 6 + (n - 6) = n by omega] at hhi
        have hxz : x.size = 1 := by rw [HXZ.out, hhi.1]; rfl
        clear hhi
        have h2 : p + 1 ≤ s.size := hp
        have t0 : (p : Int) + 1 ≤ (s.size : Int) := by omega
        have hz := size_ext2 s p (p + 1) h2
        have hcv : ∀ c k, (convert 22 9 (.slice (some ⟨b, off + p, none⟩) (s.extract p (p + 1)).size c)).run Tryd.prog (W1.drewN k) = .ok (.string (s.extract p (p + 1))) (W1.drewN k) := fun c k => toStr_run _ (W1.drewN k) b (off + p) c (fun j hj => by
          rw [hz] at hj
          rw [Nat.add_assoc]
          refine (HCW.out (p + j) (by omega)).trans ?_
          unfold bts
          rw [get!_ext2 s p _ j h2 (by omega)])
        rw [hz, Nat.add_sub_cancel_left] at hcv
        have HLI := hide (list_one s p h2)
        obtain ⟨z, hz'⟩ : ∃ z, s.extract p (p + 1) = z := ⟨_, rfl⟩
        rw [hz'] at hcv HLI
        clear hz' hz
        by_cases he : z.toList = x.toList
        · have t1 : (z.toList == x.toList) = true := by rw [beq_iff_eq]; exact he
          have HR : Hid (two2 (tok s p) = .tuple #[.int .i64 5, .int .i64 1]) := by
            show _ = _
            rw [HT.out, sg_one (n := n) (by omega) hlt (fun j hj => (HALL.out j (by omega)).1 hj) (by rw [← HLI.out, he, HX.out])]; rfl
          clear he h6 h2 HT
          go_wp2_with fail
          go_quiet (fail)
          go_wp2
          go_ret2
          exact ⟨by rw [HR.out]; rfl, HBW.out.trans ⟨rfl, rfl, rfl, Nat.le_refl _, fun _ _ => rfl⟩⟩
        · have t1 : (z.toList == x.toList) = false := by rw [beq_eq_false_iff_ne]; exact he
          have HNO : Hid (nom s p n) := ⟨fun g => absurd g h6, fun _ g => he (by rw [HLI.out, g, HX.out])⟩
          clear he
          go_wp2_with fail
          go_quiet (fail)
          go_wp2
          go_roundw
          case rel => exact ⟨n + 1, by go_num, by omega, fun j hj => by
            by_cases e : j = n
            · rw [e]; exact HNO.out
            · exact HALL.out j (by omega), _, rfl⟩
          case measure => simp [intOf]; omega
    · have hlti : ¬ (n : Int) < 22 := by omega
      have HR : Hid (two2 (tok s p) = .tuple #[.int .i64 0, .int .i64 0]) := by
        show _ = _
        rw [HT.out, sg_none (fun j hj => (HALL.out j (by omega)).1 hj) (fun j h1 h2 => (HALL.out j (by omega)).2 h1)]; rfl
      clear HT
      go_wp2
      go_ret2
      exact ⟨by rw [HR.out]; rfl, HBW.out.trans ⟨rfl, rfl, rfl, Nat.le_refl _, fun _ _ => rfl⟩⟩

theorem tok_any (b off cap p : Nat) (s : ByteArray) (w : World) (hs : s.size ≤ 1048576) (hcap : s.size ≤ cap) (hp : p < s.size) (hc : ∀ j, j < s.size → w.cell? ⟨b, off + j, none⟩ = some (bts s j)) :
    Calls Tryd.prog 30 #[.slice (some ⟨b, off, none⟩) s.size cap, .int .i64 p] w fun e w' => e = .returned (two2 (tok s p)) ∧ Below w.heap.size w w' := by
  cases hl : isL (s.get! p).toNat with
  | true => exact tok_letter b off cap p s w hs hcap hp hc hl
  | false =>
    by_cases hr : 0 < run s p
    · exact tok_number b off cap p s w hs hcap hp hc hl hr
    · by_cases h34 : (s.get! p).toNat = 34
      · exact tok_text b off cap p s w hs hcap hp hc h34
      · exact tok_sign b off cap p s w hs hcap hp hc hl (by omega) h34
end Go.Proofs.YtfldjcmobpcpoaaDoor

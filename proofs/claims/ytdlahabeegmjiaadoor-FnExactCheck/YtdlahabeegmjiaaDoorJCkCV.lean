/-
  A slice of bytes as a string.
  The walk of isShortText.
  The walk of validNodeText.
  The walks of impl.isDigit, impl.isRunRune, impl.runSize.
  The walk of impl.pieceKind.
  The walk of impl.isWord.
  The walk of validName.
-/
import Derived.Test.YtdlahabeegmjiaaDoorJCkIN0
import Derived.Test.YtdlahabeegmjiaaDoorJCkT
import Derived.Laws.BytesString
import Derived.Test.YtdlahabeegmjiaaDoorJCkK
import Derived.Test.YtdlahabeegmjiaaDoorJCkIN1
import Derived.Test.YtdlahabeegmjiaaDoorJCkZ
namespace Go.Proofs.YtdlahabeegmjiaaDoor
open Go.RowKit

theorem toStr_bs {w : World} {v : Value} {s : ByteArray} (h : BS w v s) : (convert 31 9 v).run Tryd.prog w = .ok (.string s) w := by
  obtain ⟨a, b, o, c, rfl, ha, hc⟩ := h
  by_cases h0 : 0 < s.size
  · obtain rfl := ha h0
    exact toStr_run s w b o c hc
  · have hz : s.size = 0 := by omega
    have e : s = ByteArray.empty := ext_bytes hz (fun j hj => by omega)
    subst e
    show (convert 31 9 (.slice a 0 c)).run Tryd.prog w = _
    rw [run_convert_bytes_string w 31 9 5 a 0 c Tryd.underlying31 Tryd.underlying5 Tryd.underlying9]
    cases a <;> simp [Conv.bytesToString, loadCells]
    all_goals rfl
end Go.Proofs.YtdlahabeegmjiaaDoor

namespace Go.Proofs.YtdlahabeegmjiaaDoor
open Go.RowKit

theorem implCheck_bs {w : World} {v : Value} {s : ByteArray} (hs : s.size ≤ 1048576) (hT : Lib.Utf8Tabs 0 1 w) (h : BS w v s) :
    Calls Tryd.prog 90 #[v] w fun e w' => e = .returned (pairVal (chk s)) ∧ Below w.heap.size w w' := implCheck_val v s w hs hT (toStr_bs h)

/-- Whether a text is short and well-formed. -/
def shortT (s : ByteArray) : Bool := decide (s.size ≤ 60) && decide ((chk s).1 = 0)
set_option maxHeartbeats 1000000 in
set_option maxRecDepth 1000000 in
theorem isShort_any (v : Value) (s : ByteArray) (w : World) (hl : s.size ≤ 1048576) (hT : Lib.Utf8Tabs 0 1 w) (h : BS w v s) :
    Calls Tryd.prog 78 #[v] w fun e w' => e = .returned (.bool (shortT s)) ∧ Below w.heap.size w w' := by
  have HB := hide h
  have HT := hide hT
  obtain ⟨a, b, o, c, rfl, _, _⟩ := h
  clear hT
  by_cases h60 : s.size ≤ 60
  · have d1 : decide ((60 : Int) < (s.size : Int)) = false := decide_eq_false (by omega)
    obtain ⟨A, D, hAD⟩ : ∃ A D, chk s = (A, D) := ⟨_, _, rfl⟩
    have HN : Hid (shortT s = ((A : Int) == 0)) := by
      show _ = _
      unfold shortT
      rw [decide_eq_true h60, Bool.true_and, hAD]
      show decide (A = 0) = _
      by_cases h : A = 0
      · subst h; rfl
      · rw [decide_eq_false h]; symm; rw [beq_eq_false_iff_ne]; omega
    have HAD := hide hAD
    clear hAD h60
    go_enter Tryd.func78, Tryd.ntmps78
    go_wp2_with fail
    refine (implCheck_bs hl HT.out HB.out).mono ?_
    rintro e w2 ⟨rfl, hb2⟩
    rw [pairVal_of HAD.out]
    have HB2 := hide hb2
    clear hb2
    go_wp2
    go_ret
    exact ⟨by rw [HN.out]; rfl, HB2.out⟩
  · have d1 : decide ((60 : Int) < (s.size : Int)) = true := decide_eq_true (by omega)
    have HN : Hid (shortT s = false) := by show _ = _; unfold shortT; rw [decide_eq_false h60, Bool.false_and]
    clear h60
    go_enter Tryd.func78, Tryd.ntmps78
    go_wp2
    go_ret
    exact ⟨by rw [HN.out]; rfl, Below.refl _ _⟩
end Go.Proofs.YtdlahabeegmjiaaDoor

namespace Go.Proofs.YtdlahabeegmjiaaDoor
open Go.RowKit

/-- Whether a node's text may stand. -/
def vTx (d : Nd) : Bool := if d.kind = 17 then decide (d.text.size ≤ 60) && decide ((chk d.text).1 = 0) else d.text.size == 0
set_option maxHeartbeats 2000000 in
set_option maxRecDepth 1000000 in
theorem validText_any (d : Nd) (vt vn vy : Value) (w : World) (ht : BS w vt d.text) (hl : d.text.size ≤ 1048576) (hT : Lib.Utf8Tabs 0 1 w) :
    Calls Tryd.prog 62 #[nagg d vt vn vy] w fun e w' => e = .returned (.bool (vTx d)) ∧ Below w.heap.size w w' := by
  obtain ⟨K, N, T, M, Y, C⟩ := d
  simp only at ht hl
  have HN : Hid (vTx ⟨K, N, T, M, Y, C⟩ = if K = 17 then decide (T.size ≤ 60) && decide ((chk T).1 = 0) else T.size == 0) := rfl
  have HT := hide hT
  have HBT := hide ht
  obtain ⟨at_, bt, ot, ct, rfl, _, _⟩ := ht
  clear hT
  unfold nagg
  simp only
  by_cases h1 : K = 17
  · subst h1
    rw [if_pos rfl] at HN
    have HB1 : ∀ o, Below w.heap.size w (w.alloc o) := fun o => (Below.refl _ _).alloc (Nat.le_refl _) _
    have HBH := hide HB1
    have HN2 : Hid (vTx ⟨17, N, T, M, Y, C⟩ = shortT T) := HN.out
    obtain ⟨sb, hsb⟩ : ∃ b, shortT T = b := ⟨_, rfl⟩
    rw [hsb] at HN2
    have HSB := hide hsb
    clear HB1 HN hsb
    go_enter Tryd.func62, Tryd.ntmps62
    go_wp2_with fail
    refine (isShort_any _ T _ hl (Utf8Tabs_below HT.out (HBH.out _)) (HBT.out.below (HBH.out _))).mono ?_
    rintro e w2 ⟨rfl, hb2⟩
    rw [HSB.out]
    have HB2 : Hid (Below w.heap.size w w2) := (HBH.out _).trans (hb2.mono (HBH.out _).size)
    clear hb2
    go_wp2
    go_ret
    exact ⟨by rw [HN2.out]; rfl, HB2.out⟩
  · rw [if_neg h1] at HN
    have n1 : (K != 17) = true := by rw [bne_iff_ne]; exact h1
    have e0 : ((T.size : Int) == 0) = (T.size == 0) := by
      by_cases h : T.size = 0
      · rw [h]; rfl
      · rw [beq_eq_false_iff_ne.2 h, beq_eq_false_iff_ne]; omega
    rw [← e0] at HN
    clear h1 e0
    go_enter Tryd.func62, Tryd.ntmps62
    go_wp2
    go_ret
    exact ⟨by rw [HN.out]; rfl, (Below.refl _ _).alloc (Nat.le_refl _) _⟩
end Go.Proofs.YtdlahabeegmjiaaDoor

namespace Go.Proofs.YtdlahabeegmjiaaDoor
open Go.RowKit

set_option maxHeartbeats 400000 in
set_option maxRecDepth 1000000 in
theorem isDigit_any (r : Nat) (w : World) (hr : r ≤ 2147483647) :
    Calls Tryd.prog 99 #[.int .i32 r] w fun e w' => e = .returned (.bool (isD r)) ∧ w' = w := by
  go_enter Tryd.func99, Tryd.ntmps99
  go_wp2
  all_goals go_ret
  all_goals exact ⟨ret_bool (by unfold isD; symm; first | (rw [decide_eq_true_iff]; omega) | (rw [decide_eq_false_iff_not]; omega) | (rw [decide_eq_decide]; omega) | (rw [Bool.eq_iff_iff]; simp; omega)), rfl⟩

set_option maxHeartbeats 400000 in
set_option maxRecDepth 1000000 in
theorem isRunRune_any (r : Nat) (w : World) (hr : r ≤ 2147483647) :
    Calls Tryd.prog 100 #[.int .i32 r] w fun e w' => e = .returned (.bool (isR r)) ∧ w' = w := by
  have HD := hide (fun w => isDigit_any r w hr)
  have HR : Hid (isR r = (isL r || isD r)) := rfl
  have HL := hide (isL_iff r)
  cases hd : isD r with
  | true =>
    rw [hd] at HD HR
    go_enter Tryd.func100, Tryd.ntmps100
    go_wp2_with (go_at_call 99; refine (HD.out _).mono ?_; rintro e w' ⟨rfl, rfl⟩)
    go_ret
    exact ⟨ret_bool (by rw [HR.out, Bool.or_true]), rfl⟩
  | false =>
    rw [hd, Bool.or_false] at HR
    rw [hd] at HD
    clear hd
    go_enter Tryd.func100, Tryd.ntmps100
    go_wp2_with (go_at_call 99; refine (HD.out _).mono ?_; rintro e w' ⟨rfl, rfl⟩)
    all_goals go_ret
    all_goals exact ⟨ret_bool (by rw [HR.out]; unfold isL; symm; first | (rw [decide_eq_true_iff]; omega) | (rw [decide_eq_false_iff_not]; omega) | (rw [Bool.eq_iff_iff]; simp; omega)), rfl⟩

theorem decode_low {s : ByteArray} {p : Nat} (h : (s.get! p).toNat < 128) : Utf8.decode s p = ((s.get! p).toNat, 1) := by
  have h0 : bk s p 0 < 128 := h
  have e := chr_ascii s p h0
  rw [chr_dec (by rw [e]; simp), e]; rfl
theorem decode_high {s : ByteArray} {p : Nat} (h : 128 ≤ (s.get! p).toNat) : 128 ≤ (Utf8.decode s p).1 := by
  rw [Lib.decode_at]
  unfold Lib.decodeN
  repeat' split
  all_goals (try simp only)
  all_goals omega
theorem isR_decode (s : ByteArray) (p : Nat) : isR (Utf8.decode s p).1 = isR (s.get! p).toNat := by
  by_cases h : (s.get! p).toNat < 128
  · rw [decode_low h]
  · have h1 := decode_high (s := s) (p := p) (by omega)
    have a : isR (s.get! p).toNat = false := by rw [Bool.eq_false_iff]; intro g; exact h (isR_low g)
    have b : isR (Utf8.decode s p).1 = false := by rw [Bool.eq_false_iff]; intro g; have := isR_low g; omega
    rw [a, b]

set_option maxHeartbeats 1000000 in
set_option maxRecDepth 1000000 in
theorem runSize_any (s : ByteArray) (w : World) (_hs : s.size ≤ 1048576) :
    Calls Tryd.prog 92 #[.string s] w fun e w' => e = .returned (.int .i64 (run s 0)) ∧ Below w.heap.size w w' := by
  go_enter Tryd.func92, Tryd.ntmps92
  go_wp2
  go_loopw [3] (fun _ wr => ∃ p : Nat, wr.heap[w.heap.size]? = some (.stringIter s p) ∧ p ≤ s.size ∧ (∀ j, j < p → isR (s.get! (0 + j)).toNat = true) ∧ Below w.heap.size w wr) (fun _ wr => s.size - wr.iterPos w.heap.size)
  case atStart => exact ⟨0, World.iter_heap w s 0, Nat.zero_le _, fun j hj => absurd hj (Nat.not_lt_zero _), (Below.refl _ _).alloc (Nat.le_refl _) _⟩
  case round =>
    obtain ⟨p, hit, hp, hall, hbl⟩ := hrel
    have HALL := hide hall
    have HPOS := hide (iterPos_of hit)
    clear hall
    by_cases hlt : p < s.size
    · have hnx : ∀ ty, (Instr.next (.pointer (some ⟨w.heap.size, 0, none⟩)) true ty).run Tryd.prog wr = _ := fun ty => Lib.run_next_any_at wr w.heap.size s p ty hit hlt
      have hit2 := Lib.iterAt_heap wr w.heap.size s p (p + (Utf8.decode s p).2) hit
      have hb2 := below_iterAt hbl (Nat.le_refl _) s (p + (Utf8.decode s p).2)
      have hir := isR_decode s p
      have hdl := decode_le s p
      have hlo : isR (s.get! p).toNat = true → (Utf8.decode s p).2 = 1 := fun g => by rw [decode_low (isR_low g)]
      obtain ⟨r, d, hd⟩ : ∃ r d, Utf8.decode s p = (r, d) := ⟨_, _, rfl⟩
      rw [hd] at hnx hit2 hb2 hir hdl hlo
      simp only at hnx hit2 hb2 hir hdl hlo
      generalize wr.iterAt w.heap.size s (p + d) = wn at *
      have HRR := fun w => isRunRune_any r w (by omega)
      have HB2 := hide hb2
      have HIT := hide hit2
      clear hd hit hit2 hb2
      cases hr : isR (s.get! p).toNat with
      | true =>
        rw [hir, hr] at HRR
        have hd1 := hlo hr
        have HR : Hid (isR (s.get! (0 + p)).toNat = true) := by show _ = _; rw [Nat.zero_add]; exact hr
        have HRR' := hide HRR
        clear hlo hir hr HRR
        subst hd1
        go_wp2_with fail
        refine (HRR'.out _).mono ?_
        rintro e w' ⟨rfl, hw⟩
        subst hw
        go_wp2
        go_roundw
        case rel => exact ⟨p + 1, HIT.out, by omega, fun j hj => by
          by_cases e : j = p
          · rw [e]; exact HR.out
          · exact HALL.out j (by omega), HB2.out⟩
        case measure => rw [iterPos_of HIT.out, HPOS.out]; omega
      | false =>
        rw [hir, hr] at HRR
        have HR : Hid (run s 0 = p) := run_is (by omega) HALL.out (fun g => by rw [Nat.zero_add] at g; have := g.2; rw [hr] at this; cases this)
        have HRR' := hide HRR
        clear hlo hir hr HRR
        go_wp2_with fail
        refine (HRR'.out _).mono ?_
        rintro e w' ⟨rfl, hw⟩
        subst hw
        go_wp2
        go_ret
        exact ⟨by rw [HR.out]; rfl, HB2.out⟩
    · have hnx : ∀ ty, (Instr.next (.pointer (some ⟨w.heap.size, 0, none⟩)) true ty).run Tryd.prog wr = _ := fun ty => Lib.run_next_end_at wr w.heap.size s p ty hit hlt
      have HR : Hid (run s 0 = s.size) := run_is (by omega) (fun j hj => HALL.out j (by omega)) (fun g => by omega)
      clear hit
      go_wp2
      go_ret
      exact ⟨by rw [HR.out]; rfl, hbl⟩
end Go.Proofs.YtdlahabeegmjiaaDoor

namespace Go.Proofs.YtdlahabeegmjiaaDoor
open Go.RowKit

theorem hp_at (r p : ByteArray) (b : Bool) (hb : Lib.hasPrefix r.data.toList p.data.toList = b) (w : World) :
    Calls Tryd.prog 98 #[.string r, .string p] w fun e w' => e = .returned (.bool b) ∧ w' = w := by
  rw [← hb]; exact Tryd.strings_HasPrefix r p w

/-- The kind of the piece that begins a text. -/
def pk (r : ByteArray) : Nat :=
  if (r.get! 0).toNat = 32 ∨ (r.get! 0).toNat = 9 ∨ (r.get! 0).toNat = 13 ∨ (r.get! 0).toNat = 10 then 0
  else if 2 ≤ r.size ∧ r.get! 0 = 47 ∧ r.get! 1 = 47 then 1
  else if 2 ≤ r.size ∧ r.get! 0 = 47 ∧ r.get! 1 = 42 then 2
  else if isD (r.get! 0).toNat = true then 4
  else if isR (r.get! 0).toNat = true then 3
  else if (r.get! 0).toNat = 34 then 5 else 6

set_option maxHeartbeats 1000000 in
set_option maxRecDepth 1000000 in
theorem pieceKind_any (r : ByteArray) (w : World) (h1 : 1 ≤ r.size) (hT : Lib.Utf8Tabs 0 1 w) :
    Calls Tryd.prog 91 #[.string r] w fun e w' => e = .returned (.int .i64 (pk r)) ∧ Below w.heap.size w w' := by
  have hdec := Tryd.utf8_DecodeRuneInString r w hT
  have hgo : Lib.decodeGo r = Utf8.decode r 0 := by
    have := decode_extract r 0 (by omega)
    rw [← this]
    congr 1
    refine ext_bytes (by rw [size_ext r 0 (by omega)]; omega) (fun j hj => by rw [get!_extract, Nat.zero_add])
  rw [hgo] at hdec
  have hv : ((r.get! 0).toNat < 128 ∧ (Utf8.decode r 0).1 = (r.get! 0).toNat) ∨ (128 ≤ (r.get! 0).toNat ∧ 128 ≤ (Utf8.decode r 0).1) := by
    by_cases h : (r.get! 0).toNat < 128
    · exact .inl ⟨h, by rw [decode_low h]⟩
    · exact .inr ⟨by omega, decode_high (by omega)⟩
  have hmax := decode_le r 0
  have hir := isR_decode r 0
  have hid : isD (Utf8.decode r 0).1 = isD (r.get! 0).toNat := by
    rcases hv with ⟨_, e⟩ | ⟨a, b⟩
    · rw [e]
    · rw [Bool.eq_iff_iff, isD_iff, isD_iff]; omega
  have HP1 := hp_at r ⟨#[47, 47]⟩ _ rfl
  have HP2 := hp_at r ⟨#[47, 42]⟩ _ rfl
  rw [show (⟨#[47, 47]⟩ : ByteArray).data.toList = [47, 47] from rfl, pre_two] at HP1
  rw [show (⟨#[47, 42]⟩ : ByteArray).data.toList = [47, 42] from rfl, pre_two] at HP2
  have HPK : Hid (pk r = if (r.get! 0).toNat = 32 ∨ (r.get! 0).toNat = 9 ∨ (r.get! 0).toNat = 13 ∨ (r.get! 0).toNat = 10 then 0
    else if 2 ≤ r.size ∧ r.get! 0 = 47 ∧ r.get! 1 = 47 then 1
    else if 2 ≤ r.size ∧ r.get! 0 = 47 ∧ r.get! 1 = 42 then 2
    else if isD (r.get! 0).toNat = true then 4
    else if isR (r.get! 0).toNat = true then 3
    else if (r.get! 0).toNat = 34 then 5 else 6) := rfl
  obtain ⟨v, d, hvd⟩ : ∃ v d, Utf8.decode r 0 = (v, d) := ⟨_, _, rfl⟩
  rw [hvd] at hdec hv hmax hir hid
  simp only at hdec hv hmax hir hid
  have hvi : (v : Int) ≤ 2147483647 := by omega
  have HD := isDigit_any v
  have HR := isRunRune_any v
  rw [hid] at HD
  rw [hir] at HR
  have HDEC := hide hdec
  obtain ⟨c, hc⟩ : ∃ c, (r.get! 0).toNat = c := ⟨_, rfl⟩
  rw [hc] at hv HPK HD HR
  clear hdec hgo hvd hir hid hT
  by_cases hb : c = 32 ∨ c = 9 ∨ c = 13 ∨ c = 10
  · have HK : Hid (pk r = 0) := by show _ = _; rw [HPK.out, if_pos hb]
    have hvc : v = c := by omega
    clear HP1 HP2 HPK HD HR hv hc
    subst hvc
    rcases hb with rfl | rfl | rfl | rfl
    all_goals
      go_enter Tryd.func91, Tryd.ntmps91
      go_wp2_with fail
      refine HDEC.out.mono ?_
      rintro e w1 ⟨rfl, hb1⟩
      have HB := hide hb1
      clear hb1
      go_wp2
      go_ret
      exact ⟨by rw [HK.out]; rfl, HB.out⟩
  have t1 : ((v : Int) == 32) = false := by rw [beq_eq_false_iff_ne]; omega
  have t2 : ((v : Int) == 9) = false := by rw [beq_eq_false_iff_ne]; omega
  have t3 : ((v : Int) == 13) = false := by rw [beq_eq_false_iff_ne]; omega
  have t4 : ((v : Int) == 10) = false := by rw [beq_eq_false_iff_ne]; omega
  rw [if_neg hb] at HPK
  by_cases hl : 2 ≤ r.size ∧ r.get! 0 = 47 ∧ r.get! 1 = 47
  · have HK : Hid (pk r = 1) := by show _ = _; rw [HPK.out, if_pos hl]
    rw [decide_eq_true hl] at HP1
    have HP1' := hide HP1
    clear HP1 HP2 HPK HD HR hv hc hl hb
    go_enter Tryd.func91, Tryd.ntmps91
    go_wp2_with fail
    refine HDEC.out.mono ?_
    rintro e w1 ⟨rfl, hb1⟩
    have HB := hide hb1
    clear hb1
    go_wp2_with fail
    refine (HP1'.out _).mono ?_
    rintro e w' ⟨rfl, rfl⟩
    go_wp2
    go_ret
    exact ⟨by rw [HK.out]; rfl, HB.out⟩
  rw [decide_eq_false hl] at HP1
  rw [if_neg hl] at HPK
  have HP1' := hide HP1
  by_cases hbk : 2 ≤ r.size ∧ r.get! 0 = 47 ∧ r.get! 1 = 42
  · have HK : Hid (pk r = 2) := by show _ = _; rw [HPK.out, if_pos hbk]
    rw [decide_eq_true hbk] at HP2
    have HP2' := hide HP2
    clear HP1 HP2 HPK HD HR hv hc hl hb hbk
    go_enter Tryd.func91, Tryd.ntmps91
    go_wp2_with fail
    refine HDEC.out.mono ?_
    rintro e w1 ⟨rfl, hb1⟩
    have HB := hide hb1
    clear hb1
    go_wp2_with fail
    refine (HP1'.out _).mono ?_
    rintro e w' ⟨rfl, rfl⟩
    go_wp2_with fail
    refine (HP2'.out _).mono ?_
    rintro e w' ⟨rfl, rfl⟩
    go_wp2
    go_ret
    exact ⟨by rw [HK.out]; rfl, HB.out⟩
  rw [decide_eq_false hbk] at HP2
  rw [if_neg hbk] at HPK
  have HP2' := hide HP2
  have HD' := hide (fun w => HD w hmax)
  have HR' := hide (fun w => HR w hmax)
  clear HP1 HP2 HD HR hl hbk hb hc
  cases hd : isD c with
  | true =>
    have HK : Hid (pk r = 4) := by show _ = _; rw [HPK.out, if_pos hd]
    rw [hd] at HD'
    clear hd hv HPK
    go_enter Tryd.func91, Tryd.ntmps91
    go_wp2_with fail
    refine HDEC.out.mono ?_
    rintro e w1 ⟨rfl, hb1⟩
    have HB := hide hb1
    clear hb1
    go_wp2_with fail
    refine (HP1'.out _).mono ?_
    rintro e w' ⟨rfl, rfl⟩
    go_wp2_with fail
    refine (HP2'.out _).mono ?_
    rintro e w' ⟨rfl, rfl⟩
    go_wp2_with fail
    refine (HD'.out _).mono ?_
    rintro e w' ⟨rfl, rfl⟩
    go_wp2
    go_ret
    exact ⟨by rw [HK.out]; rfl, HB.out⟩
  | false =>
    rw [hd] at HD'
    rw [if_neg (by rw [hd]; decide)] at HPK
    clear hd
    cases hr : isR c with
    | true =>
      have HK : Hid (pk r = 3) := by show _ = _; rw [HPK.out, if_pos hr]
      rw [hr] at HR'
      clear hr hv HPK
      go_enter Tryd.func91, Tryd.ntmps91
      go_wp2_with fail
      refine HDEC.out.mono ?_
      rintro e w1 ⟨rfl, hb1⟩
      have HB := hide hb1
      clear hb1
      go_wp2_with fail
      refine (HP1'.out _).mono ?_
      rintro e w' ⟨rfl, rfl⟩
      go_wp2_with fail
      refine (HP2'.out _).mono ?_
      rintro e w' ⟨rfl, rfl⟩
      go_wp2_with fail
      refine (HD'.out _).mono ?_
      rintro e w' ⟨rfl, rfl⟩
      go_wp2_with fail
      refine (HR'.out _).mono ?_
      rintro e w' ⟨rfl, rfl⟩
      go_wp2
      go_ret
      exact ⟨by rw [HK.out]; rfl, HB.out⟩
    | false =>
      rw [hr] at HR'
      rw [if_neg (by rw [hr]; decide)] at HPK
      clear hr
      by_cases h34 : c = 34
      · have HK : Hid (pk r = 5) := by show _ = _; rw [HPK.out, if_pos h34]
        have t5 : ((v : Int) == 34) = true := by rw [beq_iff_eq]; omega
        clear hv HPK h34
        go_enter Tryd.func91, Tryd.ntmps91
        go_wp2_with fail
        refine HDEC.out.mono ?_
        rintro e w1 ⟨rfl, hb1⟩
        have HB := hide hb1
        clear hb1
        go_wp2_with fail
        refine (HP1'.out _).mono ?_
        rintro e w' ⟨rfl, rfl⟩
        go_wp2_with fail
        refine (HP2'.out _).mono ?_
        rintro e w' ⟨rfl, rfl⟩
        go_wp2_with fail
        refine (HD'.out _).mono ?_
        rintro e w' ⟨rfl, rfl⟩
        go_wp2_with fail
        refine (HR'.out _).mono ?_
        rintro e w' ⟨rfl, rfl⟩
        go_wp2
        go_ret
        exact ⟨by rw [HK.out]; rfl, HB.out⟩
      · have HK : Hid (pk r = 6) := by show _ = _; rw [HPK.out, if_neg h34]
        have t5 : ((v : Int) == 34) = false := by rw [beq_eq_false_iff_ne]; omega
        clear hv HPK h34
        go_enter Tryd.func91, Tryd.ntmps91
        go_wp2_with fail
        refine HDEC.out.mono ?_
        rintro e w1 ⟨rfl, hb1⟩
        have HB := hide hb1
        clear hb1
        go_wp2_with fail
        refine (HP1'.out _).mono ?_
        rintro e w' ⟨rfl, rfl⟩
        go_wp2_with fail
        refine (HP2'.out _).mono ?_
        rintro e w' ⟨rfl, rfl⟩
        go_wp2_with fail
        refine (HD'.out _).mono ?_
        rintro e w' ⟨rfl, rfl⟩
        go_wp2_with fail
        refine (HR'.out _).mono ?_
        rintro e w' ⟨rfl, rfl⟩
        go_wp2
        go_ret
        exact ⟨by rw [HK.out]; rfl, HB.out⟩
end Go.Proofs.YtdlahabeegmjiaaDoor

namespace Go.Proofs.YtdlahabeegmjiaaDoor
open Go.RowKit

theorem isW_or (s : ByteArray) : isW s = wl.any (fun l => s.toList == l) := by
  unfold isW
  rw [Bool.eq_iff_iff, List.contains_iff_mem, List.any_eq_true]
  constructor
  · intro h; exact ⟨_, h, by simp⟩
  · rintro ⟨l, h1, h2⟩; rw [eq_of_beq h2]; exact h1

set_option maxHeartbeats 4000000 in
set_option maxRecDepth 1000000 in
theorem implWord_any (s : ByteArray) (w : World) :
    Calls Tryd.prog 93 #[.string s] w fun e w' => e = .returned (.bool (isW s)) ∧ w' = w := by
  have HI := hide (isW_or s)
  generalize isW s = W at *
  go_enter Tryd.func93, Tryd.ntmps93
  go_wp2
  all_goals go_ret
  all_goals refine ⟨ret_bool ?_, rfl⟩
  all_goals rw [HI.out]
  all_goals simp only [wl, List.any_cons, List.any_nil]
  all_goals simp_all only [Bool.true_or, Bool.or_true, Bool.or_false, Bool.false_eq_true]
end Go.Proofs.YtdlahabeegmjiaaDoor

namespace Go.Proofs.YtdlahabeegmjiaaDoor
open Go.RowKit

set_option maxHeartbeats 1000000 in
set_option maxRecDepth 1000000 in
theorem pieceKind_nil (w : World) (hT : Lib.Utf8Tabs 0 1 w) :
    Calls Tryd.prog 91 #[.string ByteArray.empty] w fun e w' => e = .returned (.int .i64 6) ∧ Below w.heap.size w w' := by
  have hd : Lib.decodeGo ByteArray.empty = (65533, 0) := rfl
  have hdec := Tryd.utf8_DecodeRuneInString ByteArray.empty w hT
  rw [hd] at hdec
  have HD := hide hdec
  have H1 := hide (fun w => hp_at ByteArray.empty ⟨#[47, 47]⟩ false rfl w)
  have H2 := hide (fun w => hp_at ByteArray.empty ⟨#[47, 42]⟩ false rfl w)
  have hD : isD 65533 = false := rfl
  have hR : isR 65533 = false := rfl
  have h3 := fun w => isDigit_any 65533 w (by omega)
  have h4 := fun w => isRunRune_any 65533 w (by omega)
  simp only [hD] at h3
  simp only [hR] at h4
  have H3 := hide h3
  have H4 := hide h4
  clear h3 h4 hD hR
  clear hdec hd hT
  go_enter Tryd.func91, Tryd.ntmps91
  go_wp2_with fail
  refine HD.out.mono ?_
  rintro e w1 ⟨rfl, hb1⟩
  have HB := hide hb1
  clear hb1
  go_wp2_with fail
  refine (H1.out _).mono ?_
  rintro e w2 ⟨rfl, rfl⟩
  go_wp2_with fail
  refine (H2.out _).mono ?_
  rintro e w3 ⟨rfl, rfl⟩
  go_wp2_with fail
  refine (H3.out _).mono ?_
  rintro e w4 ⟨rfl, rfl⟩
  go_wp2_with fail
  refine (H4.out _).mono ?_
  rintro e w5 ⟨rfl, rfl⟩
  go_wp2
  go_ret
  exact ⟨rfl, HB.out⟩

/-- Whether a text is a name. -/
def vNm (s : ByteArray) : Bool := decide (s.size ≤ 30) && (decide (0 < s.size) && (pk s == 3 && (run s 0 == s.size && !isW s)))
theorem nat_beq (a b : Nat) : (((a : Nat) : Int) == ((b : Nat) : Int)) = (a == b) := by
  by_cases h : a = b
  · subst h; simp
  · rw [beq_eq_false_iff_ne.2 h, beq_eq_false_iff_ne]; omega
set_option maxHeartbeats 1000000 in
set_option maxRecDepth 1000000 in
theorem validName_any (v : Value) (s : ByteArray) (w : World) (hv : BS w v s) (hl : s.size ≤ 1048576) (hT : Lib.Utf8Tabs 0 1 w) :
    Calls Tryd.prog 80 #[v] w fun e w' => e = .returned (.bool (vNm s)) ∧ Below w.heap.size w w' := by
  have hcv := toStr_bs hv
  have HT := hide hT
  obtain ⟨a, _, _, c, rfl, _, _⟩ := hv
  clear hT
  by_cases h30 : s.size ≤ 30
  · have d1 : decide ((30 : Int) < (s.size : Int)) = false := decide_eq_false (by omega)
    by_cases h0 : s.size = 0
    · have e : s = ByteArray.empty := ext_bytes h0 (fun j hj => by omega)
      have HN : Hid (vNm s = false) := by show _ = _; unfold vNm; rw [decide_eq_false (show ¬ 0 < s.size by omega), Bool.false_and, Bool.and_false]
      have HP := hide (pieceKind_nil w HT.out)
      rw [← e] at HP
      clear e h0
      go_enter Tryd.func80, Tryd.ntmps80
      go_wp2_with fail
      refine HP.out.mono ?_
      rintro e w1 ⟨rfl, hb1⟩
      have HB := hide hb1
      clear hb1 hcv
      go_wp2
      go_ret
      exact ⟨by rw [HN.out]; rfl, HB.out⟩
    · have HN : Hid (vNm s = (pk s == 3 && (run s 0 == s.size && !isW s))) := by show _ = _; unfold vNm; rw [decide_eq_true h30, decide_eq_true (show 0 < s.size by omega), Bool.true_and, Bool.true_and]
      have HP := hide (pieceKind_any s w (by omega) HT.out)
      obtain ⟨P, hP⟩ : ∃ P, pk s = P := ⟨_, rfl⟩
      rw [hP] at HN HP
      by_cases c1 : P = 3
      · subst c1
        have HR := hide (fun w => runSize_any s w hl)
        obtain ⟨R, hR⟩ : ∃ R, run s 0 = R := ⟨_, rfl⟩
        simp only [hR] at HN HR
        by_cases c2 : R = s.size
        · have e2 : ((R : Int) == (s.size : Int)) = true := by rw [nat_beq, beq_iff_eq]; exact c2
          have HN2 : Hid (vNm s = !isW s) := by show _ = _; rw [HN.out, beq_iff_eq.2 c2]; rfl
          have HW := hide (fun w => implWord_any s w)
          obtain ⟨B, hB⟩ : ∃ B, isW s = B := ⟨_, rfl⟩
          simp only [hB] at HN2 HW
          clear h0 c2 HN hP hR hB
          go_enter Tryd.func80, Tryd.ntmps80
          go_wp2_with fail
          refine HP.out.mono ?_
          rintro e w1 ⟨rfl, hb1⟩
          have HB1 := hide hb1
          clear hb1 hcv
          go_wp2_with fail
          refine (HR.out _).mono ?_
          rintro e w2 ⟨rfl, hb2⟩
          have HB2 : Hid (Below w.heap.size w w2) := HB1.out.trans (hb2.mono HB1.out.size)
          clear hb2
          go_wp2_with fail
          refine (HW.out _).mono ?_
          rintro e w3 ⟨rfl, rfl⟩
          go_wp2
          go_ret
          exact ⟨by rw [HN2.out]; rfl, HB2.out⟩
        · have e2 : ((R : Int) == (s.size : Int)) = false := by rw [nat_beq, beq_eq_false_iff_ne]; exact c2
          have HN2 : Hid (vNm s = false) := by show _ = _; rw [HN.out, beq_eq_false_iff_ne.2 c2]; rfl
          clear h0 c2 HN hP hR
          go_enter Tryd.func80, Tryd.ntmps80
          go_wp2_with fail
          refine HP.out.mono ?_
          rintro e w1 ⟨rfl, hb1⟩
          have HB1 := hide hb1
          clear hb1 hcv
          go_wp2_with fail
          refine (HR.out _).mono ?_
          rintro e w2 ⟨rfl, hb2⟩
          have HB2 : Hid (Below w.heap.size w w2) := HB1.out.trans (hb2.mono HB1.out.size)
          clear hb2
          go_wp2
          go_ret
          exact ⟨by rw [HN2.out]; rfl, HB2.out⟩
      · have e1 : ((P : Int) == 3) = false := by rw [beq_eq_false_iff_ne]; omega
        have HN2 : Hid (vNm s = false) := by show _ = _; rw [HN.out, beq_eq_false_iff_ne.2 c1]; rfl
        clear h0 c1 HN hP
        go_enter Tryd.func80, Tryd.ntmps80
        go_wp2_with fail
        refine HP.out.mono ?_
        rintro e w1 ⟨rfl, hb1⟩
        have HB1 := hide hb1
        clear hb1 hcv
        go_wp2
        go_ret
        exact ⟨by rw [HN2.out]; rfl, HB1.out⟩
  · have d1 : decide ((30 : Int) < (s.size : Int)) = true := decide_eq_true (by omega)
    have HN : Hid (vNm s = false) := by show _ = _; unfold vNm; rw [decide_eq_false h30]; rfl
    go_enter Tryd.func80, Tryd.ntmps80
    go_wp2
    go_ret
    exact ⟨by rw [HN.out]; rfl, Below.refl _ _⟩
end Go.Proofs.YtdlahabeegmjiaaDoor

/-
  The walk of impl.pieceKind.
-/
import Derived.Test.YteojiblglbmmdaaGreatDoorJFTextsIX
namespace Go.Proofs.YteojiblglbmmdaaGreatDoor
open Go.RowKit

theorem hp_at (r p : ByteArray) (b : Bool) (hb : Lib.hasPrefix r.data.toList p.data.toList = b) (w : World) :
    Calls Tryz.prog 31 #[.string r, .string p] w fun e w' => e = .returned (.bool b) ∧ w' = w := by
  rw [← hb]; exact Tryz.strings_HasPrefix r p w

/-- The kind of the piece that begins a text. -/
def pk (r : ByteArray) : Nat :=
  if (r.get! 0).toNat = 32 ∨ (r.get! 0).toNat = 9 ∨ (r.get! 0).toNat = 13 ∨ (r.get! 0).toNat = 10 then 0
  else if 2 ≤ r.size ∧ r.get! 0 = 47 ∧ r.get! 1 = 47 then 1
  else if 2 ≤ r.size ∧ r.get! 0 = 47 ∧ r.get! 1 = 42 then 2
  else if isD (r.get! 0).toNat = true then 4
  else if isR (r.get! 0).toNat = true then 3
  else if (r.get! 0).toNat = 34 then 5 else 6

set_option maxHeartbeats 1000000 in
set_option maxRecDepth 1000000 in
theorem pieceKind_any (r : ByteArray) (w : World) (h1 : 1 ≤ r.size) (hT : Lib.Utf8Tabs 1 2 w) :
    Calls Tryz.prog 34 #[.string r] w fun e w' => e = .returned (.int .i64 (pk r)) ∧ Below w.heap.size w w' := by
  have hdec := Tryz.utf8_DecodeRuneInString r w hT
  have hgo : Lib.decodeGo r = Utf8.decode r 0 := by
    have := decode_extract r 0 (by omega)
    rw [← this]
    congr 1
    refine ext_bytes (by rw [size_ext r 0 (by omega)]; omega) (fun j hj => by rw [get!_extract, Nat.zero_add])
  rw [hgo] at hdec
  have hv : ((r.get! 0).toNat < 128 ∧ (Utf8.decode r 0).1 = (r.get! 0).toNat) ∨ (128 ≤ (r.get! 0).toNat ∧ 128 ≤ (Utf8.decode r 0).1) := by
    by_cases h : (r.get! 0).toNat < 128
    · exact .inl ⟨h, by rw [decode_low h]⟩
    · exact .inr ⟨by omega, decode_high (by omega)⟩
  have hmax := decode_le r 0
  have hir := isR_decode r 0
  have hid : isD (Utf8.decode r 0).1 = isD (r.get! 0).toNat := by
    rcases hv with ⟨_, e⟩ | ⟨a, b⟩
    · rw [e]
    · rw [Bool.eq_iff_iff, isD_iff, isD_iff]; omega
  have HP1 := hp_at r ⟨#[47, 47]⟩ _ rfl
  have HP2 := hp_at r ⟨#[47, 42]⟩ _ rfl
  rw [show (⟨#[47, 47]⟩ : ByteArray).data.toList = [47, 47] from rfl, pre_two] at HP1
  rw [show (⟨#[47, 42]⟩ : ByteArray).data.toList = [47, 42] from rfl, pre_two] at HP2
  have HPK : Hid (pk r = if (r.get! 0).toNat = 32 ∨ (r.get! 0).toNat = 9 ∨ (r.get! 0).toNat = 13 ∨ (r.get! 0).toNat = 10 then 0
    else if 2 ≤ r.size ∧ r.get! 0 = 47 ∧ r.get! 1 = 47 then 1
    else if 2 ≤ r.size ∧ r.get! 0 = 47 ∧ r.get! 1 = 42 then 2
    else if isD (r.get! 0).toNat = true then 4
    else if isR (r.get! 0).toNat = true then 3
    else if (r.get! 0).toNat = 34 then 5 else 6) := rfl
  obtain ⟨v, d, hvd⟩ : ∃ v d, Utf8.decode r 0 = (v, d) := ⟨_, _, rfl⟩
  rw [hvd] at hdec hv hmax hir hid
  simp only at hdec hv hmax hir hid
  have hvi : (v : Int) ≤ 2147483647 := by omega
  have HD := isDigit_any v
  have HR := isRunRune_any v
  rw [hid] at HD
  rw [hir] at HR
  have HDEC := hide hdec
  obtain ⟨c, hc⟩ : ∃ c, (r.get! 0).toNat = c := ⟨_, rfl⟩
  rw [hc] at hv HPK HD HR
  clear hdec hgo hvd hir hid hT
  by_cases hb : c = 32 ∨ c = 9 ∨ c = 13 ∨ c = 10
  · have HK : Hid (pk r = 0) := by show _ = _; rw [HPK.out, if_pos hb]
    have hvc : v = c := by omega
    clear HP1 HP2 HPK HD HR hv hc
    subst hvc
    rcases hb with rfl | rfl | rfl | rfl
    all_goals
      go_enter Tryz.func34, Tryz.ntmps34
      go_wp2_with fail
      refine HDEC.out.mono ?_
      rintro e w1 ⟨rfl, hb1⟩
      have HB := hide hb1
      clear hb1
      go_wp2
      go_ret
      exact ⟨by rw [HK.out]; rfl, HB.out⟩
  have t1 : ((v : Int) == 32) = false := by rw [beq_eq_false_iff_ne]; omega
  have t2 : ((v : Int) == 9) = false := by rw [beq_eq_false_iff_ne]; omega
  have t3 : ((v : Int) == 13) = false := by rw [beq_eq_false_iff_ne]; omega
  have t4 : ((v : Int) == 10) = false := by rw [beq_eq_false_iff_ne]; omega
  rw [if_neg hb] at HPK
  by_cases hl : 2 ≤ r.size ∧ r.get! 0 = 47 ∧ r.get! 1 = 47
  · have HK : Hid (pk r = 1) := by show _ = _; rw [HPK.out, if_pos hl]
    rw [decide_eq_true hl] at HP1
    have HP1' := hide HP1
    clear HP1 HP2 HPK HD HR hv hc hl hb
    go_enter Tryz.func34, Tryz.ntmps34
    go_wp2_with fail
    refine HDEC.out.mono ?_
    rintro e w1 ⟨rfl, hb1⟩
    have HB := hide hb1
    clear hb1
    go_wp2_with fail
    refine (HP1'.out _).mono ?_
    rintro e w' ⟨rfl, rfl⟩
    go_wp2
    go_ret
    exact ⟨by rw [HK.out]; rfl, HB.out⟩
  rw [decide_eq_false hl] at HP1
  rw [if_neg hl] at HPK
  have HP1' := hide HP1
  by_cases hbk : 2 ≤ r.size ∧ r.get! 0 = 47 ∧ r.get! 1 = 42
  · have HK : Hid (pk r = 2) := by show _ = _; rw [HPK.out, if_pos hbk]
    rw [decide_eq_true hbk] at HP2
    have HP2' := hide HP2
    clear HP1 HP2 HPK HD HR hv hc hl hb hbk
    go_enter Tryz.func34, Tryz.ntmps34
    go_wp2_with fail
    refine HDEC.out.mono ?_
    rintro e w1 ⟨rfl, hb1⟩
    have HB := hide hb1
    clear hb1
    go_wp2_with fail
    refine (HP1'.out _).mono ?_
    rintro e w' ⟨rfl, rfl⟩
    go_wp2_with fail
    refine (HP2'.out _).mono ?_
    rintro e w' ⟨rfl, rfl⟩
    go_wp2
    go_ret
    exact ⟨by rw [HK.out]; rfl, HB.out⟩
  rw [decide_eq_false hbk] at HP2
  rw [if_neg hbk] at HPK
  have HP2' := hide HP2
  have HD' := hide (fun w => HD w hmax)
  have HR' := hide (fun w => HR w hmax)
  clear HP1 HP2 HD HR hl hbk hb hc
  cases hd : isD c with
  | true =>
    have HK : Hid (pk r = 4) := by show _ = _; rw [HPK.out, if_pos hd]
    rw [hd] at HD'
    clear hd hv HPK
    go_enter Tryz.func34, Tryz.ntmps34
    go_wp2_with fail
    refine HDEC.out.mono ?_
    rintro e w1 ⟨rfl, hb1⟩
    have HB := hide hb1
    clear hb1
    go_wp2_with fail
    refine (HP1'.out _).mono ?_
    rintro e w' ⟨rfl, rfl⟩
    go_wp2_with fail
    refine (HP2'.out _).mono ?_
    rintro e w' ⟨rfl, rfl⟩
    go_wp2_with fail
    refine (HD'.out _).mono ?_
    rintro e w' ⟨rfl, rfl⟩
    go_wp2
    go_ret
    exact ⟨by rw [HK.out]; rfl, HB.out⟩
  | false =>
    rw [hd] at HD'
    rw [if_neg (by rw [hd]; decide)] at HPK
    clear hd
    cases hr : isR c with
    | true =>
      have HK : Hid (pk r = 3) := by show _ = _; rw [HPK.out, if_pos hr]
      rw [hr] at HR'
      clear hr hv HPK
      go_enter Tryz.func34, Tryz.ntmps34
      go_wp2_with fail
      refine HDEC.out.mono ?_
      rintro e w1 ⟨rfl, hb1⟩
      have HB := hide hb1
      clear hb1
      go_wp2_with fail
      refine (HP1'.out _).mono ?_
      rintro e w' ⟨rfl, rfl⟩
      go_wp2_with fail
      refine (HP2'.out _).mono ?_
      rintro e w' ⟨rfl, rfl⟩
      go_wp2_with fail
      refine (HD'.out _).mono ?_
      rintro e w' ⟨rfl, rfl⟩
      go_wp2_with fail
      refine (HR'.out _).mono ?_
      rintro e w' ⟨rfl, rfl⟩
      go_wp2
      go_ret
      exact ⟨by rw [HK.out]; rfl, HB.out⟩
    | false =>
      rw [hr] at HR'
      rw [if_neg (by rw [hr]; decide)] at HPK
      clear hr
      by_cases h34 : c = 34
      · have HK : Hid (pk r = 5) := by show _ = _; rw [HPK.out, if_pos h34]
        have t5 : ((v : Int) == 34) = true := by rw [beq_iff_eq]; omega
        clear hv HPK h34
        go_enter Tryz.func34, Tryz.ntmps34
        go_wp2_with fail
        refine HDEC.out.mono ?_
        rintro e w1 ⟨rfl, hb1⟩
        have HB := hide hb1
        clear hb1
        go_wp2_with fail
        refine (HP1'.out _).mono ?_
        rintro e w' ⟨rfl, rfl⟩
        go_wp2_with fail
        refine (HP2'.out _).mono ?_
        rintro e w' ⟨rfl, rfl⟩
        go_wp2_with fail
        refine (HD'.out _).mono ?_
        rintro e w' ⟨rfl, rfl⟩
        go_wp2_with fail
        refine (HR'.out _).mono ?_
        rintro e w' ⟨rfl, rfl⟩
        go_wp2
        go_ret
        exact ⟨by rw [HK.out]; rfl, HB.out⟩
      · have HK : Hid (pk r = 6) := by show _ = _; rw [HPK.out, if_neg h34]
        have t5 : ((v : Int) == 34) = false := by rw [beq_eq_false_iff_ne]; omega
        clear hv HPK h34
        go_enter Tryz.func34, Tryz.ntmps34
        go_wp2_with fail
        refine HDEC.out.mono ?_
        rintro e w1 ⟨rfl, hb1⟩
        have HB := hide hb1
        clear hb1
        go_wp2_with fail
        refine (HP1'.out _).mono ?_
        rintro e w' ⟨rfl, rfl⟩
        go_wp2_with fail
        refine (HP2'.out _).mono ?_
        rintro e w' ⟨rfl, rfl⟩
        go_wp2_with fail
        refine (HD'.out _).mono ?_
        rintro e w' ⟨rfl, rfl⟩
        go_wp2_with fail
        refine (HR'.out _).mono ?_
        rintro e w' ⟨rfl, rfl⟩
        go_wp2
        go_ret
        exact ⟨by rw [HK.out]; rfl, HB.out⟩
end Go.Proofs.YteojiblglbmmdaaGreatDoor

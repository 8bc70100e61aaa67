/-
  The walk of impl.readEscape.
-/
import Derived.Test.YteojiblglbmmdaaGreatDoorJFTextsP16
import Derived.Test.YteojiblglbmmdaaGreatDoorJFTextsZ
namespace Go.Proofs.YteojiblglbmmdaaGreatDoor
open Go.RowKit

theorem hp_is (r p : ByteArray) (b : Bool) (hb : Lib.hasPrefix r.data.toList p.data.toList = b) (w : World) :
    Calls Tryz.prog 31 #[.string r, .string p] w fun e w' => e = .returned (.bool b) ∧ w' = w := by
  rw [← hb]; exact Tryz.strings_HasPrefix r p w

/-- What an escape reads as: its code point and the bytes that it takes, the backslash too. -/
def rch (r : ByteArray) : Nat × Nat := if (esc r 1).2 = 0 then (0, 0) else (escv r 1, (esc r 1).2 + 1)
theorem rch_no {r : ByteArray} (h : esc r 1 = ([], 0)) : rch r = (0, 0) := by unfold rch; rw [h, if_pos rfl]
theorem rch_yes {r : ByteArray} {l : List Nat} {n v : Nat} (h : esc r 1 = (l, n)) (hn : n ≠ 0) (hv : escv r 1 = v) : rch r = (v, n + 1) := by unfold rch; rw [h, if_neg hn, hv]

set_option maxHeartbeats 1000000 in
set_option maxRecDepth 1000000 in
theorem re_quote (r : ByteArray) (w : World) (h2 : 2 ≤ r.size) (h0 : r.get! 0 = 92) (h1 : r.get! 1 = 34) :
    Calls Tryz.prog 46 #[.string r] w fun e w' => e = .returned (.tuple #[.int .i32 34, .int .i64 2]) ∧ w' = w := by
  have H1 := hide (hp_is r ⟨#[92, 34]⟩ true (by rw [show (⟨#[92, 34]⟩ : ByteArray).data.toList = [92, 34] from rfl, pre_two]; exact decide_eq_true ⟨h2, h0, h1⟩))
  clear h0 h1 h2
  go_enter Tryz.func46, Tryz.ntmps46
  go_wp2_with fail
  refine (H1.out _).mono ?_
  rintro e w' ⟨rfl, rfl⟩
  go_wp2
  go_ret2
  exact ⟨rfl, rfl⟩

set_option maxHeartbeats 1000000 in
set_option maxRecDepth 1000000 in
theorem re_back (r : ByteArray) (w : World) (h2 : 2 ≤ r.size) (h0 : r.get! 0 = 92) (h1 : r.get! 1 = 92) :
    Calls Tryz.prog 46 #[.string r] w fun e w' => e = .returned (.tuple #[.int .i32 92, .int .i64 2]) ∧ w' = w := by
  have H1 := hide (hp_is r ⟨#[92, 34]⟩ false (by rw [show (⟨#[92, 34]⟩ : ByteArray).data.toList = [92, 34] from rfl, pre_two]; exact decide_eq_false (fun g => absurd (h1.symm.trans g.2.2) (by decide))))
  have H2 := hide (hp_is r ⟨#[92, 92]⟩ true (by rw [show (⟨#[92, 92]⟩ : ByteArray).data.toList = [92, 92] from rfl, pre_two]; exact decide_eq_true ⟨h2, h0, h1⟩))
  clear h0 h1 h2
  go_enter Tryz.func46, Tryz.ntmps46
  go_wp2_with fail
  refine (H1.out _).mono ?_
  rintro e w' ⟨rfl, rfl⟩
  go_wp2_with fail
  refine (H2.out _).mono ?_
  rintro e w' ⟨rfl, rfl⟩
  go_wp2
  go_ret2
  exact ⟨rfl, rfl⟩

set_option maxHeartbeats 1000000 in
set_option maxRecDepth 1000000 in
/-- Not opened, not closed, or too many digits. -/
theorem re_none (r t d x : ByteArray) (o c : Bool) (w : World)
    (h1 : Lib.hasPrefix r.data.toList [92, 34] = false) (h2 : Lib.hasPrefix r.data.toList [92, 92] = false)
    (hcp : ∀ w, Calls Tryz.prog 62 #[.string r, .string ⟨#[92, 117, 123]⟩] w fun e w' => e = .returned (.tuple #[.string t, .bool o]) ∧ w' = w)
    (hct : Calls Tryz.prog 63 #[.string t, .string ⟨#[125]⟩] w fun e w' => e = .returned (.tuple #[.string d, .string x, .bool c]) ∧ ∃ n, w' = w.drewN n)
    (hno : o = false ∨ o = true ∧ c = false ∨ o = true ∧ c = true ∧ 6 < d.size) :
    Calls Tryz.prog 46 #[.string r] w fun e w' => e = .returned (.tuple #[.int .i32 0, .int .i64 0]) ∧ ∃ n, w' = w.drewN n := by
  have H1 := hide (hp_is r ⟨#[92, 34]⟩ false h1)
  have H2 := hide (hp_is r ⟨#[92, 92]⟩ false h2)
  have HCP := hide hcp
  have HCT := hide hct
  clear h1 h2 hcp hct
  go_enter Tryz.func46, Tryz.ntmps46
  go_wp2_with fail
  refine (H1.out _).mono ?_
  rintro e w' ⟨rfl, rfl⟩
  go_wp2_with fail
  refine (H2.out _).mono ?_
  rintro e w' ⟨rfl, rfl⟩
  go_wp2_with fail
  refine (HCP.out _).mono ?_
  rintro e w' ⟨rfl, rfl⟩
  go_wp2_with fail
  refine HCT.out.mono ?_
  rintro e w' ⟨rfl, n, rfl⟩
  rcases hno with rfl | ⟨rfl, rfl⟩ | ⟨rfl, rfl, h6⟩
  · go_wp2
    go_ret2
    exact ⟨rfl, n, rfl⟩
  · go_wp2
    go_ret2
    exact ⟨rfl, n, rfl⟩
  · have t6 : decide ((6 : Int) < (d.size : Int)) = true := decide_eq_true (by omega)
    clear h6
    go_wp2
    go_ret2
    exact ⟨rfl, n, rfl⟩

def reRes (ok vr : Bool) (v n : Nat) : Value := match ok, vr with | true, true => .tuple #[.int .i32 v, .int .i64 n] | _, _ => .tuple #[.int .i32 0, .int .i64 0]

set_option maxHeartbeats 1000000 in
set_option maxRecDepth 1000000 in
/-- Opened, closed, at most six bytes between: what ParseUint and ValidRune say. -/
theorem re_some (r t d x : ByteArray) (ok vr : Bool) (v : Nat) (w : World)
    (h1 : Lib.hasPrefix r.data.toList [92, 34] = false) (h2 : Lib.hasPrefix r.data.toList [92, 92] = false)
    (hcp : ∀ w, Calls Tryz.prog 62 #[.string r, .string ⟨#[92, 117, 123]⟩] w fun e w' => e = .returned (.tuple #[.string t, .bool true]) ∧ w' = w)
    (hct : Calls Tryz.prog 63 #[.string t, .string ⟨#[125]⟩] w fun e w' => e = .returned (.tuple #[.string d, .string x, .bool true]) ∧ ∃ n, w' = w.drewN n)
    (h6 : d.size ≤ 6)
    (hpu : ∀ n, Calls Tryz.prog 64 #[.string d, .int .i64 16, .int .i64 32] (w.drewN n) fun e w' => PuEnds ok v e ∧ Below w.heap.size w w')
    (hv : v < 16777216) (hvr : Lib.validRune (v : Int) = vr) :
    Calls Tryz.prog 46 #[.string r] w fun e w' => e = .returned (reRes ok vr v (d.size + 4)) ∧ Below w.heap.size w w' := by
  have H1 := hide (hp_is r ⟨#[92, 34]⟩ false h1)
  have H2 := hide (hp_is r ⟨#[92, 92]⟩ false h2)
  have HCP := hide hcp
  have HCT := hide hct
  have HPU := hide hpu
  have HVR : Hid (∀ w, Calls Tryz.prog 65 #[.int .i32 v] w fun e w' => e = .returned (.bool vr) ∧ w' = w) := fun w => by rw [← hvr]; exact Tryz.utf8_ValidRune v w
  have t6 : decide ((6 : Int) < (d.size : Int)) = false := decide_eq_false (by omega)
  have hvi : (v : Int) < 16777216 := by omega
  clear h1 h2 hcp hct hpu hvr hv
  go_enter Tryz.func46, Tryz.ntmps46
  go_wp2_with fail
  refine (H1.out _).mono ?_
  rintro e w' ⟨rfl, rfl⟩
  go_wp2_with fail
  refine (H2.out _).mono ?_
  rintro e w' ⟨rfl, rfl⟩
  go_wp2_with fail
  refine (HCP.out _).mono ?_
  rintro e w' ⟨rfl, rfl⟩
  go_wp2_with fail
  refine HCT.out.mono ?_
  rintro e w' ⟨rfl, n, rfl⟩
  go_wp2_with fail
  refine (HPU.out n).mono ?_
  rintro e w1 ⟨hpe, hb1⟩
  have HB := hide hb1
  clear hb1
  cases ok with
  | false =>
    obtain ⟨N, rfl⟩ := hpe.2 rfl
    clear hpe
    go_wp2
    go_ret2
    exact ⟨rfl, HB.out⟩
  | true =>
    obtain rfl := hpe.1 rfl
    clear hpe
    go_wp2_with fail
    refine (HVR.out _).mono ?_
    rintro e w' ⟨rfl, rfl⟩
    cases vr with
    | false =>
      go_wp2
      go_ret2
      exact ⟨rfl, HB.out⟩
    | true =>
      go_wp2
      go_ret2
      exact ⟨ret_vi (v := .int .i32 v) (by omega), HB.out⟩
end Go.Proofs.YteojiblglbmmdaaGreatDoor

/-
  The walks of strconv.ParseUint at base 16, 32 bits, at most six bytes.
  The walk of impl.readEscape.
  What impl.readEscape answers.
-/
import Derived.Test.YthoinjddamlapaaGreatDoorJToA16
import Derived.Test.YthoinjddamlapaaGreatDoorJToShelf
import Derived.Test.YthoinjddamlapaaGreatDoorJToZ
namespace Go.Proofs.YthoinjddamlapaaGreatDoor
open Go.RowKit

set_option maxHeartbeats 1000000 in
set_option maxRecDepth 1000000 in
theorem pu16_empty (w : World) : Calls Tryz.prog 91 #[.string ByteArray.empty, .int .i64 16, .int .i64 32] w fun e w' => e = .returned (.tuple #[.int .u64 0, .iface 85 (.int .i64 2)]) ∧ w' = w := by
  have hne : ByteArray.empty.toList.isEmpty = true := by rw [Lib.toList_data]; rfl
  go_enter Tryz.func91, Tryz.ntmps91
  go_wp2
  go_ret2
  exact ⟨rfl, rfl⟩

/-- What strconv.ParseUint answers: a number (ok) or an error. -/
def PuEnds (ok : Bool) (v : Nat) (e : Ending) : Prop := (ok = true → e = .returned (.tuple #[.int .u64 v, .nilIface])) ∧ (ok = false → ∃ N, e = .returned (.tuple #[.int .u64 0, .iface 88 (.pointer (some ⟨N, 0, none⟩))]))

set_option maxHeartbeats 1000000 in
set_option maxRecDepth 1000000 in
theorem parse_bad (s : ByteArray) (w : World) (te : TypeId) (pe : Value) (hs : s.size ≤ 6) (hE : w.cell? ⟨3, 0, none⟩ = some (.iface te pe))
    (hin : Calls Tryz.prog 91 #[.string s, .int .i64 16, .int .i64 32] w fun e w' => e = .returned (.tuple #[.int .u64 0, .iface 85 (.int .i64 2)]) ∧ Below w.heap.size w w') :
    Calls Tryz.prog 88 #[.string s, .int .i64 16, .int .i64 32] w fun e w' => (∃ N, e = .returned (.tuple #[.int .u64 0, .iface 88 (.pointer (some ⟨N, 0, none⟩))])) ∧ Below w.heap.size w w' := by
  have HIN := hide hin
  have HE := hide hE
  have hlt : 3 < w.heap.size := World.block_lt_of_cell? _ _ hE
  clear hin hE
  go_enter Tryz.func88, Tryz.ntmps88
  go_wp2_with fail
  refine HIN.out.mono ?_
  rintro e w1 ⟨rfl, hb1⟩
  have HT := hide (fun fn => Tryz.strconv_toError_syntax fn s 16 32 (.iface te pe) w1 (by omega) (by rw [hb1.cell (p := ⟨3, 0, none⟩) hlt]; exact HE.out) (.inr ⟨te, pe, rfl⟩))
  have HB1 := hide hb1
  have HS := hide hb1.size
  clear hb1
  go_wp2_with fail
  refine (HT.out _).mono ?_
  rintro e w2 ⟨N, rfl, hN, hcells, hb2⟩
  have HB2 : Hid (Below w.heap.size w w2) := HB1.out.trans (hb2.mono HS.out)
  clear hcells hb2
  go_wp2
  go_ret2
  exact ⟨⟨N, rfl⟩, HB2.out⟩

set_option maxHeartbeats 1000000 in
set_option maxRecDepth 1000000 in
theorem parse_good (s : ByteArray) (w : World) (v : Nat)
    (hin : Calls Tryz.prog 91 #[.string s, .int .i64 16, .int .i64 32] w fun e w' => e = .returned (.tuple #[.int .u64 v, .nilIface]) ∧ Below w.heap.size w w') :
    Calls Tryz.prog 88 #[.string s, .int .i64 16, .int .i64 32] w fun e w' => e = .returned (.tuple #[.int .u64 v, .nilIface]) ∧ Below w.heap.size w w' := by
  have HIN := hide hin
  clear hin
  go_enter Tryz.func88, Tryz.ntmps88
  go_wp2_with fail
  refine HIN.out.mono ?_
  rintro e w1 ⟨rfl, hb1⟩
  have HB1 := hide hb1
  clear hb1
  go_wp2
  go_ret2
  exact ⟨rfl, HB1.out⟩

/-- At most six bytes: the number that they write if they are digits alone, at least one; else an error. -/
theorem parse_any (s : ByteArray) (w : World) (te : TypeId) (pe : Value) (h6 : s.size ≤ 6) (hE : w.cell? ⟨3, 0, none⟩ = some (.iface te pe)) (ok : Bool) (hok : ok = true ↔ 0 < s.size ∧ ∀ j, j < s.size → 0 ≤ hd (s.get! j).toNat) :
    Calls Tryz.prog 88 #[.string s, .int .i64 16, .int .i64 32] w fun e w' => PuEnds ok (hv s 0 s.size) e ∧ Below w.heap.size w w' := by
  cases ok with
  | true =>
    obtain ⟨h0, hall⟩ := hok.1 rfl
    have h := pu16_any s w s.size h0 h6 (Nat.le_refl _) hall (.inl rfl)
    refine (parse_good s w (hv s 0 s.size) (h.mono ?_)).mono ?_
    · rintro e w' ⟨rfl, hb⟩; exact ⟨by rw [puRes_ok rfl rfl rfl], hb⟩
    · rintro e w' ⟨rfl, hb⟩; exact ⟨⟨fun _ => rfl, fun g => absurd g (by decide)⟩, hb⟩
  | false =>
    refine (parse_bad s w te pe h6 hE ?_).mono ?_
    · by_cases h0 : s.size = 0
      · have e : s = ByteArray.empty := ext_bytes h0 (fun j hj => by omega)
        rw [e]
        refine (pu16_empty w).mono ?_
        rintro e w' ⟨rfl, rfl⟩
        exact ⟨rfl, Below.refl _ _⟩
      · have hex : ∃ j, j < s.size ∧ hd (s.get! j).toNat = -1 := by
          refine Classical.byContradiction fun g => ?_
          have : false = true := hok.2 ⟨by omega, fun j hj => by
            have h1 := hd_lt (s.get! j).toNat
            have h2 : ¬ hd (s.get! j).toNat = -1 := fun e => g ⟨j, hj, e⟩
            omega⟩
          cases this
        have hfirst : ∃ j, (j < s.size ∧ hd (s.get! j).toNat = -1) ∧ ∀ k, k < j → 0 ≤ hd (s.get! k).toNat := by
          obtain ⟨j, hj, e⟩ := hex
          induction j using Nat.strongRecOn with
          | _ j ih =>
            by_cases g : ∃ k, k < j ∧ hd (s.get! k).toNat = -1
            · obtain ⟨k, hk, ek⟩ := g
              exact ih k hk (by omega) ek
            · refine ⟨j, ⟨hj, e⟩, fun k hk => ?_⟩
              have h1 := hd_lt (s.get! k).toNat
              have h2 : ¬ hd (s.get! k).toNat = -1 := fun e => g ⟨k, hk, e⟩
              omega
        obtain ⟨j, ⟨hj, e⟩, hb⟩ := hfirst
        refine (pu16_any s w j (by omega) h6 (by omega) hb (.inr e)).mono ?_
        rintro e w' ⟨rfl, hb⟩
        exact ⟨by rw [puRes_no (by omega)], hb⟩
    · rintro e w' ⟨h, hb⟩; exact ⟨⟨fun g => absurd g (by decide), fun _ => h⟩, hb⟩
end Go.Proofs.YthoinjddamlapaaGreatDoor

namespace Go.Proofs.YthoinjddamlapaaGreatDoor
open Go.RowKit

theorem hp_is (r p : ByteArray) (b : Bool) (hb : Lib.hasPrefix r.data.toList p.data.toList = b) (w : World) :
    Calls Tryz.prog 42 #[.string r, .string p] w fun e w' => e = .returned (.bool b) ∧ w' = w := by
  rw [← hb]; exact Tryz.strings_HasPrefix r p w

/-- What an escape reads as: its code point and the bytes that it takes, the backslash too. -/
def rch (r : ByteArray) : Nat × Nat := if (esc r 1).2 = 0 then (0, 0) else (escv r 1, (esc r 1).2 + 1)
theorem rch_no {r : ByteArray} (h : esc r 1 = ([], 0)) : rch r = (0, 0) := by unfold rch; rw [h, if_pos rfl]
theorem rch_yes {r : ByteArray} {l : List Nat} {n v : Nat} (h : esc r 1 = (l, n)) (hn : n ≠ 0) (hv : escv r 1 = v) : rch r = (v, n + 1) := by unfold rch; rw [h, if_neg hn, hv]

set_option maxHeartbeats 1000000 in
set_option maxRecDepth 1000000 in
theorem re_quote (r : ByteArray) (w : World) (h2 : 2 ≤ r.size) (h0 : r.get! 0 = 92) (h1 : r.get! 1 = 34) :
    Calls Tryz.prog 73 #[.string r] w fun e w' => e = .returned (.tuple #[.int .i32 34, .int .i64 2]) ∧ w' = w := by
  have H1 := hide (hp_is r ⟨#[92, 34]⟩ true (by rw [show (⟨#[92, 34]⟩ : ByteArray).data.toList = [92, 34] from rfl, pre_two]; exact decide_eq_true ⟨h2, h0, h1⟩))
  clear h0 h1 h2
  go_enter Tryz.func73, Tryz.ntmps73
  go_wp2_with fail
  refine (H1.out _).mono ?_
  rintro e w' ⟨rfl, rfl⟩
  go_wp2
  go_ret2
  exact ⟨rfl, rfl⟩

set_option maxHeartbeats 1000000 in
set_option maxRecDepth 1000000 in
theorem re_back (r : ByteArray) (w : World) (h2 : 2 ≤ r.size) (h0 : r.get! 0 = 92) (h1 : r.get! 1 = 92) :
    Calls Tryz.prog 73 #[.string r] w fun e w' => e = .returned (.tuple #[.int .i32 92, .int .i64 2]) ∧ w' = w := by
  have H1 := hide (hp_is r ⟨#[92, 34]⟩ false (by rw [show (⟨#[92, 34]⟩ : ByteArray).data.toList = [92, 34] from rfl, pre_two]; exact decide_eq_false (fun g => absurd (h1.symm.trans g.2.2) (by decide))))
  have H2 := hide (hp_is r ⟨#[92, 92]⟩ true (by rw [show (⟨#[92, 92]⟩ : ByteArray).data.toList = [92, 92] from rfl, pre_two]; exact decide_eq_true ⟨h2, h0, h1⟩))
  clear h0 h1 h2
  go_enter Tryz.func73, Tryz.ntmps73
  go_wp2_with fail
  refine (H1.out _).mono ?_
  rintro e w' ⟨rfl, rfl⟩
  go_wp2_with fail
  refine (H2.out _).mono ?_
  rintro e w' ⟨rfl, rfl⟩
  go_wp2
  go_ret2
  exact ⟨rfl, rfl⟩

set_option maxHeartbeats 1000000 in
set_option maxRecDepth 1000000 in
/-- Not opened, not closed, or too many digits. -/
theorem re_none (r t d x : ByteArray) (o c : Bool) (w : World)
    (h1 : Lib.hasPrefix r.data.toList [92, 34] = false) (h2 : Lib.hasPrefix r.data.toList [92, 92] = false)
    (hcp : ∀ w, Calls Tryz.prog 86 #[.string r, .string ⟨#[92, 117, 123]⟩] w fun e w' => e = .returned (.tuple #[.string t, .bool o]) ∧ w' = w)
    (hct : Calls Tryz.prog 87 #[.string t, .string ⟨#[125]⟩] w fun e w' => e = .returned (.tuple #[.string d, .string x, .bool c]) ∧ ∃ n, w' = w.drewN n)
    (hno : o = false ∨ o = true ∧ c = false ∨ o = true ∧ c = true ∧ 6 < d.size) :
    Calls Tryz.prog 73 #[.string r] w fun e w' => e = .returned (.tuple #[.int .i32 0, .int .i64 0]) ∧ ∃ n, w' = w.drewN n := by
  have H1 := hide (hp_is r ⟨#[92, 34]⟩ false h1)
  have H2 := hide (hp_is r ⟨#[92, 92]⟩ false h2)
  have HCP := hide hcp
  have HCT := hide hct
  clear h1 h2 hcp hct
  go_enter Tryz.func73, Tryz.ntmps73
  go_wp2_with fail
  refine (H1.out _).mono ?_
  rintro e w' ⟨rfl, rfl⟩
  go_wp2_with fail
  refine (H2.out _).mono ?_
  rintro e w' ⟨rfl, rfl⟩
  go_wp2_with fail
  refine (HCP.out _).mono ?_
  rintro e w' ⟨rfl, rfl⟩
  go_wp2_with fail
  refine HCT.out.mono ?_
  rintro e w' ⟨rfl, n, rfl⟩
  rcases hno with rfl | ⟨rfl, rfl⟩ | ⟨rfl, rfl, h6⟩
  · go_wp2
    go_ret2
    exact ⟨rfl, n, rfl⟩
  · go_wp2
    go_ret2
    exact ⟨rfl, n, rfl⟩
  · have t6 : decide ((6 : Int) < (d.size : Int)) = true := decide_eq_true (by omega)
    clear h6
    go_wp2
    go_ret2
    exact ⟨rfl, n, rfl⟩

def reRes (ok vr : Bool) (v n : Nat) : Value := match ok, vr with | true, true => .tuple #[.int .i32 v, .int .i64 n] | _, _ => .tuple #[.int .i32 0, .int .i64 0]

set_option maxHeartbeats 1000000 in
set_option maxRecDepth 1000000 in
/-- Opened, closed, at most six bytes between: what ParseUint and ValidRune say. -/
theorem re_some (r t d x : ByteArray) (ok vr : Bool) (v : Nat) (w : World)
    (h1 : Lib.hasPrefix r.data.toList [92, 34] = false) (h2 : Lib.hasPrefix r.data.toList [92, 92] = false)
    (hcp : ∀ w, Calls Tryz.prog 86 #[.string r, .string ⟨#[92, 117, 123]⟩] w fun e w' => e = .returned (.tuple #[.string t, .bool true]) ∧ w' = w)
    (hct : Calls Tryz.prog 87 #[.string t, .string ⟨#[125]⟩] w fun e w' => e = .returned (.tuple #[.string d, .string x, .bool true]) ∧ ∃ n, w' = w.drewN n)
    (h6 : d.size ≤ 6)
    (hpu : ∀ n, Calls Tryz.prog 88 #[.string d, .int .i64 16, .int .i64 32] (w.drewN n) fun e w' => PuEnds ok v e ∧ Below w.heap.size w w')
    (hv : v < 16777216) (hvr : Lib.validRune (v : Int) = vr) :
    Calls Tryz.prog 73 #[.string r] w fun e w' => e = .returned (reRes ok vr v (d.size + 4)) ∧ Below w.heap.size w w' := by
  have H1 := hide (hp_is r ⟨#[92, 34]⟩ false h1)
  have H2 := hide (hp_is r ⟨#[92, 92]⟩ false h2)
  have HCP := hide hcp
  have HCT := hide hct
  have HPU := hide hpu
  have HVR : Hid (∀ w, Calls Tryz.prog 89 #[.int .i32 v] w fun e w' => e = .returned (.bool vr) ∧ w' = w) := fun w => by rw [← hvr]; exact Tryz.utf8_ValidRune v w
  have t6 : decide ((6 : Int) < (d.size : Int)) = false := decide_eq_false (by omega)
  have hvi : (v : Int) < 16777216 := by omega
  clear h1 h2 hcp hct hpu hvr hv
  go_enter Tryz.func73, Tryz.ntmps73
  go_wp2_with fail
  refine (H1.out _).mono ?_
  rintro e w' ⟨rfl, rfl⟩
  go_wp2_with fail
  refine (H2.out _).mono ?_
  rintro e w' ⟨rfl, rfl⟩
  go_wp2_with fail
  refine (HCP.out _).mono ?_
  rintro e w' ⟨rfl, rfl⟩
  go_wp2_with fail
  refine HCT.out.mono ?_
  rintro e w' ⟨rfl, n, rfl⟩
  go_wp2_with fail
  refine (HPU.out n).mono ?_
  rintro e w1 ⟨hpe, hb1⟩
  have HB := hide hb1
  clear hb1
  cases ok with
  | false =>
    obtain ⟨N, rfl⟩ := hpe.2 rfl
    clear hpe
    go_wp2
    go_ret2
    exact ⟨rfl, HB.out⟩
  | true =>
    obtain rfl := hpe.1 rfl
    clear hpe
    go_wp2_with fail
    refine (HVR.out _).mono ?_
    rintro e w' ⟨rfl, rfl⟩
    cases vr with
    | false =>
      go_wp2
      go_ret2
      exact ⟨rfl, HB.out⟩
    | true =>
      go_wp2
      go_ret2
      exact ⟨ret_vi (v := .int .i32 v) (by omega), HB.out⟩
end Go.Proofs.YthoinjddamlapaaGreatDoor

namespace Go.Proofs.YthoinjddamlapaaGreatDoor
open Go.RowKit

theorem below_dn (w : World) (n : Nat) : Below w.heap.size w (w.drewN n) := ⟨rfl, rfl, rfl, Nat.le_refl _, fun _ _ => rfl⟩
theorem byte_ne {a b : UInt8} (h : a ≠ b) : a.toNat ≠ b.toNat := fun e => h (UInt8.toNat_inj.1 e)

theorem re_any (r : ByteArray) (w : World) (m : Int) (te : TypeId) (pe : Value) (hs : r.size ≤ 1048576) (h1 : 1 ≤ r.size) (h0 : r.get! 0 = 92)
    (hM : w.cell? ⟨2, 0, none⟩ = some (.int .i64 m)) (hE : w.cell? ⟨3, 0, none⟩ = some (.iface te pe)) :
    Calls Tryz.prog 73 #[.string r] w fun e w' => e = .returned (.tuple #[.int .i32 (rch r).1, .int .i64 (rch r).2]) ∧ Below w.heap.size w w' := by
  by_cases hq : 2 ≤ r.size ∧ r.get! 1 = 34
  · have e : rch r = (34, 2) := by
      refine rch_yes (l := [34]) (n := 1) ?_ (by decide) ?_
      · unfold esc; rw [if_neg (by omega), hq.2]; rfl
      · unfold escv; rw [hq.2]; rfl
    rw [e]
    refine (re_quote r w hq.1 h0 hq.2).mono ?_
    rintro e w' ⟨rfl, rfl⟩
    exact ⟨rfl, Below.refl _ _⟩
  by_cases hb : 2 ≤ r.size ∧ r.get! 1 = 92
  · have e : rch r = (92, 2) := by
      refine rch_yes (l := [92]) (n := 1) ?_ (by decide) ?_
      · unfold esc; rw [if_neg (by omega), hb.2]; rfl
      · unfold escv; rw [hb.2]; rfl
    rw [e]
    refine (re_back r w hb.1 h0 hb.2).mono ?_
    rintro e w' ⟨rfl, rfl⟩
    exact ⟨rfl, Below.refl _ _⟩
  have p1 : Lib.hasPrefix r.data.toList [92, 34] = false := by rw [pre_two]; exact decide_eq_false (fun g => hq ⟨g.1, g.2.2⟩)
  have p2 : Lib.hasPrefix r.data.toList [92, 92] = false := by rw [pre_two]; exact decide_eq_false (fun g => hb ⟨g.1, g.2.2⟩)
  have p3 := pre_three r 92 117 123
  have hcp := fun w => Tryz.strings_CutPrefix r ⟨#[92, 117, 123]⟩ w
  have done : ∀ {e w'}, rch r = (0, 0) → (e = Ending.returned (.tuple #[.int .i32 0, .int .i64 0]) ∧ ∃ n, w' = w.drewN n) → e = .returned (.tuple #[.int .i32 (rch r).1, .int .i64 (rch r).2]) ∧ Below w.heap.size w w' := by
    rintro e w' hr ⟨rfl, n, rfl⟩
    rw [hr]
    exact ⟨rfl, below_dn _ n⟩
  by_cases ho : 3 ≤ r.size ∧ r.get! 0 = 92 ∧ r.get! 1 = 117 ∧ r.get! 2 = 123
  · have po : Lib.hasPrefix r.data.toList (⟨#[92, 117, 123]⟩ : ByteArray).data.toList = true := by show Lib.hasPrefix r.data.toList [92, 117, 123] = true; rw [p3]; exact decide_eq_true ho
    have pr := Lib.hasPrefix_raw r ⟨#[92, 117, 123]⟩
    rw [po, Bool.and_eq_true] at pr
    have et := Lib.trimPrefix_hit r ⟨#[92, 117, 123]⟩ (of_decide_eq_true pr.1) pr.2
    rw [et, po] at hcp
    clear et pr po
    have e3 : (⟨#[92, 117, 123]⟩ : ByteArray).size = 3 := rfl
    rw [e3] at hcp
    obtain ⟨t, ht⟩ : ∃ t, r.extract 3 r.size = t := ⟨_, rfl⟩
    have htz : t.size = r.size - 3 := by rw [← ht]; exact size_ext r 3 ho.1
    have htg : ∀ k, t.get! k = r.get! (3 + k) := fun k => by rw [← ht, get!_extract]
    rw [ht] at hcp
    have hct := Tryz.strings_Cut t ⟨#[125]⟩ m w (by omega) hM
    have h117 : (r.get! 1).toNat = 117 := by rw [ho.2.2.1]; rfl
    have h123 : (r.get! (1 + 1)).toNat = 123 := by show (r.get! 2).toNat = 123; rw [ho.2.2.2]; rfl
    rcases cut_one t 125 with ⟨d, hd1, hd2, hd3, hd4, hd5⟩ | ⟨hn1, hn2⟩
    · have hct' : Calls Tryz.prog 87 #[.string t, .string ⟨#[125]⟩] w fun e w' => e = .returned (.tuple #[.string (t.extract 0 d), .string ⟨(Lib.cut t.data.toList [125]).2.1.toArray⟩, .bool true]) ∧ ∃ n, w' = w.drewN n := by
        refine hct.mono ?_
        rintro e w' ⟨rfl, hn⟩
        refine ⟨?_, hn⟩
        show Ending.returned (.tuple #[.string ⟨(Lib.cut t.data.toList [125]).1.toArray⟩, .string ⟨(Lib.cut t.data.toList [125]).2.1.toArray⟩, .bool (Lib.cut t.data.toList [125]).2.2]) = _
        rw [hd4, hd5]
      have hdz : (t.extract 0 d).size = d := by rw [ByteArray.size_extract]; omega
      have hbr := esc_brace (s := r) (i := 1) (d := d) (by omega) h117 h123 (by omega) (by
        have e := htg d
        rw [hd2] at e
        show (r.get! (3 + d)).toNat = 125
        rw [← e]; rfl) (fun j hj => by
        have e := htg j
        show (r.get! (3 + j)).toNat ≠ 125
        rw [← e]; exact byte_ne (b := 125) (hd3 j hj))
      have hhv : hv (t.extract 0 d) 0 d = hv r (1 + 2) d := by
        rw [hv_pre t d (by omega) d (Nat.le_refl _), ← ht, hv_ext]
      by_cases h6 : 6 < d
      · refine (re_none r t (t.extract 0 d) _ true true w p1 p2 hcp hct' (.inr (.inr ⟨rfl, rfl, by omega⟩))).mono ?_
        intro e w' g
        exact done (rch_no (hbr.1 (.inl h6))) g
      · have hkc := kc_is r (1 + 2) d (by omega) (by omega) (by
          have e := htg d
          rw [hd2] at e
          show (r.get! (3 + d)).toNat = 125
          rw [← e]; rfl)
        have hok : decide (kc r (1 + 2) 7 = d ∧ 0 < d) = true ↔ 0 < (t.extract 0 d).size ∧ ∀ j, j < (t.extract 0 d).size → 0 ≤ hd ((t.extract 0 d).get! j).toNat := by
          rw [decide_eq_true_iff, hdz, hkc]
          have gg : ∀ j, j < d → (t.extract 0 d).get! j = r.get! (1 + 2 + j) := fun j hj => by rw [get!_pre t d j (by omega) hj, htg]
          constructor
          · rintro ⟨a, b⟩; exact ⟨b, fun j hj => by rw [gg j hj]; exact a j hj⟩
          · rintro ⟨a, b⟩; exact ⟨fun j hj => by rw [← gg j hj]; exact b j hj, a⟩
        have hlt := hv_lt r (1 + 2) d
        have h16 : 16 ^ d ≤ 16 ^ 6 := Nat.pow_le_pow_right (by omega) (by omega)
        refine (re_some r t (t.extract 0 d) _ (decide (kc r (1 + 2) 7 = d ∧ 0 < d)) (pointB (hv r (1 + 2) d)) (hv r (1 + 2) d) w p1 p2 hcp hct' (by omega) (fun n => ?_) (by omega) (validRune_point _)).mono ?_
        · have hp := parse_any (t.extract 0 d) (w.drewN n) te pe (by omega) (by simpa using hE) _ hok
          rw [hdz, hhv] at hp
          refine hp.mono ?_
          rintro e w' ⟨a, b⟩
          exact ⟨a, (below_dn _ n).trans b⟩
        · rintro e w' ⟨rfl, hb⟩
          refine ⟨?_, hb⟩
          rw [hdz]
          by_cases hk : kc r (1 + 2) 7 = d ∧ 0 < d
          · rw [decide_eq_true hk]
            cases hpb : pointB (hv r (1 + 2) d) with
            | true =>
              have hh := hbr.2 (by omega) hk.1 hk.2 hpb
              rw [rch_yes hh.1 (by omega) hh.2]
              rfl
            | false => rw [rch_no (hbr.1 (.inr (.inr (.inr hpb))))]; rfl
          · rw [decide_eq_false hk]
            have : rch r = (0, 0) := rch_no (hbr.1 (by
              by_cases e : kc r (1 + 2) 7 = d
              · exact .inr (.inr (.inl (by
                  rcases Nat.eq_zero_or_pos d with z | z
                  · exact z
                  · exact absurd ⟨e, z⟩ hk)))
              · exact .inr (.inl e)))
            rw [this]
            cases pointB (hv r (1 + 2) d) <;> rfl
    · have hct' : Calls Tryz.prog 87 #[.string t, .string ⟨#[125]⟩] w fun e w' => e = .returned (.tuple #[.string ⟨(Lib.cut t.data.toList [125]).1.toArray⟩, .string ⟨(Lib.cut t.data.toList [125]).2.1.toArray⟩, .bool false]) ∧ ∃ n, w' = w.drewN n := by
        refine hct.mono ?_
        rintro e w' ⟨rfl, hn⟩
        refine ⟨?_, hn⟩
        show Ending.returned (.tuple #[.string ⟨(Lib.cut t.data.toList [125]).1.toArray⟩, .string ⟨(Lib.cut t.data.toList [125]).2.1.toArray⟩, .bool (Lib.cut t.data.toList [125]).2.2]) = _
        rw [hn2]
      refine (re_none r t _ _ true false w p1 p2 hcp hct' (.inr (.inl ⟨rfl, rfl⟩))).mono ?_
      intro e w' g
      refine done (rch_no (esc_open (fun j hj => ?_) (by omega))) g
      show (r.get! (3 + j)).toNat ≠ 125
      rw [← htg j]
      exact byte_ne (b := 125) (hn1 j (by omega))
  · have po : Lib.hasPrefix r.data.toList (⟨#[92, 117, 123]⟩ : ByteArray).data.toList = false := by show Lib.hasPrefix r.data.toList [92, 117, 123] = false; rw [p3]; exact decide_eq_false ho
    have et := Lib.trimPrefix_miss r ⟨#[92, 117, 123]⟩ (by rw [Lib.hasPrefix_raw]; exact po)
    rw [et, po] at hcp
    have hct := Tryz.strings_Cut r ⟨#[125]⟩ m w (by omega) hM
    refine (re_none r r _ _ false _ w p1 p2 hcp hct (.inl rfl)).mono ?_
    intro e w' g
    refine done (rch_no ?_) g
    unfold esc
    by_cases c1 : r.size ≤ 1
    · rw [if_pos c1]
    · have n34 := byte_ne (b := 34) (fun e => hq ⟨by omega, e⟩)
      have n92 := byte_ne (b := 92) (fun e => hb ⟨by omega, e⟩)
      rw [if_neg c1, if_neg (by rintro (e | e); exact n34 e; exact n92 e), if_pos]
      by_cases c2 : (r.get! 1).toNat = 117
      · by_cases c3 : r.size ≤ 2
        · exact .inr (.inl c3)
        · refine .inr (.inr (byte_ne (b := 123) (fun e => ho ⟨by omega, h0, UInt8.toNat_inj.1 (by rw [c2]; rfl), e⟩)))
      · exact .inl c2
end Go.Proofs.YthoinjddamlapaaGreatDoor

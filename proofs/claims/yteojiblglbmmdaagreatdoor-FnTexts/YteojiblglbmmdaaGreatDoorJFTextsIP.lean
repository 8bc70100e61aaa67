/-
  The walks of impl.lineCommentSize, impl.blockCommentSize, impl.numberSize, impl.signSize.
-/
import Derived.Test.YteojiblglbmmdaaGreatDoorJFTextsIX
import Derived.Test.YteojiblglbmmdaaGreatDoorJFTextsRL
import Derived.Test.YteojiblglbmmdaaGreatDoorJFTextsIW
import Derived.Lib.IndexAny
import Derived.Lib.IndexMore
namespace Go.Proofs.YteojiblglbmmdaaGreatDoor
open Go.RowKit

theorem glist (t : ByteArray) (j : Nat) (hj : j < t.size) : t.data.toList[j]? = some (t.get! j) := by
  rw [Utf8W.get!_of_lt t j hj]
  have h' : j < t.data.size := hj
  rw [Array.getElem?_toList, Array.getElem?_eq_getElem h']
  rfl

theorem ib_is (r : ByteArray) (c : Int) (i : Int) (hi : Lib.indexByte r.data.toList c.toNat.toUInt8 = i) (w : World) :
    Calls Tryz.prog 66 #[.string r, .int .u8 c] w fun e w' => e = .returned (.int .i64 i) ∧ w' = w := by
  rw [← hi]; exact Tryz.strings_IndexByte r c w

set_option maxHeartbeats 1000000 in
set_option maxRecDepth 1000000 in
theorem line_any (r : ByteArray) (w : World) (hs : r.size ≤ 1048576) (h2 : 2 ≤ r.size) (h0 : (r.get! 0).toNat = 47) (h1 : (r.get! 1).toNat = 47) :
    Calls Tryz.prog 49 #[.string r] w fun e w' => e = .returned (.int .i64 (2 + ln r 2 : Nat)) ∧ w' = w := by
  have hge := Lib.indexByte_ge r.data.toList 10
  obtain ⟨i, hi⟩ : ∃ i, Lib.indexByte r.data.toList 10 = i := ⟨_, rfl⟩
  rw [hi] at hge
  have HI := hide (ib_is r 10 i (by rw [← hi]; rfl))
  by_cases hn : i = -1
  · have HR : Hid (2 + ln r 2 = r.size) := by
      show _ = _
      have hno := Lib.indexByte_none (hi.trans hn)
      have : ln r 2 = r.size - 2 := cw_is (by omega) (fun j hj => by
        rw [bne_iff_ne]
        intro e
        exact hno (2 + j) (by rw [glist r _ (by omega)]; congr 1; exact UInt8.toNat_inj.1 e)) (fun g => by omega)
      omega
    have t1 : decide (0 ≤ i) = false := decide_eq_false (by omega)
    clear hi hge hn h0 h1
    go_enter Tryz.func49, Tryz.ntmps49
    go_wp2_with fail
    refine (HI.out _).mono ?_
    rintro e w' ⟨rfl, rfl⟩
    go_wp2
    go_ret
    exact ⟨by rw [HR.out]; rfl, rfl⟩
  · obtain ⟨o, ho⟩ : ∃ o : Nat, i = (o : Int) := ⟨i.toNat, by omega⟩
    have HR : Hid (2 + ln r 2 = o) := by
      show _ = _
      have hso := Lib.indexByte_some (hi.trans ho)
      have hoz : o < r.size := by
        rcases Nat.lt_or_ge o r.size with g | g
        · exact g
        · have := hso.1
          rw [List.getElem?_eq_none (by rw [Array.length_toList]; exact g)] at this
          cases this
      have hob : r.get! o = 10 := by have := hso.1; rw [glist r o hoz] at this; exact Option.some.inj this
      have ho0 : o ≠ 0 := fun e => by rw [e] at hob; rw [hob] at h0; exact absurd h0 (by decide)
      have ho1 : o ≠ 1 := fun e => by rw [e] at hob; rw [hob] at h1; exact absurd h1 (by decide)
      have : ln r 2 = o - 2 := cw_is (by omega) (fun j hj => by
        rw [bne_iff_ne]
        intro e
        exact hso.2 (2 + j) (by omega) (by rw [glist r _ (by omega)]; congr 1; exact UInt8.toNat_inj.1 e)) (fun g => by
        rw [show 2 + (o - 2) = o by omega, hob] at g
        exact absurd g.2 (by decide))
      omega
    subst ho
    have t1 : decide (0 ≤ (o : Int)) = true := decide_eq_true (by omega)
    clear hi hge hn h0 h1
    go_enter Tryz.func49, Tryz.ntmps49
    go_wp2_with fail
    refine (HI.out _).mono ?_
    rintro e w' ⟨rfl, rfl⟩
    go_wp2
    go_ret
    exact ⟨by rw [HR.out]; rfl, rfl⟩

theorem drop_list (t : ByteArray) (i : Nat) : (t.extract i t.size).data.toList = t.data.toList.drop i := by
  rw [Lib.extract_eq]
  exact List.take_of_length_le (by rw [List.length_drop, ← Lib.size_eq]; exact Nat.le_refl _)
theorem occ2 (t : ByteArray) (i : Nat) (hi : i ≤ t.size) : Lib.occAt t.data.toList [42, 47] i = true ↔ i + 1 < t.size ∧ (t.get! i).toNat = 42 ∧ (t.get! (i + 1)).toNat = 47 := by
  have h := pre_two (t.extract i t.size) 42 47
  rw [get!_extract, get!_extract, size_ext t i hi] at h
  unfold Lib.occAt
  rw [← drop_list]
  show Lib.hasPrefix _ _ = true ↔ _
  rw [h, decide_eq_true_iff]
  constructor
  · rintro ⟨a, b, c⟩; exact ⟨by omega, by rw [← show i + 0 = i from rfl, b]; rfl, by rw [c]; rfl⟩
  · rintro ⟨a, b, c⟩; exact ⟨by omega, UInt8.toNat_inj.1 b, UInt8.toNat_inj.1 c⟩

/-- What the program makes of a comment's end. -/
def bsz : Option Nat → Nat
  | some q => q + 2
  | none => 0

set_option maxHeartbeats 1000000 in
set_option maxRecDepth 1000000 in
theorem block_any (r : ByteArray) (w : World) (m : Int) (hs : r.size ≤ 1048576) (h2 : 2 ≤ r.size) (hM : w.cell? ⟨0, 0, none⟩ = some (.int .i64 m)) :
    Calls Tryz.prog 50 #[.string r] w fun e w' => e = .returned (.int .i64 (bsz (bc r 2 r.size))) ∧ w' = w := by
  have HI := Tryz.strings_Index (r.extract 2 r.size) ⟨#[42, 47]⟩ m w (by rw [size_ext r 2 h2]; omega) hM
  have hz := size_ext r 2 h2
  have hg : ∀ k, (r.extract 2 r.size).get! k = r.get! (2 + k) := fun k => get!_extract r 2 k
  have hsp := Lib.index_spec (r.extract 2 r.size).data.toList [42, 47]
  have hoc := occ2 (r.extract 2 r.size)
  obtain ⟨t, ht⟩ : ∃ t, r.extract 2 r.size = t := ⟨_, rfl⟩
  rw [ht] at HI hz hg hsp hoc
  have hlen : t.data.toList.length = t.size := by rw [Array.length_toList]; rfl
  rw [hlen] at hsp
  rcases hsp with ⟨e, hno⟩ | ⟨i, e, hi, ho, hno⟩
  · have HR : Hid (bc r 2 r.size = none) := bc_miss r r.size 2 (fun j hj g => by
      have := hno j (by omega)
      rw [(hoc j (by omega)).2 ⟨by omega, by rw [hg]; exact g.1, by rw [hg, show 2 + (j + 1) = 2 + j + 1 by omega]; exact g.2⟩] at this
      cases this)
    have HI' : Hid (Calls Tryz.prog 67 #[.string t, .string ⟨#[42, 47]⟩] w fun e w' => e = .returned (.int .i64 (-1)) ∧ w' = w) := by
      show Calls _ _ _ _ _
      rw [← e]; exact HI
    clear HI hg hoc hno e hz hlen
    rw [HR.out]
    show Calls _ _ _ _ fun e w' => e = .returned (.int .i64 0) ∧ w' = w
    have ht' := ht
    go_enter Tryz.func50, Tryz.ntmps50
    go_wp2_with fail
    refine HI'.out.mono ?_
    rintro e w' ⟨rfl, rfl⟩
    go_wp2
    go_ret
    exact ⟨rfl, rfl⟩
  · have hoi := (hoc i hi).1 ho
    have HR : Hid (bc r 2 r.size = some (2 + i)) := bc_hit r r.size 2 i (by omega) (by omega) (fun j hj g => by
      have := hno j hj
      rw [(hoc j (by omega)).2 ⟨by omega, by rw [hg]; exact g.1, by rw [hg, show 2 + (j + 1) = 2 + j + 1 by omega]; exact g.2⟩] at this
      cases this) (by rw [← hg]; exact hoi.2.1) (by rw [show 2 + i + 1 = 2 + (i + 1) by omega, ← hg]; exact hoi.2.2)
    have HI' : Hid (Calls Tryz.prog 67 #[.string t, .string ⟨#[42, 47]⟩] w fun e w' => e = .returned (.int .i64 i) ∧ w' = w) := by
      show Calls _ _ _ _ _
      rw [← e]; exact HI
    have hi2 : i ≤ 1048576 := by omega
    clear HI hg hoc hno e hoi ho
    rw [HR.out]
    show Calls _ _ _ _ fun e w' => e = .returned (.int .i64 ((2 + i + 2 : Nat) : Int)) ∧ w' = w
    have t1 : decide ((i : Int) < 0) = false := decide_eq_false (by omega)
    have ht' := ht
    clear hz hlen
    go_enter Tryz.func50, Tryz.ntmps50
    go_wp2_with fail
    refine HI'.out.mono ?_
    rintro e w' ⟨rfl, rfl⟩
    go_wp2
    go_ret
    exact ⟨ret_int (by omega), rfl⟩
end Go.Proofs.YteojiblglbmmdaaGreatDoor

/-
  The walks of strconv.ParseUint at base 16, 32 bits, at most six bytes.
-/
import Derived.Test.YteojiblglbmmdaaGreatDoorJFTextsA16
import Derived.Test.YteojiblglbmmdaaGreatDoorJFTextsShelf
namespace Go.Proofs.YteojiblglbmmdaaGreatDoor
open Go.RowKit

set_option maxHeartbeats 1000000 in
set_option maxRecDepth 1000000 in
theorem pu16_empty (w : World) : Calls Tryz.prog 77 #[.string ByteArray.empty, .int .i64 16, .int .i64 32] w fun e w' => e = .returned (.tuple #[.int .u64 0, .iface 98 (.int .i64 2)]) ∧ w' = w := by
  have hne : ByteArray.empty.toList.isEmpty = true := by rw [Lib.toList_data]; rfl
  go_enter Tryz.func77, Tryz.ntmps77
  go_wp2
  go_ret2
  exact ⟨rfl, rfl⟩

/-- What strconv.ParseUint answers: a number (ok) or an error. -/
def PuEnds (ok : Bool) (v : Nat) (e : Ending) : Prop := (ok = true → e = .returned (.tuple #[.int .u64 v, .nilIface])) ∧ (ok = false → ∃ N, e = .returned (.tuple #[.int .u64 0, .iface 100 (.pointer (some ⟨N, 0, none⟩))]))

set_option maxHeartbeats 1000000 in
set_option maxRecDepth 1000000 in
theorem parse_bad (s : ByteArray) (w : World) (te : TypeId) (pe : Value) (hs : s.size ≤ 6) (hE : w.cell? ⟨4, 0, none⟩ = some (.iface te pe))
    (hin : Calls Tryz.prog 77 #[.string s, .int .i64 16, .int .i64 32] w fun e w' => e = .returned (.tuple #[.int .u64 0, .iface 98 (.int .i64 2)]) ∧ Below w.heap.size w w') :
    Calls Tryz.prog 64 #[.string s, .int .i64 16, .int .i64 32] w fun e w' => (∃ N, e = .returned (.tuple #[.int .u64 0, .iface 100 (.pointer (some ⟨N, 0, none⟩))])) ∧ Below w.heap.size w w' := by
  have HIN := hide hin
  have HE := hide hE
  have hlt : 4 < w.heap.size := World.block_lt_of_cell? _ _ hE
  clear hin hE
  go_enter Tryz.func64, Tryz.ntmps64
  go_wp2_with fail
  refine HIN.out.mono ?_
  rintro e w1 ⟨rfl, hb1⟩
  have HT := hide (fun fn => Tryz.strconv_toError_syntax fn s 16 32 (.iface te pe) w1 (by omega) (by rw [hb1.cell (p := ⟨4, 0, none⟩) hlt]; exact HE.out) (.inr ⟨te, pe, rfl⟩))
  have HB1 := hide hb1
  have HS := hide hb1.size
  clear hb1
  go_wp2_with fail
  refine (HT.out _).mono ?_
  rintro e w2 ⟨N, rfl, hN, hcells, hb2⟩
  have HB2 : Hid (Below w.heap.size w w2) := HB1.out.trans (hb2.mono HS.out)
  clear hcells hb2
  go_wp2
  go_ret2
  exact ⟨⟨N, rfl⟩, HB2.out⟩

set_option maxHeartbeats 1000000 in
set_option maxRecDepth 1000000 in
theorem parse_good (s : ByteArray) (w : World) (v : Nat)
    (hin : Calls Tryz.prog 77 #[.string s, .int .i64 16, .int .i64 32] w fun e w' => e = .returned (.tuple #[.int .u64 v, .nilIface]) ∧ Below w.heap.size w w') :
    Calls Tryz.prog 64 #[.string s, .int .i64 16, .int .i64 32] w fun e w' => e = .returned (.tuple #[.int .u64 v, .nilIface]) ∧ Below w.heap.size w w' := by
  have HIN := hide hin
  clear hin
  go_enter Tryz.func64, Tryz.ntmps64
  go_wp2_with fail
  refine HIN.out.mono ?_
  rintro e w1 ⟨rfl, hb1⟩
  have HB1 := hide hb1
  clear hb1
  go_wp2
  go_ret2
  exact ⟨rfl, HB1.out⟩

/-- At most six bytes: the number that they write if they are digits alone, at least one; else an error. -/
theorem parse_any (s : ByteArray) (w : World) (te : TypeId) (pe : Value) (h6 : s.size ≤ 6) (hE : w.cell? ⟨4, 0, none⟩ = some (.iface te pe)) (ok : Bool) (hok : ok = true ↔ 0 < s.size ∧ ∀ j, j < s.size → 0 ≤ hd (s.get! j).toNat) :
    Calls Tryz.prog 64 #[.string s, .int .i64 16, .int .i64 32] w fun e w' => PuEnds ok (hv s 0 s.size) e ∧ Below w.heap.size w w' := by
  cases ok with
  | true =>
    obtain ⟨h0, hall⟩ := hok.1 rfl
    have h := pu16_any s w s.size h0 h6 (Nat.le_refl _) hall (.inl rfl)
    refine (parse_good s w (hv s 0 s.size) (h.mono ?_)).mono ?_
    · rintro e w' ⟨rfl, hb⟩; exact ⟨by rw [puRes_ok rfl rfl rfl], hb⟩
    · rintro e w' ⟨rfl, hb⟩; exact ⟨⟨fun _ => rfl, fun g => absurd g (by decide)⟩, hb⟩
  | false =>
    refine (parse_bad s w te pe h6 hE ?_).mono ?_
    · by_cases h0 : s.size = 0
      · have e : s = ByteArray.empty := ext_bytes h0 (fun j hj => by omega)
        rw [e]
        refine (pu16_empty w).mono ?_
        rintro e w' ⟨rfl, rfl⟩
        exact ⟨rfl, Below.refl _ _⟩
      · have hex : ∃ j, j < s.size ∧ hd (s.get! j).toNat = -1 := by
          refine Classical.byContradiction fun g => ?_
          have : false = true := hok.2 ⟨by omega, fun j hj => by
            have h1 := hd_lt (s.get! j).toNat
            have h2 : ¬ hd (s.get! j).toNat = -1 := fun e => g ⟨j, hj, e⟩
            omega⟩
          cases this
        have hfirst : ∃ j, (j < s.size ∧ hd (s.get! j).toNat = -1) ∧ ∀ k, k < j → 0 ≤ hd (s.get! k).toNat := by
          obtain ⟨j, hj, e⟩ := hex
          induction j using Nat.strongRecOn with
          | _ j ih =>
            by_cases g : ∃ k, k < j ∧ hd (s.get! k).toNat = -1
            · obtain ⟨k, hk, ek⟩ := g
              exact ih k hk (by omega) ek
            · refine ⟨j, ⟨hj, e⟩, fun k hk => ?_⟩
              have h1 := hd_lt (s.get! k).toNat
              have h2 : ¬ hd (s.get! k).toNat = -1 := fun e => g ⟨k, hk, e⟩
              omega
        obtain ⟨j, ⟨hj, e⟩, hb⟩ := hfirst
        refine (pu16_any s w j (by omega) h6 (by omega) hb (.inr e)).mono ?_
        rintro e w' ⟨rfl, hb⟩
        exact ⟨by rw [puRes_no (by omega)], hb⟩
    · rintro e w' ⟨h, hb⟩; exact ⟨⟨fun g => absurd g (by decide), fun _ => h⟩, hb⟩
end Go.Proofs.YteojiblglbmmdaaGreatDoor
